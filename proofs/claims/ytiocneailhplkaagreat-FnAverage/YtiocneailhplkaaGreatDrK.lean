/-
  The specification's product once more: where its lists lie.
-/
import Derived.Test.YtiocneailhplkaaGreatOpK
namespace Go.Proofs.YtiocneailhplkaaGreat
open Go.RowKit

set_option maxRecDepth 100000 in
set_option maxHeartbeats 1600000 in
theorem l3Mul_own {w : World} {b1 o1 b2 o2 b3 o3 b4 o4 : Nat} {f h f' h' : Nat → Int} (c1 c2 c3 c4 : Nat) (hs : Ints w b1 o1 9 f) (ht : Ints w b2 o2 3 h) (hs' : Ints w b3 o3 9 f') (ht' : Ints w b4 o4 3 h') (l1 : b1 < w.heap.size) (l2 : b2 < w.heap.size) (l3 : b3 < w.heap.size) (l4 : b4 < w.heap.size) (hF : isR f h) (hG : isR f' h') :
    Calls Tryz.prog 59 #[.agg #[.slice (some ⟨b1, o1, none⟩) 9 c1, .slice (some ⟨b2, o2, none⟩) 3 c2], .agg #[.slice (some ⟨b3, o3, none⟩) 9 c3, .slice (some ⟨b4, o4, none⟩) 3 c4]] w fun e w' => ∃ g9 g3, e = .returned (.agg #[.slice (some ⟨g9, 0, none⟩) 9 9, .slice (some ⟨g3, 0, none⟩) 3 3]) ∧ OpAt w' w.heap.size w'.heap.size (.agg #[.slice (some ⟨g9, 0, none⟩) 9 9, .slice (some ⟨g3, 0, none⟩) 3 3]) 9 (mulM f f') 3 (behV f h h') ∧ Below w.heap.size w w' := by
  obtain ⟨W1, hW1, a1, bW1, -⟩ := boxed w 57 #[.slice (some ⟨b1, o1, none⟩) 9 c1, .slice (some ⟨b2, o2, none⟩) 3 c2]
  obtain ⟨W2, hW2, a2, bW2, -⟩ := boxed W1 57 #[.slice (some ⟨b3, o3, none⟩) 9 c3, .slice (some ⟨b4, o4, none⟩) 3 c4]
  obtain ⟨W3, hW3, a3, bW3, -⟩ := boxed W2 57 #[.slice none 0 0, .slice none 0 0]
  have s1 := a1.lt
  have s2 := a2.lt
  have s3 := a3.lt
  replace a1 := (a1.below bW2).below bW3
  replace a2 := a2.below bW3
  replace bW1 := (bW1.trans (bW2.mono bW1.size)).trans (bW3.mono (by omega))
  have hf := hF.1
  have hh := hF.2.1
  have hf' := hG.1
  have hh' := hG.2.1
  clear hF hG bW2 bW3
  go_enter Tryz.func59, Tryz.ntmps59
  go_wp2
  clear hW1 hW2 hW3
  go_cut [5] from 6 (fun s5 wc => MulAt w #[.slice (some ⟨b1, o1, none⟩) 9 c1, .slice (some ⟨b2, o2, none⟩) 3 c2] #[.slice (some ⟨b3, o3, none⟩) 9 c3, .slice (some ⟨b4, o4, none⟩) 3 c4] W1.heap.size W2.heap.size s5 wc)
  case first =>
    obtain ⟨w0, hw0, D2, D3, D4, B0, t⟩ : ∃ w0, W3.drew = w0 ∧ At 57 w0 w.heap.size #[.slice (some ⟨b1, o1, none⟩) 9 c1, .slice (some ⟨b2, o2, none⟩) 3 c2] ∧ At 57 w0 W1.heap.size #[.slice (some ⟨b3, o3, none⟩) 9 c3, .slice (some ⟨b4, o4, none⟩) 3 c4] ∧ At 57 w0 W2.heap.size #[.slice none 0 0, .slice none 0 0] ∧ Below w.heap.size w w0 ∧ W3.heap.size ≤ w0.heap.size := ⟨_, rfl, a1, a2, a3, bW1.drew, Nat.le_refl _⟩
    refine wp_region_held_drew (S := fun _ => True) (by kernel_rfl) (trivial) (fun hHeld => ?_)
    rw [hw0]
    clear hw0 a1 a2 a3 bW1
    change wpAnyH _ _ _ _ _ 5 #[false, false, false, false, false] _ _
    refine wpAnyH_ready (rs := [0, 1, 3]) (by kernel_rfl) (by simp) ?_
    refine AllReadyH.cons rfl (fun K hK => ?_) ?_
    · have hmk := make9
      obtain ⟨w1, hn, M9, b, z⟩ := boxed w0 2 (matA fun _ => 0)
      unfold matA at hmk hn
      go_simp
      try rw [hn]
      clear hmk
      clear hn
      replace D2 := D2.below b
      replace D3 := D3.below b
      replace D4 := D4.below b
      replace B0 := B0.trans (b.mono B0.size)
      obtain ⟨g9, hg9⟩ : ∃ g9, w0.heap.size = g9 := ⟨_, rfl⟩
      rw [hg9] at M9 z
      try rw [hg9]
      clear b
      clear hHeld
      have t0 : g9 < w1.heap.size := by omega
      clear z
      refine hK.out _ _ trivial (fun hHeld => ?_)
      clear hK K
      try simp only [List.setIfInBounds_toArray, List.set_cons_zero]
      refine wpAnyH_ready (rs := [1, 3]) (by kernel_rfl) (by simp) ?_
      refine AllReadyH.cons rfl (fun K hK => ?_) ?_
      · have hmk := make3
        obtain ⟨w2, hn, M3, b, z⟩ := boxed w1 2 (vA fun _ => 0)
        unfold vA at hmk hn
        go_simp
        try rw [hn]
        clear hmk
        clear hn
        replace D2 := D2.below b
        replace D3 := D3.below b
        replace D4 := D4.below b
        replace M9 := M9.below b
        replace B0 := B0.trans (b.mono B0.size)
        obtain ⟨g3, hg3⟩ : ∃ g3, w1.heap.size = g3 := ⟨_, rfl⟩
        rw [hg3] at M3 z
        try rw [hg3]
        clear b
        clear hHeld
        have t1 : g3 < w2.heap.size := by omega
        clear z
        refine hK.out _ _ trivial (fun hHeld => ?_)
        clear hK K
        try simp only [List.setIfInBounds_toArray, List.set_cons_zero, List.set_cons_succ]
        refine wpAnyH_take (i := 2) (v := .agg #[.slice (some ⟨g9, 0, none⟩) 9 9, .slice (some ⟨g3, 0, none⟩) 3 3]) rfl (by kernel_rfl) (by kernel_rfl) (by kernel_rfl) (fun _ _ _ h => h) (Or.inl ⟨by kernel_rfl, ?_⟩) hHeld ?_
        · intro w' hSw; go_simp
        try simp only [Act.put, List.setIfInBounds_toArray, List.set_cons_zero, List.set_cons_succ]
        refine wpAnyH_ready (rs := [3]) (by kernel_rfl) (by simp) ?_
        refine AllReadyH.cons rfl (fun K hK => ?_) AllReadyH.nil
        obtain ⟨w3, hn, D5, b, z⟩ := boxed w2 57 #[.slice none 0 0, .slice none 0 0]
        go_simp
        try rw [hn]
        clear hn
        replace D2 := D2.below b
        replace D3 := D3.below b
        replace D4 := D4.below b
        replace M9 := M9.below b
        replace M3 := M3.below b
        replace B0 := B0.trans (b.mono B0.size)
        obtain ⟨q, hq⟩ : ∃ q, w2.heap.size = q := ⟨_, rfl⟩
        rw [hq] at D5 z
        try rw [hq]
        clear b
        clear hHeld
        have t2 : q < w3.heap.size := by omega
        clear z
        refine hK.out _ _ trivial (fun hHeld => ?_)
        clear hK K
        try simp only [List.setIfInBounds_toArray, List.set_cons_zero, List.set_cons_succ]
        have p1 : W3.heap.size ≤ q ∧ W3.heap.size ≤ g9 ∧ W3.heap.size ≤ g3 ∧ q ≠ g9 ∧ q ≠ g3 ∧ g9 ≠ g3 := by omega
        refine wpAnyH_ready (rs := [4]) (by kernel_rfl) (by simp) ?_
        refine AllReadyH.cons rfl (fun K hK => ?_) AllReadyH.nil
        obtain ⟨x0, x1, y0, y1⟩ := D5.open2
        go_simp
        clear x0 x1 y0 y1 hHeld
        refine hK.out _ _ trivial (fun hHeld => ?_)
        clear hK K hHeld
        try simp only [List.setIfInBounds_toArray, List.set_cons_zero, List.set_cons_succ]
        refine wpAnyH_done (by kernel_rfl) ?_ _
        go_wp2_with fail
        go_meet
        case rel => exact mulAt_mk p1 s1 s2 s3 D2 D3 D4 D5 M9 M3 B0
      refine AllReadyH.cons rfl (fun K hK => ?_) AllReadyH.nil
      obtain ⟨w2, hn, D5, b, z⟩ := boxed w1 57 #[.slice none 0 0, .slice none 0 0]
      go_simp
      try rw [hn]
      clear hn
      replace D2 := D2.below b
      replace D3 := D3.below b
      replace D4 := D4.below b
      replace M9 := M9.below b
      replace B0 := B0.trans (b.mono B0.size)
      obtain ⟨q, hq⟩ : ∃ q, w1.heap.size = q := ⟨_, rfl⟩
      rw [hq] at D5 z
      try rw [hq]
      clear b
      clear hHeld
      have t1 : q < w2.heap.size := by omega
      clear z
      refine hK.out _ _ trivial (fun hHeld => ?_)
      clear hK K
      try simp only [List.setIfInBounds_toArray, List.set_cons_zero, List.set_cons_succ]
      refine wpAnyH_ready (rs := [1]) (by kernel_rfl) (by simp) ?_
      refine AllReadyH.cons rfl (fun K hK => ?_) AllReadyH.nil
      have hmk := make3
      obtain ⟨w3, hn, M3, b, z⟩ := boxed w2 2 (vA fun _ => 0)
      unfold vA at hmk hn
      go_simp
      try rw [hn]
      clear hmk
      clear hn
      replace D2 := D2.below b
      replace D3 := D3.below b
      replace D4 := D4.below b
      replace M9 := M9.below b
      replace D5 := D5.below b
      replace B0 := B0.trans (b.mono B0.size)
      obtain ⟨g3, hg3⟩ : ∃ g3, w2.heap.size = g3 := ⟨_, rfl⟩
      rw [hg3] at M3 z
      try rw [hg3]
      clear b
      clear hHeld
      have t2 : g3 < w3.heap.size := by omega
      clear z
      refine hK.out _ _ trivial (fun hHeld => ?_)
      clear hK K
      try simp only [List.setIfInBounds_toArray, List.set_cons_zero, List.set_cons_succ]
      refine wpAnyH_take (i := 2) (v := .agg #[.slice (some ⟨g9, 0, none⟩) 9 9, .slice (some ⟨g3, 0, none⟩) 3 3]) rfl (by kernel_rfl) (by kernel_rfl) (by kernel_rfl) (fun _ _ _ h => h) (Or.inl ⟨by kernel_rfl, ?_⟩) hHeld ?_
      · intro w' hSw; go_simp
      try simp only [Act.put, List.setIfInBounds_toArray, List.set_cons_zero, List.set_cons_succ]
      have p1 : W3.heap.size ≤ q ∧ W3.heap.size ≤ g9 ∧ W3.heap.size ≤ g3 ∧ q ≠ g9 ∧ q ≠ g3 ∧ g9 ≠ g3 := by omega
      refine wpAnyH_ready (rs := [4]) (by kernel_rfl) (by simp) ?_
      refine AllReadyH.cons rfl (fun K hK => ?_) AllReadyH.nil
      obtain ⟨x0, x1, y0, y1⟩ := D5.open2
      go_simp
      clear x0 x1 y0 y1 hHeld
      refine hK.out _ _ trivial (fun hHeld => ?_)
      clear hK K hHeld
      try simp only [List.setIfInBounds_toArray, List.set_cons_zero, List.set_cons_succ]
      refine wpAnyH_done (by kernel_rfl) ?_ _
      go_wp2_with fail
      go_meet
      case rel => exact mulAt_mk p1 s1 s2 s3 D2 D3 D4 D5 M9 M3 B0
    refine AllReadyH.cons rfl (fun K hK => ?_) ?_
    · have hmk := make3
      obtain ⟨w1, hn, M3, b, z⟩ := boxed w0 2 (vA fun _ => 0)
      unfold vA at hmk hn
      go_simp
      try rw [hn]
      clear hmk
      clear hn
      replace D2 := D2.below b
      replace D3 := D3.below b
      replace D4 := D4.below b
      replace B0 := B0.trans (b.mono B0.size)
      obtain ⟨g3, hg3⟩ : ∃ g3, w0.heap.size = g3 := ⟨_, rfl⟩
      rw [hg3] at M3 z
      try rw [hg3]
      clear b
      clear hHeld
      have t0 : g3 < w1.heap.size := by omega
      clear z
      refine hK.out _ _ trivial (fun hHeld => ?_)
      clear hK K
      try simp only [List.setIfInBounds_toArray, List.set_cons_zero, List.set_cons_succ]
      refine wpAnyH_ready (rs := [0, 3]) (by kernel_rfl) (by simp) ?_
      refine AllReadyH.cons rfl (fun K hK => ?_) ?_
      · have hmk := make9
        obtain ⟨w2, hn, M9, b, z⟩ := boxed w1 2 (matA fun _ => 0)
        unfold matA at hmk hn
        go_simp
        try rw [hn]
        clear hmk
        clear hn
        replace D2 := D2.below b
        replace D3 := D3.below b
        replace D4 := D4.below b
        replace M3 := M3.below b
        replace B0 := B0.trans (b.mono B0.size)
        obtain ⟨g9, hg9⟩ : ∃ g9, w1.heap.size = g9 := ⟨_, rfl⟩
        rw [hg9] at M9 z
        try rw [hg9]
        clear b
        clear hHeld
        have t1 : g9 < w2.heap.size := by omega
        clear z
        refine hK.out _ _ trivial (fun hHeld => ?_)
        clear hK K
        try simp only [List.setIfInBounds_toArray, List.set_cons_zero]
        refine wpAnyH_take (i := 2) (v := .agg #[.slice (some ⟨g9, 0, none⟩) 9 9, .slice (some ⟨g3, 0, none⟩) 3 3]) rfl (by kernel_rfl) (by kernel_rfl) (by kernel_rfl) (fun _ _ _ h => h) (Or.inl ⟨by kernel_rfl, ?_⟩) hHeld ?_
        · intro w' hSw; go_simp
        try simp only [Act.put, List.setIfInBounds_toArray, List.set_cons_zero, List.set_cons_succ]
        refine wpAnyH_ready (rs := [3]) (by kernel_rfl) (by simp) ?_
        refine AllReadyH.cons rfl (fun K hK => ?_) AllReadyH.nil
        obtain ⟨w3, hn, D5, b, z⟩ := boxed w2 57 #[.slice none 0 0, .slice none 0 0]
        go_simp
        try rw [hn]
        clear hn
        replace D2 := D2.below b
        replace D3 := D3.below b
        replace D4 := D4.below b
        replace M3 := M3.below b
        replace M9 := M9.below b
        replace B0 := B0.trans (b.mono B0.size)
        obtain ⟨q, hq⟩ : ∃ q, w2.heap.size = q := ⟨_, rfl⟩
        rw [hq] at D5 z
        try rw [hq]
        clear b
        clear hHeld
        have t2 : q < w3.heap.size := by omega
        clear z
        refine hK.out _ _ trivial (fun hHeld => ?_)
        clear hK K
        try simp only [List.setIfInBounds_toArray, List.set_cons_zero, List.set_cons_succ]
        have p1 : W3.heap.size ≤ q ∧ W3.heap.size ≤ g9 ∧ W3.heap.size ≤ g3 ∧ q ≠ g9 ∧ q ≠ g3 ∧ g9 ≠ g3 := by omega
        refine wpAnyH_ready (rs := [4]) (by kernel_rfl) (by simp) ?_
        refine AllReadyH.cons rfl (fun K hK => ?_) AllReadyH.nil
        obtain ⟨x0, x1, y0, y1⟩ := D5.open2
        go_simp
        clear x0 x1 y0 y1 hHeld
        refine hK.out _ _ trivial (fun hHeld => ?_)
        clear hK K hHeld
        try simp only [List.setIfInBounds_toArray, List.set_cons_zero, List.set_cons_succ]
        refine wpAnyH_done (by kernel_rfl) ?_ _
        go_wp2_with fail
        go_meet
        case rel => exact mulAt_mk p1 s1 s2 s3 D2 D3 D4 D5 M9 M3 B0
      refine AllReadyH.cons rfl (fun K hK => ?_) AllReadyH.nil
      obtain ⟨w2, hn, D5, b, z⟩ := boxed w1 57 #[.slice none 0 0, .slice none 0 0]
      go_simp
      try rw [hn]
      clear hn
      replace D2 := D2.below b
      replace D3 := D3.below b
      replace D4 := D4.below b
      replace M3 := M3.below b
      replace B0 := B0.trans (b.mono B0.size)
      obtain ⟨q, hq⟩ : ∃ q, w1.heap.size = q := ⟨_, rfl⟩
      rw [hq] at D5 z
      try rw [hq]
      clear b
      clear hHeld
      have t1 : q < w2.heap.size := by omega
      clear z
      refine hK.out _ _ trivial (fun hHeld => ?_)
      clear hK K
      try simp only [List.setIfInBounds_toArray, List.set_cons_zero, List.set_cons_succ]
      refine wpAnyH_ready (rs := [0]) (by kernel_rfl) (by simp) ?_
      refine AllReadyH.cons rfl (fun K hK => ?_) AllReadyH.nil
      have hmk := make9
      obtain ⟨w3, hn, M9, b, z⟩ := boxed w2 2 (matA fun _ => 0)
      unfold matA at hmk hn
      go_simp
      try rw [hn]
      clear hmk
      clear hn
      replace D2 := D2.below b
      replace D3 := D3.below b
      replace D4 := D4.below b
      replace M3 := M3.below b
      replace D5 := D5.below b
      replace B0 := B0.trans (b.mono B0.size)
      obtain ⟨g9, hg9⟩ : ∃ g9, w2.heap.size = g9 := ⟨_, rfl⟩
      rw [hg9] at M9 z
      try rw [hg9]
      clear b
      clear hHeld
      have t2 : g9 < w3.heap.size := by omega
      clear z
      refine hK.out _ _ trivial (fun hHeld => ?_)
      clear hK K
      try simp only [List.setIfInBounds_toArray, List.set_cons_zero]
      refine wpAnyH_take (i := 2) (v := .agg #[.slice (some ⟨g9, 0, none⟩) 9 9, .slice (some ⟨g3, 0, none⟩) 3 3]) rfl (by kernel_rfl) (by kernel_rfl) (by kernel_rfl) (fun _ _ _ h => h) (Or.inl ⟨by kernel_rfl, ?_⟩) hHeld ?_
      · intro w' hSw; go_simp
      try simp only [Act.put, List.setIfInBounds_toArray, List.set_cons_zero, List.set_cons_succ]
      have p1 : W3.heap.size ≤ q ∧ W3.heap.size ≤ g9 ∧ W3.heap.size ≤ g3 ∧ q ≠ g9 ∧ q ≠ g3 ∧ g9 ≠ g3 := by omega
      refine wpAnyH_ready (rs := [4]) (by kernel_rfl) (by simp) ?_
      refine AllReadyH.cons rfl (fun K hK => ?_) AllReadyH.nil
      obtain ⟨x0, x1, y0, y1⟩ := D5.open2
      go_simp
      clear x0 x1 y0 y1 hHeld
      refine hK.out _ _ trivial (fun hHeld => ?_)
      clear hK K hHeld
      try simp only [List.setIfInBounds_toArray, List.set_cons_zero, List.set_cons_succ]
      refine wpAnyH_done (by kernel_rfl) ?_ _
      go_wp2_with fail
      go_meet
      case rel => exact mulAt_mk p1 s1 s2 s3 D2 D3 D4 D5 M9 M3 B0
    refine AllReadyH.cons rfl (fun K hK => ?_) AllReadyH.nil
    obtain ⟨w1, hn, D5, b, z⟩ := boxed w0 57 #[.slice none 0 0, .slice none 0 0]
    go_simp
    try rw [hn]
    clear hn
    replace D2 := D2.below b
    replace D3 := D3.below b
    replace D4 := D4.below b
    replace B0 := B0.trans (b.mono B0.size)
    obtain ⟨q, hq⟩ : ∃ q, w0.heap.size = q := ⟨_, rfl⟩
    rw [hq] at D5 z
    try rw [hq]
    clear b
    clear hHeld
    have t0 : q < w1.heap.size := by omega
    clear z
    refine hK.out _ _ trivial (fun hHeld => ?_)
    clear hK K
    try simp only [List.setIfInBounds_toArray, List.set_cons_zero, List.set_cons_succ]
    refine wpAnyH_ready (rs := [0, 1]) (by kernel_rfl) (by simp) ?_
    refine AllReadyH.cons rfl (fun K hK => ?_) ?_
    · have hmk := make9
      obtain ⟨w2, hn, M9, b, z⟩ := boxed w1 2 (matA fun _ => 0)
      unfold matA at hmk hn
      go_simp
      try rw [hn]
      clear hmk
      clear hn
      replace D2 := D2.below b
      replace D3 := D3.below b
      replace D4 := D4.below b
      replace D5 := D5.below b
      replace B0 := B0.trans (b.mono B0.size)
      obtain ⟨g9, hg9⟩ : ∃ g9, w1.heap.size = g9 := ⟨_, rfl⟩
      rw [hg9] at M9 z
      try rw [hg9]
      clear b
      clear hHeld
      have t1 : g9 < w2.heap.size := by omega
      clear z
      refine hK.out _ _ trivial (fun hHeld => ?_)
      clear hK K
      try simp only [List.setIfInBounds_toArray, List.set_cons_zero]
      refine wpAnyH_ready (rs := [1]) (by kernel_rfl) (by simp) ?_
      refine AllReadyH.cons rfl (fun K hK => ?_) AllReadyH.nil
      have hmk := make3
      obtain ⟨w3, hn, M3, b, z⟩ := boxed w2 2 (vA fun _ => 0)
      unfold vA at hmk hn
      go_simp
      try rw [hn]
      clear hmk
      clear hn
      replace D2 := D2.below b
      replace D3 := D3.below b
      replace D4 := D4.below b
      replace D5 := D5.below b
      replace M9 := M9.below b
      replace B0 := B0.trans (b.mono B0.size)
      obtain ⟨g3, hg3⟩ : ∃ g3, w2.heap.size = g3 := ⟨_, rfl⟩
      rw [hg3] at M3 z
      try rw [hg3]
      clear b
      clear hHeld
      have t2 : g3 < w3.heap.size := by omega
      clear z
      refine hK.out _ _ trivial (fun hHeld => ?_)
      clear hK K
      try simp only [List.setIfInBounds_toArray, List.set_cons_zero, List.set_cons_succ]
      refine wpAnyH_take (i := 2) (v := .agg #[.slice (some ⟨g9, 0, none⟩) 9 9, .slice (some ⟨g3, 0, none⟩) 3 3]) rfl (by kernel_rfl) (by kernel_rfl) (by kernel_rfl) (fun _ _ _ h => h) (Or.inl ⟨by kernel_rfl, ?_⟩) hHeld ?_
      · intro w' hSw; go_simp
      try simp only [Act.put, List.setIfInBounds_toArray, List.set_cons_zero, List.set_cons_succ]
      have p1 : W3.heap.size ≤ q ∧ W3.heap.size ≤ g9 ∧ W3.heap.size ≤ g3 ∧ q ≠ g9 ∧ q ≠ g3 ∧ g9 ≠ g3 := by omega
      refine wpAnyH_ready (rs := [4]) (by kernel_rfl) (by simp) ?_
      refine AllReadyH.cons rfl (fun K hK => ?_) AllReadyH.nil
      obtain ⟨x0, x1, y0, y1⟩ := D5.open2
      go_simp
      clear x0 x1 y0 y1 hHeld
      refine hK.out _ _ trivial (fun hHeld => ?_)
      clear hK K hHeld
      try simp only [List.setIfInBounds_toArray, List.set_cons_zero, List.set_cons_succ]
      refine wpAnyH_done (by kernel_rfl) ?_ _
      go_wp2_with fail
      go_meet
      case rel => exact mulAt_mk p1 s1 s2 s3 D2 D3 D4 D5 M9 M3 B0
    refine AllReadyH.cons rfl (fun K hK => ?_) AllReadyH.nil
    have hmk := make3
    obtain ⟨w2, hn, M3, b, z⟩ := boxed w1 2 (vA fun _ => 0)
    unfold vA at hmk hn
    go_simp
    try rw [hn]
    clear hmk
    clear hn
    replace D2 := D2.below b
    replace D3 := D3.below b
    replace D4 := D4.below b
    replace D5 := D5.below b
    replace B0 := B0.trans (b.mono B0.size)
    obtain ⟨g3, hg3⟩ : ∃ g3, w1.heap.size = g3 := ⟨_, rfl⟩
    rw [hg3] at M3 z
    try rw [hg3]
    clear b
    clear hHeld
    have t1 : g3 < w2.heap.size := by omega
    clear z
    refine hK.out _ _ trivial (fun hHeld => ?_)
    clear hK K
    try simp only [List.setIfInBounds_toArray, List.set_cons_zero, List.set_cons_succ]
    refine wpAnyH_ready (rs := [0]) (by kernel_rfl) (by simp) ?_
    refine AllReadyH.cons rfl (fun K hK => ?_) AllReadyH.nil
    have hmk := make9
    obtain ⟨w3, hn, M9, b, z⟩ := boxed w2 2 (matA fun _ => 0)
    unfold matA at hmk hn
    go_simp
    try rw [hn]
    clear hmk
    clear hn
    replace D2 := D2.below b
    replace D3 := D3.below b
    replace D4 := D4.below b
    replace D5 := D5.below b
    replace M3 := M3.below b
    replace B0 := B0.trans (b.mono B0.size)
    obtain ⟨g9, hg9⟩ : ∃ g9, w2.heap.size = g9 := ⟨_, rfl⟩
    rw [hg9] at M9 z
    try rw [hg9]
    clear b
    clear hHeld
    have t2 : g9 < w3.heap.size := by omega
    clear z
    refine hK.out _ _ trivial (fun hHeld => ?_)
    clear hK K
    try simp only [List.setIfInBounds_toArray, List.set_cons_zero]
    refine wpAnyH_take (i := 2) (v := .agg #[.slice (some ⟨g9, 0, none⟩) 9 9, .slice (some ⟨g3, 0, none⟩) 3 3]) rfl (by kernel_rfl) (by kernel_rfl) (by kernel_rfl) (fun _ _ _ h => h) (Or.inl ⟨by kernel_rfl, ?_⟩) hHeld ?_
    · intro w' hSw; go_simp
    try simp only [Act.put, List.setIfInBounds_toArray, List.set_cons_zero, List.set_cons_succ]
    have p1 : W3.heap.size ≤ q ∧ W3.heap.size ≤ g9 ∧ W3.heap.size ≤ g3 ∧ q ≠ g9 ∧ q ≠ g3 ∧ g9 ≠ g3 := by omega
    refine wpAnyH_ready (rs := [4]) (by kernel_rfl) (by simp) ?_
    refine AllReadyH.cons rfl (fun K hK => ?_) AllReadyH.nil
    obtain ⟨x0, x1, y0, y1⟩ := D5.open2
    go_simp
    clear x0 x1 y0 y1 hHeld
    refine hK.out _ _ trivial (fun hHeld => ?_)
    clear hK K hHeld
    try simp only [List.setIfInBounds_toArray, List.set_cons_zero, List.set_cons_succ]
    refine wpAnyH_done (by kernel_rfl) ?_ _
    go_wp2_with fail
    go_meet
    case rel => exact mulAt_mk p1 s1 s2 s3 D2 D3 D4 D5 M9 M3 B0
  case rest =>
    clear a1 a2 a3 bW1
    obtain ⟨q, g9, g3, rfl, S⟩ := hcut
    replace S : MulSt w #[.slice (some ⟨b1, o1, none⟩) 9 c1, .slice (some ⟨b2, o2, none⟩) 3 c2] #[.slice (some ⟨b3, o3, none⟩) 9 c3, .slice (some ⟨b4, o4, none⟩) 3 c4] W1.heap.size W2.heap.size q g9 g3 (tpart f f' (3 * 0) 0) (rpart f h h' 0) wc := by rw [rpart0, show tpart f f' (3 * 0) 0 = fun _ => 0 from tpart00 f f']; exact S
    go_wp2
    go_loopw [6] (fun s wr => ∃ i : Nat, i ≤ 3 ∧ s = .int .i64 i ∧ MulSt w #[.slice (some ⟨b1, o1, none⟩) 9 c1, .slice (some ⟨b2, o2, none⟩) 3 c2] #[.slice (some ⟨b3, o3, none⟩) 9 c3, .slice (some ⟨b4, o4, none⟩) 3 c4] W1.heap.size W2.heap.size q g9 g3 (tpart f f' (3 * i) 0) (rpart f h h' i) wr) (fun s _ => 3 - (intOf s).toNat)
    case atStart => exact ⟨0, Nat.zero_le _, rfl, S⟩
    case round =>
      clear S
      obtain ⟨i, hi, rfl, S⟩ := hrel
      by_cases hlt : i < 3
      · have hlt' : (i : Int) < 3 := by omega
        obtain ⟨d0, d1, -⟩ := S.d2.open2
        have cT := (S.below.cell (p := ⟨b2, o2 + i, none⟩) l2).trans (ht i hlt)
        have bT := hh i hlt
        go_wp2
        clear d0 d1 cT
        go_loopw [7, 8] (fun t s wr => ∃ k : Nat, k ≤ 3 ∧ s = .int .i64 k ∧ t = .int .i64 (h i + vsum f h' i k) ∧ MulSt w #[.slice (some ⟨b1, o1, none⟩) 9 c1, .slice (some ⟨b2, o2, none⟩) 3 c2] #[.slice (some ⟨b3, o3, none⟩) 9 c3, .slice (some ⟨b4, o4, none⟩) 3 c4] W1.heap.size W2.heap.size q g9 g3 (tpart f f' (3 * i + k) 0) (rpart f h h' i) wr) (fun _ s _ => 3 - (intOf s).toNat)
        case atStart => exact ⟨0, Nat.zero_le _, rfl, by simp [vsum], S⟩
        case round =>
          clear S
          obtain ⟨k, hk, rfl, rfl, S⟩ := hrel
          by_cases hlk : k < 3
          · have hlk' : (k : Int) < 3 := by omega
            go_wp2
            go_loopw [9] (fun s wr => ∃ j : Nat, j ≤ 3 ∧ s = .int .i64 j ∧ MulSt w #[.slice (some ⟨b1, o1, none⟩) 9 c1, .slice (some ⟨b2, o2, none⟩) 3 c2] #[.slice (some ⟨b3, o3, none⟩) 9 c3, .slice (some ⟨b4, o4, none⟩) 3 c4] W1.heap.size W2.heap.size q g9 g3 (tpart f f' (3 * i + k) j) (rpart f h h' i) wr) (fun s _ => 3 - (intOf s).toNat)
            case atStart => exact ⟨0, Nat.zero_le _, rfl, S⟩
            case round =>
              clear S
              obtain ⟨j, hj, rfl, S⟩ := hrel
              by_cases hlj : j < 3
              · have hlj' : (j : Int) < 3 := by omega
                obtain ⟨x, hx⟩ : ∃ x, 3 * i + k = x := ⟨_, rfl⟩
                obtain ⟨p, hp⟩ : ∃ p, 3 * i + j = p := ⟨_, rfl⟩
                obtain ⟨r, hr⟩ : ∃ r, 3 * j + k = r := ⟨_, rfl⟩
                rw [hx] at S
                have x9 : x < 9 := by omega
                have p9 : p < 9 := by omega
                have r9 : r < 9 := by omega
                have x9' : (x : Int) < 9 := by omega
                have p9' : (p : Int) < 9 := by omega
                have r9' : (r : Int) < 9 := by omega
                have e2 : Hid (psum f f' x j + f p * f' r = psum f f' x (j + 1)) := by
                  show _ = psum f f' x j + f (3 * (x / 3) + j) * f' (3 * j + x % 3)
                  rw [show 3 * (x / 3) + j = p by omega, show 3 * j + x % 3 = r by omega]
                have hX : 3 * (i : Int) + (k : Int) = (x : Int) := by omega
                have hP : 3 * (i : Int) + (j : Int) = (p : Int) := by omega
                have hR : 3 * (j : Int) + (k : Int) = (r : Int) := by omega
                obtain ⟨d0, d1, -⟩ := S.d2.open2
                obtain ⟨d2, d3, -⟩ := S.d3.open2
                obtain ⟨d4, d5, -⟩ := S.d5.open2
                have cA := (S.below.cell (p := ⟨b1, o1 + p, none⟩) l1).trans (hs p p9)
                have cB := (S.below.cell (p := ⟨b3, o3 + r, none⟩) l3).trans (hs' r r9)
                have cC := S.m9.cell x (matA_get _ _ x9)
                have fC := S.m9.frozen x
                have e1 : tpart f f' x j x = psum f f' x j := by simp [tpart]
                rw [e1] at cC
                have bA := hf p p9
                have bB := hf' r r9
                have bC := psum_bound hf hf' x x9 j hj
                have m1 := mul_bound bA bB
                clear e1 hx hp hr
                generalize f p = A at *
                generalize f' r = B at *
                generalize psum f f' x j = C at *
                have w1 : IntKind.i64.wrap (3 * (i : Int)) = 3 * (i : Int) := IntWalk.i64_in _ (by omega)
                have w2 : IntKind.i64.wrap (3 * (j : Int)) = 3 * (j : Int) := IntWalk.i64_in _ (by omega)
                have w3 : IntKind.i64.wrap (x : Int) = (x : Int) := IntWalk.i64_in _ (by omega)
                have w4 : IntKind.i64.wrap (p : Int) = (p : Int) := IntWalk.i64_in _ (by omega)
                have w5 : IntKind.i64.wrap (r : Int) = (r : Int) := IntWalk.i64_in _ (by omega)
                have w6 : IntKind.i64.wrap (A * B) = A * B := IntWalk.i64_in _ (by omega)
                have w7 : IntKind.i64.wrap (C + A * B) = C + A * B := IntWalk.i64_in _ (by omega)
                have HS : Hid (MulSt w #[.slice (some ⟨b1, o1, none⟩) 9 c1, .slice (some ⟨b2, o2, none⟩) 3 c2] #[.slice (some ⟨b3, o3, none⟩) 9 c3, .slice (some ⟨b4, o4, none⟩) 3 c4] W1.heap.size W2.heap.size q g9 g3 (tpart f f' x j) (rpart f h h' i) wr) := S
                clear S
                go_wp2
                go_region
                all_goals
                  go_wp2
                  go_roundw
                  case rel =>
                    refine ⟨j + 1, by omega, by go_num, ?_⟩
                    rw [show 3 * i + k = x by omega, e2.out]
                    exact (HS.out.set9 (set_tpart f f' x j x9)).drew
                  case measure => simp [intOf]; omega
              · have hlj' : ¬ (j : Int) < 3 := by omega
                obtain rfl : j = 3 := by omega
                rw [tpart_next] at S
                obtain ⟨x, hx⟩ : ∃ x, 3 * i + k = x := ⟨_, rfl⟩
                have x9 : x < 9 := by omega
                have x9' : (x : Int) < 9 := by omega
                have hX : 3 * (i : Int) + (k : Int) = (x : Int) := by omega
                obtain ⟨d0, d1, -⟩ := S.d2.open2
                obtain ⟨d2, d3, -⟩ := S.d3.open2
                have cA := (S.below.cell (p := ⟨b1, o1 + x, none⟩) l1).trans (hs x x9)
                have cB := (S.below.cell (p := ⟨b4, o4 + k, none⟩) l4).trans (ht' k hlk)
                have e2 : Hid (vsum f h' i k + f x * h' k = vsum f h' i (k + 1)) := by
                  show _ = vsum f h' i k + f (3 * i + k) * h' k
                  rw [hx]
                have bA := hf x x9
                have bB := hh' k hlk
                have bC := vsum_bound hf hh' i hlt k hk
                have m1 := mul_bound (N := 23) bA (show -23 ≤ h' k ∧ h' k ≤ 23 by omega)
                have HS : Hid (MulSt w #[.slice (some ⟨b1, o1, none⟩) 9 c1, .slice (some ⟨b2, o2, none⟩) 3 c2] #[.slice (some ⟨b3, o3, none⟩) 9 c3, .slice (some ⟨b4, o4, none⟩) 3 c4] W1.heap.size W2.heap.size q g9 g3 (tpart f f' (3 * i + (k + 1)) 0) (rpart f h h' i) wr) := S
                clear S hx
                generalize f x = A at *
                generalize h' k = B at *
                generalize vsum f h' i k = C at *
                have w1 : IntKind.i64.wrap (3 * (i : Int)) = 3 * (i : Int) := IntWalk.i64_in _ (by omega)
                have w3 : IntKind.i64.wrap (x : Int) = (x : Int) := IntWalk.i64_in _ (by omega)
                have w6 : IntKind.i64.wrap (A * B) = A * B := IntWalk.i64_in _ (by omega)
                have w7 : IntKind.i64.wrap (h i + C + A * B) = h i + C + A * B := IntWalk.i64_in _ (by omega)
                go_wp2
                go_quiet (fail)
                go_wp2
                go_roundw
                case rel => exact ⟨k + 1, by omega, by go_num, by rw [← e2.out, Int.add_assoc], HS.out.drewN _⟩
                case measure => simp [intOf]; omega
          · have hlk' : ¬ (k : Int) < 3 := by omega
            obtain rfl : k = 3 := by omega
            obtain ⟨d4, d5, -⟩ := S.d5.open2
            have cC := S.m3.cell i (vA_get _ _ hlt)
            have fC := S.m3.frozen i
            have bC := vsum_bound hf hh' i hlt 3 (by omega)
            have e2 : Hid ((h i + vsum f h' i 3) % 24 = behV f h h' i) := by
              show (h i + vsum f h' i 3) % 24 = (vsum f h' i 3 + h i) % 24
              rw [Int.add_comm]
            have HS : Hid (MulSt w #[.slice (some ⟨b1, o1, none⟩) 9 c1, .slice (some ⟨b2, o2, none⟩) 3 c2] #[.slice (some ⟨b3, o3, none⟩) 9 c3, .slice (some ⟨b4, o4, none⟩) 3 c4] W1.heap.size W2.heap.size q g9 g3 (tpart f f' (3 * (i + 1)) 0) (rpart f h h' i) wr) := S
            clear S
            generalize rpart f h h' i i = C0 at *
            have bU : -1000 ≤ h i + vsum f h' i 3 ∧ h i + vsum f h' i 3 ≤ 1000 := by omega
            clear bC
            generalize h i + vsum f h' i 3 = T at *
            go_wp2
            go_region_with (go_at_call 60; refine (l1Mod_any _ _ ?_).mono ?_; omega; rintro e w2 ⟨rfl, rfl⟩)
            all_goals
              go_wp2
              go_roundw
              case rel =>
                refine ⟨i + 1, by omega, by go_num, ?_⟩
                rw [e2.out]
                exact (HS.out.set3 (set_rpart f h h' i hlt)).drew
              case measure => simp [intOf]; omega
      · have hlt' : ¬ (i : Int) < 3 := by omega
        obtain rfl : i = 3 := by omega
        obtain ⟨d4, d5, -⟩ := S.d5.open2
        obtain ⟨e4, e5, f4, f5⟩ := S.d4.open2
        have ha := S.apart
        go_wp2
        have a7 := nil2_at S.d4 (.slice (some ⟨g9, 0, none⟩) 9 9) (.slice (some ⟨g3, 0, none⟩) 3 3)
        obtain ⟨p0, p1, -⟩ := a7.open2
        have q9 : Made _ g9 9 9 (mulM f f') := ((made9 (tpart9 f f' ▸ S.m9)).setOther (q := W2.heap.size) (i := 0) (by omega) (.slice (some ⟨g9, 0, none⟩) 9 9)).setOther (q := W2.heap.size) (i := 1) (by omega) (.slice (some ⟨g3, 0, none⟩) 3 3)
        have q3 : Made _ g3 3 3 (behV f h h') := ((made3 (rpart3 f h h' ▸ S.m3)).setOther (q := W2.heap.size) (i := 0) (by omega) (.slice (some ⟨g9, 0, none⟩) 9 9)).setOther (q := W2.heap.size) (i := 1) (by omega) (.slice (some ⟨g3, 0, none⟩) 3 3)
        refine bodyPost_ret (v := .agg #[.slice (some ⟨g9, 0, none⟩) 9 9, .slice (some ⟨g3, 0, none⟩) 3 3]) (by simp [results, Tryz.results59, go_sem, p0, p1]) rfl ⟨g9, g3, rfl, ⟨_, _, rfl, arr_of_made q9 (Nat.le_refl _) (by omega), arr_of_made q3 (Nat.le_refl _) (by omega), ?_⟩, (S.below.setCell (show w.heap.size ≤ W2.heap.size by omega) _).setCell (show w.heap.size ≤ W2.heap.size by omega) _⟩
        intro y h1 h2
        cases h1
        cases h2
        omega
end Go.Proofs.YtiocneailhplkaaGreat
