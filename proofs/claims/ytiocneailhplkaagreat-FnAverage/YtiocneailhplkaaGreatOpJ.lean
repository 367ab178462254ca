/-
  The product of two operators by the program, walked.
-/
import Derived.Test.YtiocneailhplkaaGreatMD
namespace Go.Proofs.YtiocneailhplkaaGreat
open Go.RowKit

/-- What the region reads. -/
def SB (q : Nat) (f : Nat → Int) (p : Nat) (g k : Nat → Int) (w' : World) : Prop := w'.rangeAt q 0 (matL f) ∧ w'.rangeAt p 0 (matL g) ∧ w'.rangeAt p 9 (vecL k)
theorem sb_mk {w' : World} {q p : Nat} {f h g k : Nat → Int} (a : At 90 w' q (opA f h)) (b : At 90 w' p (opA g k)) : SB q f p g k w' := ⟨range9 a.ints9, range9 b.ints9, range3 b.ints3⟩
/-- The product's T. -/
def behV (f h k : Nat → Int) : Nat → Int := fun i => (movV f k i + h i) % 24
def bpart (f h k : Nat → Int) (n : Nat) : Nat → Int := fun i => if i < n then behV f h k i else movV f k i
theorem bpart0 (f h k : Nat → Int) : bpart f h k 0 = movV f k := by funext i; simp [bpart]
theorem bpart3 (m f h k : Nat → Int) : opA m (bpart f h k 3) = opA m (behV f h k) := by simp [opA, bpart]
theorem set_bpart (m f h k : Nat → Int) (n : Nat) (hn : n < 3) : (opA m (bpart f h k n)).setIfInBounds (9 + n) (.int .i64 (behV f h k n)) = opA m (bpart f h k (n + 1)) := by
  rcases (by omega : n = 0 ∨ n = 1 ∨ n = 2) with rfl | rfl | rfl <;> simp [opA, bpart]
theorem opA_shift (f h : Nat → Int) (n : Nat) (hn : n < 3) : (opA f h)[9 + n]? = some (.int .i64 (h n)) := by
  rw [opA_get f h _ (by omega), if_neg (by omega), Nat.add_sub_cancel_left]
/-- Behind the region: the new block holds the two parts. -/
def BehAt (w : World) (n2 n3 : Nat) (f h g k : Nat → Int) (s : Value) (wc : World) : Prop :=
  ∃ q, s = .pointer (some ⟨q, 0, none⟩) ∧ n3 ≤ q ∧ At 90 wc q (opA (mulM f g) (movV f k)) ∧ At 90 wc w.heap.size (opA f h) ∧ At 90 wc n2 (opA (fun _ => 0) (fun _ => 0)) ∧ Below w.heap.size w wc
set_option maxRecDepth 100000 in
set_option maxHeartbeats 1600000 in
theorem behind_any {f h g k : Nat → Int} (hF : isR f h) (hG : isR g k) (w : World) :
    Calls Tryz.prog 95 #[.agg (opA f h), .agg (opA g k)] w fun e w' => e = .returned (.agg (opA (mulM f g) (behV f h k))) ∧ Below w.heap.size w w' := by
  obtain ⟨W1, hW1, a1, bW1, -⟩ := boxed w 90 (opA f h)
  obtain ⟨W2, hW2, a2, bW2, -⟩ := boxed W1 90 (opA g k)
  obtain ⟨W3, hW3, a3, bW3, -⟩ := boxed W2 90 (opA (fun _ => 0) (fun _ => 0))
  rw [zero12] at hW3
  have s1 := a1.lt
  have s2 := a2.lt
  have s3 := a3.lt
  replace a1 := (a1.below bW2).below bW3
  replace a2 := a2.below bW3
  replace bW1 := (bW1.trans (bW2.mono bW1.size)).trans (bW3.mono (by omega))
  have hf := hF.1
  have hg := hG.1
  have hk := hG.2.1
  have hh := hF.2.1
  clear hF hG bW2 bW3
  unfold opA at hW1 hW2 ⊢
  go_enter Tryz.func95, Tryz.ntmps95
  go_wp2
  clear hW1 hW2 hW3
  go_cut [5] from 6 (fun s5 wc => BehAt w W2.heap.size W3.heap.size f h g k s5 wc)
  case first =>
    obtain ⟨w0, hw0, A2, A3, A4, B0, t⟩ : ∃ w0, W3.drew = w0 ∧ At 90 w0 w.heap.size (opA f h) ∧ At 90 w0 W1.heap.size (opA g k) ∧ At 90 w0 W2.heap.size (opA (fun _ => 0) (fun _ => 0)) ∧ Below w.heap.size w w0 ∧ W3.heap.size ≤ w0.heap.size := ⟨_, rfl, a1, a2, a3, bW1.drew, Nat.le_refl _⟩
    refine wp_region_held_drew (S := SB w.heap.size f W1.heap.size g k) (by kernel_rfl) (by rw [hw0]; exact sb_mk A2 A3) (fun hHeld => ?_)
    rw [hw0] at hHeld ⊢
    clear hw0 a1 a2 a3 bW1
    change wpAnyH _ _ _ _ _ 13 #[false, false, false, false, false, false, false, false, false, false, false, false, false] _ _
    refine wpAnyH_take (i := 0) (v := .pointer (some ⟨w.heap.size, 0, none⟩)) rfl (by kernel_rfl) (by kernel_rfl) (by kernel_rfl) (fun _ _ _ h => h) (Or.inl ⟨by kernel_rfl, ?_⟩) hHeld ?_
    · intro w' hSw; go_simp
    try simp only [Act.put]
    refine wpAnyH_take (i := 1) (v := .agg (matL f).toArray) rfl (by kernel_rfl) (by kernel_rfl) (by kernel_rfl) (fun _ _ _ h => h) (yieldsIf_load_mid (by rfl) _ _ rfl _ _ rfl (matL f) _ (fun w' h => h.1) Tryz.underlying88 rfl (size53 f)) hHeld ?_
    try simp only [Act.put]
    refine wpAnyH_take (i := 2) (v := .pointer (some ⟨W1.heap.size, 0, none⟩)) rfl (by kernel_rfl) (by kernel_rfl) (by kernel_rfl) (fun _ _ _ h => h) (Or.inl ⟨by kernel_rfl, ?_⟩) hHeld ?_
    · intro w' hSw; go_simp
    try simp only [Act.put]
    refine wpAnyH_take (i := 3) (v := .agg (matL g).toArray) rfl (by kernel_rfl) (by kernel_rfl) (by kernel_rfl) (fun _ _ _ h => h) (yieldsIf_load_mid (by rfl) _ _ rfl _ _ rfl (matL g) _ (fun w' h => h.2.1) Tryz.underlying88 rfl (size53 g)) hHeld ?_
    try simp only [Act.put]
    refine wpAnyH_take (i := 5) (v := .pointer (some ⟨w.heap.size, 0, none⟩)) rfl (by kernel_rfl) (by kernel_rfl) (by kernel_rfl) (fun _ _ _ h => h) (Or.inl ⟨by kernel_rfl, ?_⟩) hHeld ?_
    · intro w' hSw; go_simp
    try simp only [Act.put]
    refine wpAnyH_take (i := 6) (v := .agg (matL f).toArray) rfl (by kernel_rfl) (by kernel_rfl) (by kernel_rfl) (fun _ _ _ h => h) (yieldsIf_load_mid (by rfl) _ _ rfl _ _ rfl (matL f) _ (fun w' h => h.1) Tryz.underlying88 rfl (size53 f)) hHeld ?_
    try simp only [Act.put]
    refine wpAnyH_take (i := 7) (v := .pointer (some ⟨W1.heap.size, 9, none⟩)) rfl (by kernel_rfl) (by kernel_rfl) (by kernel_rfl) (fun _ _ _ h => h) (Or.inl ⟨by kernel_rfl, ?_⟩) hHeld ?_
    · intro w' hSw; go_simp
    try simp only [Act.put]
    refine wpAnyH_take (i := 8) (v := .agg (vecL k).toArray) rfl (by kernel_rfl) (by kernel_rfl) (by kernel_rfl) (fun _ _ _ h => h) (yieldsIf_load_mid (by rfl) _ _ rfl _ _ rfl (vecL k) _ (fun w' h => h.2.2) Tryz.underlying66 rfl (size55 k)) hHeld ?_
    try simp only [Act.put]
    refine wpAnyH_ready (rs := [4, 11]) (by kernel_rfl) (by simp) ?_
    refine AllReadyH.cons rfl (fun K hK => ?_) ?_
    · go_simp
      refine (times_any hf hg _).mono ?_
      rintro e w1 ⟨rfl, b⟩
      unfold matA
      replace A2 := A2.below b
      replace A3 := A3.below b
      replace A4 := A4.below b
      have t0 := b.size
      replace B0 := B0.trans (b.mono B0.size)
      clear b
      try go_wp2_with fail
      clear hHeld
      refine hK.out _ _ (sb_mk A2 A3) (fun hHeld => ?_)
      clear hK K
      try simp only [List.setIfInBounds_toArray, List.set_cons_zero, List.set_cons_succ]
      refine wpAnyH_ready (rs := [9, 11]) (by kernel_rfl) (by simp) ?_
      refine AllReadyH.cons rfl (fun K hK => ?_) ?_
      · go_simp
        refine (moves_any hf hk _).mono ?_
        rintro e w2 ⟨rfl, b⟩
        unfold vA
        replace A2 := A2.below b
        replace A3 := A3.below b
        replace A4 := A4.below b
        have t1 := b.size
        replace B0 := B0.trans (b.mono B0.size)
        clear b
        try go_wp2_with fail
        clear hHeld
        refine hK.out _ _ (sb_mk A2 A3) (fun hHeld => ?_)
        clear hK K
        try simp only [List.setIfInBounds_toArray, List.set_cons_zero, List.set_cons_succ]
        refine wpAnyH_take (i := 10) (v := .agg (opA (mulM f g) (movV f k))) rfl (by kernel_rfl) (by kernel_rfl) (by kernel_rfl) (fun _ _ _ h => h) (Or.inl ⟨by kernel_rfl, ?_⟩) hHeld ?_
        · intro w' hSw; go_simp; rfl
        try simp only [Act.put]
        refine wpAnyH_ready (rs := [11]) (by kernel_rfl) (by simp) ?_
        refine AllReadyH.cons rfl (fun K hK => ?_) AllReadyH.nil
        go_simp
        obtain ⟨w3, h6, A5, b, z6⟩ := boxed w2 90 (opA (fun _ => 0) (fun _ => 0))
        rw [zero12] at h6
        rw [h6]
        clear h6
        replace A2 := A2.below b
        replace A3 := A3.below b
        replace A4 := A4.below b
        replace B0 := B0.trans (b.mono B0.size)
        obtain ⟨q, hq⟩ : ∃ q, w2.heap.size = q := ⟨_, rfl⟩
        have q1 : W3.heap.size ≤ q := by omega
        rw [hq] at A5
        try rw [hq]
        clear b
        have t2 : w2.heap.size ≤ w3.heap.size := by omega
        clear hHeld
        refine hK.out _ _ (sb_mk A2 A3) (fun hHeld => ?_)
        clear hK K
        try simp only [List.setIfInBounds_toArray, List.set_cons_zero, List.set_cons_succ]
        refine wpAnyH_ready (rs := [12]) (by kernel_rfl) (by simp) ?_
        refine AllReadyH.cons rfl (fun K hK => ?_) AllReadyH.nil
        obtain ⟨⟨x0, x1, x2, x3, x4, x5, x6, x7, x8⟩, x9, x10, x11⟩ := A5.open12
        obtain ⟨y0, y1, y2, y3, y4, y5, y6, y7, y8, y9, y10, y11⟩ := A5.fro12
        unfold opA
        go_simp
        clear x0 x1 x2 x3 x4 x5 x6 x7 x8 x9 x10 x11 y0 y1 y2 y3 y4 y5 y6 y7 y8 y9 y10 y11 hHeld
        obtain ⟨X1, hX1⟩ : ∃ X1, put12 w3 q (mulM f g) (movV f k) = X1 := ⟨_, rfl⟩
        have C5 : At 90 X1 q (opA (mulM f g) (movV f k)) := hX1 ▸ put12_at A5 _ _
        have C2 : At 90 X1 w.heap.size (opA f h) := hX1 ▸ put12_other A2 (by omega) _ _
        have C3 : At 90 X1 W1.heap.size (opA g k) := hX1 ▸ put12_other A3 (by omega) _ _
        have C4 : At 90 X1 W2.heap.size (opA (fun _ => 0) (fun _ => 0)) := hX1 ▸ put12_other A4 (by omega) _ _
        have CB : Below w.heap.size w X1 := hX1 ▸ put12_below B0 (by omega) _ _
        unfold put12 at hX1
        rw [hX1]
        refine hK.out _ _ (sb_mk C2 C3) (fun hHeld => ?_)
        clear hK K A2 A3 A4 A5 B0 hX1 hHeld
        try simp only [List.setIfInBounds_toArray, List.set_cons_zero, List.set_cons_succ]
        refine wpAnyH_done (by kernel_rfl) ?_ _
        go_wp2_with fail
        go_meet
        case rel => exact ⟨q, rfl, q1, C5, C2, C4, CB⟩
      refine AllReadyH.cons rfl (fun K hK => ?_) AllReadyH.nil
      go_simp
      obtain ⟨w2, h6, A5, b, z6⟩ := boxed w1 90 (opA (fun _ => 0) (fun _ => 0))
      rw [zero12] at h6
      rw [h6]
      clear h6
      replace A2 := A2.below b
      replace A3 := A3.below b
      replace A4 := A4.below b
      replace B0 := B0.trans (b.mono B0.size)
      obtain ⟨q, hq⟩ : ∃ q, w1.heap.size = q := ⟨_, rfl⟩
      have q1 : W3.heap.size ≤ q := by omega
      rw [hq] at A5
      try rw [hq]
      clear b
      have t1 : w1.heap.size ≤ w2.heap.size := by omega
      clear hHeld
      refine hK.out _ _ (sb_mk A2 A3) (fun hHeld => ?_)
      clear hK K
      try simp only [List.setIfInBounds_toArray, List.set_cons_zero, List.set_cons_succ]
      refine wpAnyH_ready (rs := [9]) (by kernel_rfl) (by simp) ?_
      refine AllReadyH.cons rfl (fun K hK => ?_) AllReadyH.nil
      go_simp
      refine (moves_any hf hk _).mono ?_
      rintro e w3 ⟨rfl, b⟩
      unfold vA
      replace A2 := A2.below b
      replace A3 := A3.below b
      replace A4 := A4.below b
      replace A5 := A5.below b
      have t2 := b.size
      replace B0 := B0.trans (b.mono B0.size)
      clear b
      try go_wp2_with fail
      clear hHeld
      refine hK.out _ _ (sb_mk A2 A3) (fun hHeld => ?_)
      clear hK K
      try simp only [List.setIfInBounds_toArray, List.set_cons_zero, List.set_cons_succ]
      refine wpAnyH_take (i := 10) (v := .agg (opA (mulM f g) (movV f k))) rfl (by kernel_rfl) (by kernel_rfl) (by kernel_rfl) (fun _ _ _ h => h) (Or.inl ⟨by kernel_rfl, ?_⟩) hHeld ?_
      · intro w' hSw; go_simp; rfl
      try simp only [Act.put]
      refine wpAnyH_ready (rs := [12]) (by kernel_rfl) (by simp) ?_
      refine AllReadyH.cons rfl (fun K hK => ?_) AllReadyH.nil
      obtain ⟨⟨x0, x1, x2, x3, x4, x5, x6, x7, x8⟩, x9, x10, x11⟩ := A5.open12
      obtain ⟨y0, y1, y2, y3, y4, y5, y6, y7, y8, y9, y10, y11⟩ := A5.fro12
      unfold opA
      go_simp
      clear x0 x1 x2 x3 x4 x5 x6 x7 x8 x9 x10 x11 y0 y1 y2 y3 y4 y5 y6 y7 y8 y9 y10 y11 hHeld
      obtain ⟨X1, hX1⟩ : ∃ X1, put12 w3 q (mulM f g) (movV f k) = X1 := ⟨_, rfl⟩
      have C5 : At 90 X1 q (opA (mulM f g) (movV f k)) := hX1 ▸ put12_at A5 _ _
      have C2 : At 90 X1 w.heap.size (opA f h) := hX1 ▸ put12_other A2 (by omega) _ _
      have C3 : At 90 X1 W1.heap.size (opA g k) := hX1 ▸ put12_other A3 (by omega) _ _
      have C4 : At 90 X1 W2.heap.size (opA (fun _ => 0) (fun _ => 0)) := hX1 ▸ put12_other A4 (by omega) _ _
      have CB : Below w.heap.size w X1 := hX1 ▸ put12_below B0 (by omega) _ _
      unfold put12 at hX1
      rw [hX1]
      refine hK.out _ _ (sb_mk C2 C3) (fun hHeld => ?_)
      clear hK K A2 A3 A4 A5 B0 hX1 hHeld
      try simp only [List.setIfInBounds_toArray, List.set_cons_zero, List.set_cons_succ]
      refine wpAnyH_done (by kernel_rfl) ?_ _
      go_wp2_with fail
      go_meet
      case rel => exact ⟨q, rfl, q1, C5, C2, C4, CB⟩
    refine AllReadyH.cons rfl (fun K hK => ?_) AllReadyH.nil
    go_simp
    obtain ⟨w1, h6, A5, b, z6⟩ := boxed w0 90 (opA (fun _ => 0) (fun _ => 0))
    rw [zero12] at h6
    rw [h6]
    clear h6
    replace A2 := A2.below b
    replace A3 := A3.below b
    replace A4 := A4.below b
    replace B0 := B0.trans (b.mono B0.size)
    obtain ⟨q, hq⟩ : ∃ q, w0.heap.size = q := ⟨_, rfl⟩
    have q1 : W3.heap.size ≤ q := by omega
    rw [hq] at A5
    try rw [hq]
    clear b
    have t0 : w0.heap.size ≤ w1.heap.size := by omega
    clear hHeld
    refine hK.out _ _ (sb_mk A2 A3) (fun hHeld => ?_)
    clear hK K
    try simp only [List.setIfInBounds_toArray, List.set_cons_zero, List.set_cons_succ]
    refine wpAnyH_ready (rs := [4]) (by kernel_rfl) (by simp) ?_
    refine AllReadyH.cons rfl (fun K hK => ?_) AllReadyH.nil
    go_simp
    refine (times_any hf hg _).mono ?_
    rintro e w2 ⟨rfl, b⟩
    unfold matA
    replace A2 := A2.below b
    replace A3 := A3.below b
    replace A4 := A4.below b
    replace A5 := A5.below b
    have t1 := b.size
    replace B0 := B0.trans (b.mono B0.size)
    clear b
    try go_wp2_with fail
    clear hHeld
    refine hK.out _ _ (sb_mk A2 A3) (fun hHeld => ?_)
    clear hK K
    try simp only [List.setIfInBounds_toArray, List.set_cons_zero, List.set_cons_succ]
    refine wpAnyH_ready (rs := [9]) (by kernel_rfl) (by simp) ?_
    refine AllReadyH.cons rfl (fun K hK => ?_) AllReadyH.nil
    go_simp
    refine (moves_any hf hk _).mono ?_
    rintro e w3 ⟨rfl, b⟩
    unfold vA
    replace A2 := A2.below b
    replace A3 := A3.below b
    replace A4 := A4.below b
    replace A5 := A5.below b
    have t2 := b.size
    replace B0 := B0.trans (b.mono B0.size)
    clear b
    try go_wp2_with fail
    clear hHeld
    refine hK.out _ _ (sb_mk A2 A3) (fun hHeld => ?_)
    clear hK K
    try simp only [List.setIfInBounds_toArray, List.set_cons_zero, List.set_cons_succ]
    refine wpAnyH_take (i := 10) (v := .agg (opA (mulM f g) (movV f k))) rfl (by kernel_rfl) (by kernel_rfl) (by kernel_rfl) (fun _ _ _ h => h) (Or.inl ⟨by kernel_rfl, ?_⟩) hHeld ?_
    · intro w' hSw; go_simp; rfl
    try simp only [Act.put]
    refine wpAnyH_ready (rs := [12]) (by kernel_rfl) (by simp) ?_
    refine AllReadyH.cons rfl (fun K hK => ?_) AllReadyH.nil
    obtain ⟨⟨x0, x1, x2, x3, x4, x5, x6, x7, x8⟩, x9, x10, x11⟩ := A5.open12
    obtain ⟨y0, y1, y2, y3, y4, y5, y6, y7, y8, y9, y10, y11⟩ := A5.fro12
    unfold opA
    go_simp
    clear x0 x1 x2 x3 x4 x5 x6 x7 x8 x9 x10 x11 y0 y1 y2 y3 y4 y5 y6 y7 y8 y9 y10 y11 hHeld
    obtain ⟨X1, hX1⟩ : ∃ X1, put12 w3 q (mulM f g) (movV f k) = X1 := ⟨_, rfl⟩
    have C5 : At 90 X1 q (opA (mulM f g) (movV f k)) := hX1 ▸ put12_at A5 _ _
    have C2 : At 90 X1 w.heap.size (opA f h) := hX1 ▸ put12_other A2 (by omega) _ _
    have C3 : At 90 X1 W1.heap.size (opA g k) := hX1 ▸ put12_other A3 (by omega) _ _
    have C4 : At 90 X1 W2.heap.size (opA (fun _ => 0) (fun _ => 0)) := hX1 ▸ put12_other A4 (by omega) _ _
    have CB : Below w.heap.size w X1 := hX1 ▸ put12_below B0 (by omega) _ _
    unfold put12 at hX1
    rw [hX1]
    refine hK.out _ _ (sb_mk C2 C3) (fun hHeld => ?_)
    clear hK K A2 A3 A4 A5 B0 hX1 hHeld
    try simp only [List.setIfInBounds_toArray, List.set_cons_zero, List.set_cons_succ]
    refine wpAnyH_done (by kernel_rfl) ?_ _
    go_wp2_with fail
    go_meet
    case rel => exact ⟨q, rfl, q1, C5, C2, C4, CB⟩
  case rest =>
    clear a1 a2 a3 bW1
    obtain ⟨q, rfl, hq, C5, C2, C4, CB⟩ := hcut
    rw [← bpart0 f h k] at C5
    go_wp2
    go_loopw [18] (fun s wr => ∃ i : Nat, i ≤ 3 ∧ s = .int .i64 i ∧ At 90 wr w.heap.size (opA f h) ∧ At 90 wr W2.heap.size (opA (fun _ => 0) (fun _ => 0)) ∧ At 90 wr q (opA (mulM f g) (bpart f h k i)) ∧ Below w.heap.size w wr) (fun s _ => 3 - (intOf s).toNat)
    case atStart => exact ⟨0, Nat.zero_le _, rfl, C2, C4, C5, CB⟩
    case round =>
      clear C2 C4 C5 CB
      obtain ⟨i, hi, rfl, a2, a4, a5, bW⟩ := hrel
      by_cases hlt : i < 3
      · have hlt' : (i : Int) < 3 := by omega
        have cA := a5.cell (9 + i) (opA_shift _ _ _ hlt)
        have cB := a2.cell (9 + i) (opA_shift _ _ _ hlt)
        have fA := a5.frozen (9 + i)
        have e1 : bpart f h k i i = movV f k i := by simp [bpart]
        rw [e1] at cA
        have bA := vsum_bound hf hk i hlt 3 (by omega)
        have bA' : -69 ≤ movV f k i ∧ movV f k i ≤ 69 := by unfold movV; omega
        have bB := hh i hlt
        have e2 : Hid ((movV f k i + h i) % 24 = behV f h k i) := rfl
        clear e1 bA
        generalize movV f k i = A at *
        generalize h i = B at *
        have w6 : IntKind.i64.wrap (A + B) = A + B := IntWalk.i64_in _ (by omega)
        go_wp2
        go_region_with (go_at_call 80; refine (modulo_any _ _ ?_).mono ?_; omega; rintro e w2 ⟨rfl, rfl⟩)
        all_goals
          go_wp2
          go_roundw
          case rel =>
            refine ⟨i + 1, by omega, by go_num, ?_, ?_, ?_, ?_⟩
            · exact a2.setOther (by omega) _
            · exact a4.setOther (by omega) _
            · have := a5.set (9 + i) (.int .i64 ((A + B) % 24))
              rw [e2.out, set_bpart _ f h k _ hlt] at this
              rw [e2.out]
              exact this
            · exact (bW.setCell (p := ⟨q, 9 + i, none⟩) (by show w.heap.size ≤ q; omega) _).drew
          case measure => simp [intOf]; omega
      · have hlt' : ¬ (i : Int) < 3 := by omega
        obtain rfl : i = 3 := by omega
        rw [bpart3] at a5
        obtain ⟨⟨c0, c1, c2, c3, c4, c5, c6, c7, c8⟩, c9, c10, c11⟩ := a5.open12
        obtain ⟨⟨d0, d1, d2, d3, d4, d5, d6, d7, d8⟩, d9, d10, d11⟩ := a4.open12
        obtain ⟨y0, y1, y2, y3, y4, y5, y6, y7, y8, y9, y10, y11⟩ := a4.fro12
        go_wp2
        have hF := put12_at a4 (mulM f g) (behV f h k)
        obtain ⟨⟨p0, p1, p2, p3, p4, p5, p6, p7, p8⟩, p9, p10, p11⟩ := hF.open12
        exact bodyPost_ret (v := .agg (opA (mulM f g) (behV f h k))) (by simp [results, Tryz.results95, go_sem, p0, p1, p2, p3, p4, p5, p6, p7, p8, p9, p10, p11]; rfl) rfl ⟨rfl, put12_below bW (by omega) _ _⟩
end Go.Proofs.YtiocneailhplkaaGreat
