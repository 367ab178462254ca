/-
  Which facets are a shape, by the program and by the specification: walked.
-/
import Derived.Test.YtealbihplfpgeaaFb
namespace Go.Proofs.Ytealbihplfpgeaa
open Go.RowKit

/-- Facets i and k have one normal. -/
def Same (f : Nat → Int) (i k : Nat) : Prop := f (i * 3) = f (k * 3) ∧ f (i * 3 + 1) = f (k * 3 + 1)
/-- The turn from facet i's normal to facet k's. -/
def Lf (f : Nat → Int) (i k : Nat) : Int := cr (f (i * 3)) (f (i * 3 + 1)) (f (k * 3)) (f (k * 3 + 1))
/-- Facet i is right. -/
def Rt (f : Nat → Int) (i : Nat) : Bool := fOk (f (i * 3)) (f (i * 3 + 1)) (f (i * 3 + 2))
/-- What a shape is. -/
structure SOk (n : Nat) (f : Nat → Int) : Prop where
  lo : 3 ≤ n
  hi : n ≤ 40
  right : ∀ i, i < n → Rt f i = true
  apart : ∀ i, i < n → ∀ k, k < i → ¬ Same f i k
  left : ∀ i, i < n → ∃ k, k < n ∧ 0 < Lf f i k
theorem Rt.in {f : Nat → Int} {i : Nat} (h : Rt f i = true) : (-50 ≤ f (i * 3) ∧ f (i * 3) ≤ 50) ∧ (-50 ≤ f (i * 3 + 1) ∧ f (i * 3 + 1) ≤ 50) ∧ Int.gcd (f (i * 3)) (f (i * 3 + 1)) = 1 ∧ (1 ≤ f (i * 3 + 2) ∧ f (i * 3 + 2) ≤ 1000) := fOk_in h
/-- All that lay in V lies there still. -/
def Kb (V w : World) : Prop := Below V.heap.size V w
theorem Kb.trans {a b c : World} (h : Kb a b) (k : Below a.heap.size b c) : Kb a c := Below.trans h k
theorem Kb.size {a b : World} (h : Kb a b) : a.heap.size ≤ b.heap.size := Below.size h
/-- b tells whether P. -/
def Tells (b : Bool) (P : Prop) : Prop := b = true ↔ P
/-- Nothing among the first k. -/
def NoLeft (f : Nat → Int) (x y : Int) (k : Nat) : Prop := ∀ i, i < k → ¬ 0 < cr x y (f (i * 3)) (f (i * 3 + 1))
theorem no_all {k m : Nat} {P : Nat → Prop} {b : Bool} (hb : b = true ↔ ∀ i, i < m → P i) (hk : k < m) (h : ¬ P k) : b = false := by
  rw [Bool.eq_false_iff]; exact fun e => h (hb.1 e k hk)
theorem no_one {m : Nat} {P : Nat → Prop} {b : Bool} (hb : b = true ↔ ∃ i, i < m ∧ P i) (h : ∀ i, i < m → ¬ P i) : b = false := by
  rw [Bool.eq_false_iff]; intro e; obtain ⟨i, hi, hp⟩ := hb.1 e; exact h i hi hp
theorem hasNormal_any {w : World} {g m c : Nat} {f : Nat → Int} {x y z : Int} (h : Trips w g m f) (hm : m ≤ 1048576) (b : Bool) (hb : Tells b (∃ k, k < m ∧ (x = f (k * 3) ∧ y = f (k * 3 + 1)))) :
    Calls Try.prog 61 #[fV x y z, .slice (some ⟨g, 0, none⟩) m c] w fun e w' => e = .returned (.bool b) ∧ Below w.heap.size w w' := by
  obtain ⟨W, hW, b0, bW, -⟩ := boxed w 35 #[.int .i64 x, .int .i64 y, .int .i64 z]
  go_enter Try.func61, Try.ntmps61
  go_wp2
  clear hW
  go_loopw [9] (fun s wr => ∃ k : Nat, k ≤ m ∧ s = .int .i64 k ∧ Hid (∀ i, i < k → ¬ (x = f (i * 3) ∧ y = f (i * 3 + 1))) ∧ Below W.heap.size W wr) (fun s _ => m - (intOf s).toNat)
  case atStart => exact ⟨0, Nat.zero_le _, rfl, fun i hi => by omega, Below.refl _ _⟩
  case round =>
    obtain ⟨k, hk, rfl, hok, B⟩ := hrel
    have BB := bW.trans (B.mono bW.size)
    by_cases hlt : k < m
    · have hlt' : (k : Int) < (m : Int) := by omega
      have L := h.below BB
      have hq := L.1
      obtain ⟨c0, c1, c2⟩ := L.open k hlt
      clear L
      obtain ⟨V, hV, a1, bV, -⟩ := boxed wr 35 #[.int .i64 (f (k * 3)), .int .i64 (f (k * 3 + 1)), .int .i64 (f (k * 3 + 2))]
      have B' := B.trans (bV.mono B.size)
      obtain ⟨d0, d1, -⟩ := a1.open3
      have a0 := b0.below B'
      obtain ⟨e0, e1, -⟩ := a0.open3
      by_cases hx : x = f (k * 3)
      · by_cases hy : y = f (k * 3 + 1)
        · obtain rfl : b = true := hb.2 ⟨k, hlt, hx, hy⟩
          clear hok hb b0 a0 a1
          go_wp2
          go_ret
          exact ⟨rfl, bW.trans (B'.mono bW.size)⟩
        · have HO : Hid (∀ i, i < k + 1 → ¬ (x = f (i * 3) ∧ y = f (i * 3 + 1))) := fun i hi => by
            by_cases e : i = k
            · rw [e]; exact fun h => hy h.2
            · exact hok.out i (by omega)
          clear hok hb b0 a0 a1
          go_wp2
          exact ⟨⟨k + 1, by omega, by go_num, HO, B'⟩, by simp [intOf]; omega⟩
      · have HO : Hid (∀ i, i < k + 1 → ¬ (x = f (i * 3) ∧ y = f (i * 3 + 1))) := fun i hi => by
          by_cases e : i = k
          · rw [e]; exact fun h => hx h.1
          · exact hok.out i (by omega)
        clear hok hb b0 a0 a1
        go_wp2
        exact ⟨⟨k + 1, by omega, by go_num, HO, B'⟩, by simp [intOf]; omega⟩
    · have hlt' : ¬ (k : Int) < (m : Int) := by omega
      obtain rfl : k = m := by omega
      obtain rfl : b = false := no_one hb hok.out
      go_wp2
      go_ret
      exact ⟨rfl, BB⟩
theorem oneLeft_any {w : World} {g m c : Nat} {f : Nat → Int} {x y z : Int} (h : Trips w g m f) (hm : m ≤ 1048576) (hx : -50 ≤ x ∧ x ≤ 50) (hy : -50 ≤ y ∧ y ≤ 50) (hr : ∀ i, i < m → Rt f i = true) (b : Bool) (hb : Tells b (∃ k, k < m ∧ 0 < cr x y (f (k * 3)) (f (k * 3 + 1)))) :
    Calls Try.prog 79 #[fV x y z, .slice (some ⟨g, 0, none⟩) m c] w fun e w' => e = .returned (.bool b) ∧ Below w.heap.size w w' := by
  obtain ⟨W, hW, b0, bW, -⟩ := boxed w 35 #[.int .i64 x, .int .i64 y, .int .i64 z]
  go_enter Try.func79, Try.ntmps79
  go_wp2
  clear hW
  go_loopw [9] (fun s wr => ∃ k : Nat, k ≤ m ∧ s = .int .i64 k ∧ Hid (NoLeft f x y k) ∧ Below W.heap.size W wr) (fun s _ => m - (intOf s).toNat)
  case atStart => exact ⟨0, Nat.zero_le _, rfl, fun i hi => by omega, Below.refl _ _⟩
  case round =>
    obtain ⟨k, hk, rfl, hok, B⟩ := hrel
    have BB := bW.trans (B.mono bW.size)
    by_cases hlt : k < m
    · have hlt' : (k : Int) < (m : Int) := by omega
      have L := h.below BB
      have hq := L.1
      obtain ⟨c0, c1, c2⟩ := L.open k hlt
      clear L
      obtain ⟨V, hV, a1, bV, -⟩ := boxed wr 35 #[.int .i64 (f (k * 3)), .int .i64 (f (k * 3 + 1)), .int .i64 (f (k * 3 + 2))]
      have B' := B.trans (bV.mono B.size)
      obtain ⟨d0, d1, d2, -⟩ := a1.open3
      have a0 := b0.below B'
      obtain ⟨e0, e1, e2, -⟩ := a0.open3
      have rk := Rt.in (hr k hlt)
      by_cases hl : 0 < cr x y (f (k * 3)) (f (k * 3 + 1))
      · obtain rfl : b = true := hb.2 ⟨k, hlt, hl⟩
        clear hok hb b0 a0 a1
        go_wp2_with fail
        refine (turnTo_any _ _ _ _ _ _ _ hx hy rk.1 rk.2.1).mono ?_
        rintro e w3 ⟨rfl, b3⟩
        go_wp2
        go_ret
        exact ⟨rfl, bW.trans ((B'.trans (b3.mono B'.size)).mono bW.size)⟩
      · have HO : Hid (NoLeft f x y (k + 1)) := fun i hi => by
          by_cases e : i = k
          · rw [e]; exact hl
          · exact hok.out i (by omega)
        clear hok hb b0 a0 a1
        go_wp2_with fail
        refine (turnTo_any _ _ _ _ _ _ _ hx hy rk.1 rk.2.1).mono ?_
        rintro e w3 ⟨rfl, b3⟩
        go_wp2
        exact ⟨⟨k + 1, by omega, by go_num, HO, B'.trans (b3.mono B'.size)⟩, by simp [intOf]; omega⟩
    · have hlt' : ¬ (k : Int) < (m : Int) := by omega
      obtain rfl : k = m := by omega
      obtain rfl : b = false := no_one hb hok.out
      go_wp2
      go_ret
      exact ⟨rfl, BB⟩
theorem bounded_any {w : World} {g m c : Nat} {f : Nat → Int} (h : Trips w g m f) (hm : m ≤ 1048576) (hr : ∀ i, i < m → Rt f i = true) (b : Bool) (hb : Tells b (∀ i, i < m → ∃ k, k < m ∧ 0 < Lf f i k)) :
    Calls Try.prog 62 #[.slice (some ⟨g, 0, none⟩) m c] w fun e w' => e = .returned (.bool b) ∧ Below w.heap.size w w' := by
  go_enter Try.func62, Try.ntmps62
  go_wp2
  go_loopw [7] (fun s wr => ∃ k : Nat, k ≤ m ∧ s = .int .i64 k ∧ Hid (∀ i, i < k → ∃ k, k < m ∧ 0 < Lf f i k) ∧ Below w.heap.size w wr) (fun s _ => m - (intOf s).toNat)
  case atStart => exact ⟨0, Nat.zero_le _, rfl, fun i hi => by omega, Below.refl _ _⟩
  case round =>
    obtain ⟨k, hk, rfl, hok, B⟩ := hrel
    by_cases hlt : k < m
    · have hlt' : (k : Int) < (m : Int) := by omega
      have L := h.below B
      have hq := L.1
      obtain ⟨c0, c1, c2⟩ := L.open k hlt
      obtain ⟨V, hV, a1, bV, -⟩ := boxed wr 35 #[.int .i64 (f (k * 3)), .int .i64 (f (k * 3 + 1)), .int .i64 (f (k * 3 + 2))]
      have B' := B.trans (bV.mono B.size)
      obtain ⟨d0, d1, d2, -⟩ := a1.open3
      have rk := Rt.in (hr k hlt)
      have LV := L.below bV
      clear L
      by_cases hl : ∃ j, j < m ∧ 0 < Lf f k j
      · have HO : Hid (∀ i, i < k + 1 → ∃ k, k < m ∧ 0 < Lf f i k) := fun i hi => by
          by_cases e : i = k
          · rw [e]; exact hl
          · exact hok.out i (by omega)
        have HC : Tells true (∃ j, j < m ∧ 0 < Lf f k j) := ⟨fun _ => hl, fun _ => rfl⟩
        clear hok hb a1 hl
        go_wp2_with fail
        refine (oneLeft_any LV hm rk.1 rk.2.1 hr true HC).mono ?_
        rintro e w3 ⟨rfl, b3⟩
        go_wp2
        exact ⟨⟨k + 1, by omega, by go_num, HO, B'.trans (b3.mono B'.size)⟩, by simp [intOf]; omega⟩
      · obtain rfl := no_all hb hlt hl
        have HC : Tells false (∃ j, j < m ∧ 0 < Lf f k j) := ⟨fun h => Bool.noConfusion h, fun h => absurd h hl⟩
        clear hok hb a1 hl
        go_wp2_with fail
        refine (oneLeft_any LV hm rk.1 rk.2.1 hr false HC).mono ?_
        rintro e w3 ⟨rfl, b3⟩
        go_wp2
        go_ret
        exact ⟨rfl, B'.trans (b3.mono B'.size)⟩
    · have hlt' : ¬ (k : Int) < (m : Int) := by omega
      obtain rfl : k = m := by omega
      obtain rfl : b = true := hb.2 hok.out
      go_wp2
      go_ret
      exact ⟨rfl, B⟩
theorem SOk.no {n : Nat} {f : Nat → Int} {b : Bool} (hb : b = true ↔ SOk n f) (h : ¬ SOk n f) : b = false := by
  rw [Bool.eq_false_iff]; exact fun e => h (hb.1 e)
set_option maxHeartbeats 1600000 in
theorem implShape_any {w : World} {g n c : Nat} {f : Nat → Int} (h : Trips w g n f) (hc : n ≤ c) (hn : n ≤ 1048576) (b : Bool) (hb : Tells b (SOk n f)) :
    Calls Try.prog 35 #[.slice (some ⟨g, 0, none⟩) n c] w fun e w' => e = .returned (.bool b) ∧ Below w.heap.size w w' := by
  by_cases hm : n < 3
  · have h1 : (n : Int) < 3 := by omega
    obtain rfl := SOk.no hb (fun h => by have := h.lo; omega)
    go_enter Try.func35, Try.ntmps35
    go_wp2
    go_ret
    exact ⟨rfl, Below.refl _ _⟩
  by_cases hm2 : 40 < n
  · have h1 : ¬ (n : Int) < 3 := by omega
    have h2 : (40 : Int) < (n : Int) := by omega
    obtain rfl := SOk.no hb (fun h => by have := h.hi; omega)
    go_enter Try.func35, Try.ntmps35
    go_wp2
    go_ret
    exact ⟨rfl, Below.refl _ _⟩
  have h1 : ¬ (n : Int) < 3 := by omega
  have h2 : ¬ (40 : Int) < (n : Int) := by omega
  go_enter Try.func35, Try.ntmps35
  go_wp2
  go_loopw [15] (fun s wr => ∃ k : Nat, k ≤ n ∧ s = .int .i64 k ∧ Hid (∀ i, i < k → Rt f i = true ∧ ∀ j, j < i → ¬ Same f i j) ∧ Below w.heap.size w wr) (fun s _ => n - (intOf s).toNat)
  case atStart => exact ⟨0, Nat.zero_le _, rfl, fun i hi => by omega, Below.refl _ _⟩
  case round =>
    obtain ⟨k, hk, rfl, hok, B⟩ := hrel
    by_cases hlt : k < n
    · have hlt' : (k : Int) < (n : Int) := by omega
      have hkc : (k : Int) ≤ (c : Int) := by omega
      have L := h.below B
      have hq := L.1
      obtain ⟨c0, c1, c2⟩ := L.open k hlt
      obtain ⟨V, hV, a1, bV, -⟩ := boxed wr 35 #[.int .i64 (f (k * 3)), .int .i64 (f (k * 3 + 1)), .int .i64 (f (k * 3 + 2))]
      replace B := B.trans (bV.mono B.size)
      replace L := L.below bV
      go_wp2_with fail
      clear c0 c1 c2 hV bV
      cases ho : Rt f k
      · obtain rfl := SOk.no hb (fun h => by have := h.right k hlt; rw [ho] at this; cases this)
        clear hok hb
        obtain ⟨u0, hu0, bb⟩ : ∃ u0, V.drew = u0 ∧ Below V.heap.size V u0 := ⟨_, rfl, (Below.refl _ _).drew⟩
        replace a1 := a1.below bb
        replace L := L.below bb
        replace B := B.trans (bb.mono B.size)
        clear bb
        refine wp_region_held_drew (S := Kb u0) (by kernel_rfl) (by rw [hu0]; exact Below.refl _ _) (fun hHeld => ?_)
        rw [hu0] at hHeld ⊢
        clear hu0
        have bu : Kb u0 u0 := Below.refl _ _
        change wpAnyH _ _ _ _ _ 10 #[false, false, false, false, false, false, false, false, false, false] _ _
        refine wpAnyH_take (i := 0) (v := fV (f (k * 3)) (f (k * 3 + 1)) (f (k * 3 + 2))) rfl (by kernel_rfl) (by kernel_rfl) (by kernel_rfl) (fun _ _ _ h => h) (Or.inl ⟨by kernel_rfl, ?_⟩) hHeld ?_
        · intro w' hSw; obtain ⟨z0, z1, z2, -⟩ := (a1.below hSw).open3; go_simp
        try simp only [Act.put, List.setIfInBounds_toArray, List.set_cons_zero, List.set_cons_succ, List.getElem_toArray, List.getElem_cons_zero]
        refine wpAnyH_ready (rs := [1]) (by kernel_rfl) (by simp) ?_
        refine AllReadyH.cons rfl (fun KK hK' => ?_) AllReadyH.nil
        go_simp
        refine (right_any _ _ _ _).mono ?_
        rintro e u1 ⟨rfl, bb⟩
        rw [show fOk (f (k * 3)) (f (k * 3 + 1)) (f (k * 3 + 2)) = false from ho]
        replace bu : Kb u0 u1 := bu.trans (bb.mono bu.size)
        clear bb
        try go_wp2_with fail
        clear hHeld
        refine hK'.out _ _ bu (fun hHeld => ?_)
        clear hK' KK
        try simp only [List.setIfInBounds_toArray, List.set_cons_zero, List.set_cons_succ]
        refine wpAnyH_take (i := 2) (v := .bool true) rfl (by kernel_rfl) (by kernel_rfl) (by kernel_rfl) (fun _ _ _ h => h) (Or.inl ⟨by kernel_rfl, ?_⟩) hHeld ?_
        · intro w' hSw; go_simp
        try simp only [Act.put, List.setIfInBounds_toArray, List.set_cons_zero, List.set_cons_succ, List.getElem_toArray, List.getElem_cons_succ, List.getElem_cons_zero]
        refine wpAnyH_take (i := 3) (v := .bool true) rfl (by kernel_rfl) (by kernel_rfl) (by kernel_rfl) (fun _ _ _ h => h) (Or.inl ⟨by kernel_rfl, ?_⟩) hHeld ?_
        · intro w' hSw; go_simp
        try simp only [Act.put, List.setIfInBounds_toArray, List.set_cons_zero, List.set_cons_succ, List.getElem_toArray, List.getElem_cons_succ, List.getElem_cons_zero]
        refine wpAnyH_take (i := 4) (v := undef) rfl (by kernel_rfl) (by kernel_rfl) (by kernel_rfl) (fun _ _ _ h => h) (Or.inr ⟨by kernel_rfl, rfl⟩) hHeld ?_
        try simp only [Act.put, List.setIfInBounds_toArray, List.set_cons_zero, List.set_cons_succ, List.getElem_toArray, List.getElem_cons_succ, List.getElem_cons_zero]
        refine wpAnyH_take (i := 5) (v := undef) rfl (by kernel_rfl) (by kernel_rfl) (by kernel_rfl) (fun _ _ _ h => h) (Or.inr ⟨by kernel_rfl, rfl⟩) hHeld ?_
        try simp only [Act.put, List.setIfInBounds_toArray, List.set_cons_zero, List.set_cons_succ, List.getElem_toArray, List.getElem_cons_succ, List.getElem_cons_zero]
        refine wpAnyH_take (i := 6) (v := undef) rfl (by kernel_rfl) (by kernel_rfl) (by kernel_rfl) (fun _ _ _ h => h) (Or.inr ⟨by kernel_rfl, rfl⟩) hHeld ?_
        try simp only [Act.put, List.setIfInBounds_toArray, List.set_cons_zero, List.set_cons_succ, List.getElem_toArray, List.getElem_cons_succ, List.getElem_cons_zero]
        refine wpAnyH_take (i := 7) (v := undef) rfl (by kernel_rfl) (by kernel_rfl) (by kernel_rfl) (fun _ _ _ h => h) (Or.inr ⟨by kernel_rfl, rfl⟩) hHeld ?_
        try simp only [Act.put, List.setIfInBounds_toArray, List.set_cons_zero, List.set_cons_succ, List.getElem_toArray, List.getElem_cons_succ, List.getElem_cons_zero]
        refine wpAnyH_take (i := 8) (v := undef) rfl (by kernel_rfl) (by kernel_rfl) (by kernel_rfl) (fun _ _ _ h => h) (Or.inr ⟨by kernel_rfl, rfl⟩) hHeld ?_
        try simp only [Act.put, List.setIfInBounds_toArray, List.set_cons_zero, List.set_cons_succ, List.getElem_toArray, List.getElem_cons_succ, List.getElem_cons_zero]
        refine wpAnyH_ready (rs := [9]) (by kernel_rfl) (by simp) ?_
        refine AllReadyH.cons rfl (fun KK hK' => ?_) AllReadyH.nil
        go_simp
        clear hHeld
        refine hK'.out _ _ (bu) (fun hHeld => ?_)
        clear hK' KK
        try simp only [List.setIfInBounds_toArray, List.set_cons_zero, List.set_cons_succ]
        refine wpAnyH_done (by kernel_rfl) ?_ _
        clear hHeld
        replace B := B.trans (Below.mono bu B.size)
        clear bu a1 L
        go_wp2
        go_ret
        exact ⟨rfl, B⟩
      · by_cases hs : ∃ j, j < k ∧ (f (k * 3) = f (j * 3) ∧ f (k * 3 + 1) = f (j * 3 + 1))
        · obtain rfl := SOk.no hb (fun h => by obtain ⟨j, hj, hs⟩ := hs; exact h.apart k hlt j hj hs)
          have HC : Tells true (∃ j, j < k ∧ (f (k * 3) = f (j * 3) ∧ f (k * 3 + 1) = f (j * 3 + 1))) := ⟨fun _ => hs, fun _ => rfl⟩
          clear hok hb hs
          obtain ⟨u0, hu0, bb⟩ : ∃ u0, V.drew = u0 ∧ Below V.heap.size V u0 := ⟨_, rfl, (Below.refl _ _).drew⟩
          replace a1 := a1.below bb
          replace L := L.below bb
          replace B := B.trans (bb.mono B.size)
          clear bb
          refine wp_region_held_drew (S := Kb u0) (by kernel_rfl) (by rw [hu0]; exact Below.refl _ _) (fun hHeld => ?_)
          rw [hu0] at hHeld ⊢
          clear hu0
          have bu : Kb u0 u0 := Below.refl _ _
          change wpAnyH _ _ _ _ _ 10 #[false, false, false, false, false, false, false, false, false, false] _ _
          refine wpAnyH_take (i := 0) (v := fV (f (k * 3)) (f (k * 3 + 1)) (f (k * 3 + 2))) rfl (by kernel_rfl) (by kernel_rfl) (by kernel_rfl) (fun _ _ _ h => h) (Or.inl ⟨by kernel_rfl, ?_⟩) hHeld ?_
          · intro w' hSw; obtain ⟨z0, z1, z2, -⟩ := (a1.below hSw).open3; go_simp
          try simp only [Act.put, List.setIfInBounds_toArray, List.set_cons_zero, List.set_cons_succ, List.getElem_toArray, List.getElem_cons_zero]
          refine wpAnyH_ready (rs := [1]) (by kernel_rfl) (by simp) ?_
          refine AllReadyH.cons rfl (fun KK hK' => ?_) AllReadyH.nil
          go_simp
          refine (right_any _ _ _ _).mono ?_
          rintro e u1 ⟨rfl, bb⟩
          rw [show fOk (f (k * 3)) (f (k * 3 + 1)) (f (k * 3 + 2)) = true from ho]
          replace bu : Kb u0 u1 := bu.trans (bb.mono bu.size)
          clear bb
          try go_wp2_with fail
          clear hHeld
          refine hK'.out _ _ bu (fun hHeld => ?_)
          clear hK' KK
          try simp only [List.setIfInBounds_toArray, List.set_cons_zero, List.set_cons_succ]
          refine wpAnyH_take (i := 2) (v := .bool false) rfl (by kernel_rfl) (by kernel_rfl) (by kernel_rfl) (fun _ _ _ h => h) (Or.inl ⟨by kernel_rfl, ?_⟩) hHeld ?_
          · intro w' hSw; go_simp
          try simp only [Act.put, List.setIfInBounds_toArray, List.set_cons_zero, List.set_cons_succ, List.getElem_toArray, List.getElem_cons_succ, List.getElem_cons_zero]
          refine wpAnyH_take (i := 3) (v := .bool false) rfl (by kernel_rfl) (by kernel_rfl) (by kernel_rfl) (fun _ _ _ h => h) (Or.inl ⟨by kernel_rfl, ?_⟩) hHeld ?_
          · intro w' hSw; go_simp
          try simp only [Act.put, List.setIfInBounds_toArray, List.set_cons_zero, List.set_cons_succ, List.getElem_toArray, List.getElem_cons_succ, List.getElem_cons_zero]
          refine wpAnyH_take (i := 4) (v := fV (f (k * 3)) (f (k * 3 + 1)) (f (k * 3 + 2))) rfl (by kernel_rfl) (by kernel_rfl) (by kernel_rfl) (fun _ _ _ h => h) (Or.inl ⟨by kernel_rfl, ?_⟩) hHeld ?_
          · intro w' hSw; obtain ⟨z0, z1, z2, -⟩ := (a1.below hSw).open3; go_simp
          try simp only [Act.put, List.setIfInBounds_toArray, List.set_cons_zero, List.set_cons_succ, List.getElem_toArray, List.getElem_cons_succ, List.getElem_cons_zero]
          refine wpAnyH_take (i := 5) (v := .slice (some ⟨g, 0, none⟩) n c) rfl (by kernel_rfl) (by kernel_rfl) (by kernel_rfl) (fun _ _ _ h => h) (Or.inl ⟨by kernel_rfl, ?_⟩) hHeld ?_
          · intro w' hSw; go_simp
          try simp only [Act.put, List.setIfInBounds_toArray, List.set_cons_zero, List.set_cons_succ, List.getElem_toArray, List.getElem_cons_succ, List.getElem_cons_zero]
          refine wpAnyH_take (i := 6) (v := .int .i64 (k : Int)) rfl (by kernel_rfl) (by kernel_rfl) (by kernel_rfl) (fun _ _ _ h => h) (Or.inl ⟨by kernel_rfl, ?_⟩) hHeld ?_
          · intro w' hSw; go_simp
          try simp only [Act.put, List.setIfInBounds_toArray, List.set_cons_zero, List.set_cons_succ, List.getElem_toArray, List.getElem_cons_succ, List.getElem_cons_zero]
          refine wpAnyH_take (i := 7) (v := .slice (some ⟨g, 0, none⟩) k c) rfl (by kernel_rfl) (by kernel_rfl) (by kernel_rfl) (fun _ _ _ h => h) (Or.inl ⟨by kernel_rfl, ?_⟩) hHeld ?_
          · intro w' hSw; go_simp
          try simp only [Act.put, List.setIfInBounds_toArray, List.set_cons_zero, List.set_cons_succ, List.getElem_toArray, List.getElem_cons_succ, List.getElem_cons_zero]
          refine wpAnyH_ready (rs := [8]) (by kernel_rfl) (by simp) ?_
          refine AllReadyH.cons rfl (fun KK hK' => ?_) AllReadyH.nil
          go_simp
          refine (hasNormal_any ((L.below bu).take hk) (by omega) true HC).mono ?_
          rintro e u2 ⟨rfl, bb⟩
          replace bu : Kb u0 u2 := bu.trans (bb.mono bu.size)
          clear bb
          try go_wp2_with fail
          clear hHeld
          refine hK'.out _ _ bu (fun hHeld => ?_)
          clear hK' KK
          try simp only [List.setIfInBounds_toArray, List.set_cons_zero, List.set_cons_succ]
          refine wpAnyH_ready (rs := [9]) (by kernel_rfl) (by simp) ?_
          refine AllReadyH.cons rfl (fun KK hK' => ?_) AllReadyH.nil
          go_simp
          clear hHeld
          refine hK'.out _ _ (bu) (fun hHeld => ?_)
          clear hK' KK
          try simp only [List.setIfInBounds_toArray, List.set_cons_zero, List.set_cons_succ]
          refine wpAnyH_done (by kernel_rfl) ?_ _
          clear hHeld
          replace B := B.trans (Below.mono bu B.size)
          clear bu a1 L
          go_wp2
          go_ret
          exact ⟨rfl, B⟩
        · have HO : Hid (∀ i, i < k + 1 → Rt f i = true ∧ ∀ j, j < i → ¬ Same f i j) := fun i hi => by
            by_cases e : i = k
            · rw [e]; exact ⟨ho, fun j hj hh => hs ⟨j, hj, hh⟩⟩
            · exact hok.out i (by omega)
          have HC : Tells false (∃ j, j < k ∧ (f (k * 3) = f (j * 3) ∧ f (k * 3 + 1) = f (j * 3 + 1))) := ⟨fun h => Bool.noConfusion h, fun h => absurd h hs⟩
          clear hok hb hs
          obtain ⟨u0, hu0, bb⟩ : ∃ u0, V.drew = u0 ∧ Below V.heap.size V u0 := ⟨_, rfl, (Below.refl _ _).drew⟩
          replace a1 := a1.below bb
          replace L := L.below bb
          replace B := B.trans (bb.mono B.size)
          clear bb
          refine wp_region_held_drew (S := Kb u0) (by kernel_rfl) (by rw [hu0]; exact Below.refl _ _) (fun hHeld => ?_)
          rw [hu0] at hHeld ⊢
          clear hu0
          have bu : Kb u0 u0 := Below.refl _ _
          change wpAnyH _ _ _ _ _ 10 #[false, false, false, false, false, false, false, false, false, false] _ _
          refine wpAnyH_take (i := 0) (v := fV (f (k * 3)) (f (k * 3 + 1)) (f (k * 3 + 2))) rfl (by kernel_rfl) (by kernel_rfl) (by kernel_rfl) (fun _ _ _ h => h) (Or.inl ⟨by kernel_rfl, ?_⟩) hHeld ?_
          · intro w' hSw; obtain ⟨z0, z1, z2, -⟩ := (a1.below hSw).open3; go_simp
          try simp only [Act.put, List.setIfInBounds_toArray, List.set_cons_zero, List.set_cons_succ, List.getElem_toArray, List.getElem_cons_zero]
          refine wpAnyH_ready (rs := [1]) (by kernel_rfl) (by simp) ?_
          refine AllReadyH.cons rfl (fun KK hK' => ?_) AllReadyH.nil
          go_simp
          refine (right_any _ _ _ _).mono ?_
          rintro e u1 ⟨rfl, bb⟩
          rw [show fOk (f (k * 3)) (f (k * 3 + 1)) (f (k * 3 + 2)) = true from ho]
          replace bu : Kb u0 u1 := bu.trans (bb.mono bu.size)
          clear bb
          try go_wp2_with fail
          clear hHeld
          refine hK'.out _ _ bu (fun hHeld => ?_)
          clear hK' KK
          try simp only [List.setIfInBounds_toArray, List.set_cons_zero, List.set_cons_succ]
          refine wpAnyH_take (i := 2) (v := .bool false) rfl (by kernel_rfl) (by kernel_rfl) (by kernel_rfl) (fun _ _ _ h => h) (Or.inl ⟨by kernel_rfl, ?_⟩) hHeld ?_
          · intro w' hSw; go_simp
          try simp only [Act.put, List.setIfInBounds_toArray, List.set_cons_zero, List.set_cons_succ, List.getElem_toArray, List.getElem_cons_succ, List.getElem_cons_zero]
          refine wpAnyH_take (i := 3) (v := .bool false) rfl (by kernel_rfl) (by kernel_rfl) (by kernel_rfl) (fun _ _ _ h => h) (Or.inl ⟨by kernel_rfl, ?_⟩) hHeld ?_
          · intro w' hSw; go_simp
          try simp only [Act.put, List.setIfInBounds_toArray, List.set_cons_zero, List.set_cons_succ, List.getElem_toArray, List.getElem_cons_succ, List.getElem_cons_zero]
          refine wpAnyH_take (i := 4) (v := fV (f (k * 3)) (f (k * 3 + 1)) (f (k * 3 + 2))) rfl (by kernel_rfl) (by kernel_rfl) (by kernel_rfl) (fun _ _ _ h => h) (Or.inl ⟨by kernel_rfl, ?_⟩) hHeld ?_
          · intro w' hSw; obtain ⟨z0, z1, z2, -⟩ := (a1.below hSw).open3; go_simp
          try simp only [Act.put, List.setIfInBounds_toArray, List.set_cons_zero, List.set_cons_succ, List.getElem_toArray, List.getElem_cons_succ, List.getElem_cons_zero]
          refine wpAnyH_take (i := 5) (v := .slice (some ⟨g, 0, none⟩) n c) rfl (by kernel_rfl) (by kernel_rfl) (by kernel_rfl) (fun _ _ _ h => h) (Or.inl ⟨by kernel_rfl, ?_⟩) hHeld ?_
          · intro w' hSw; go_simp
          try simp only [Act.put, List.setIfInBounds_toArray, List.set_cons_zero, List.set_cons_succ, List.getElem_toArray, List.getElem_cons_succ, List.getElem_cons_zero]
          refine wpAnyH_take (i := 6) (v := .int .i64 (k : Int)) rfl (by kernel_rfl) (by kernel_rfl) (by kernel_rfl) (fun _ _ _ h => h) (Or.inl ⟨by kernel_rfl, ?_⟩) hHeld ?_
          · intro w' hSw; go_simp
          try simp only [Act.put, List.setIfInBounds_toArray, List.set_cons_zero, List.set_cons_succ, List.getElem_toArray, List.getElem_cons_succ, List.getElem_cons_zero]
          refine wpAnyH_take (i := 7) (v := .slice (some ⟨g, 0, none⟩) k c) rfl (by kernel_rfl) (by kernel_rfl) (by kernel_rfl) (fun _ _ _ h => h) (Or.inl ⟨by kernel_rfl, ?_⟩) hHeld ?_
          · intro w' hSw; go_simp
          try simp only [Act.put, List.setIfInBounds_toArray, List.set_cons_zero, List.set_cons_succ, List.getElem_toArray, List.getElem_cons_succ, List.getElem_cons_zero]
          refine wpAnyH_ready (rs := [8]) (by kernel_rfl) (by simp) ?_
          refine AllReadyH.cons rfl (fun KK hK' => ?_) AllReadyH.nil
          go_simp
          refine (hasNormal_any ((L.below bu).take hk) (by omega) false HC).mono ?_
          rintro e u2 ⟨rfl, bb⟩
          replace bu : Kb u0 u2 := bu.trans (bb.mono bu.size)
          clear bb
          try go_wp2_with fail
          clear hHeld
          refine hK'.out _ _ bu (fun hHeld => ?_)
          clear hK' KK
          try simp only [List.setIfInBounds_toArray, List.set_cons_zero, List.set_cons_succ]
          refine wpAnyH_ready (rs := [9]) (by kernel_rfl) (by simp) ?_
          refine AllReadyH.cons rfl (fun KK hK' => ?_) AllReadyH.nil
          go_simp
          clear hHeld
          refine hK'.out _ _ (bu) (fun hHeld => ?_)
          clear hK' KK
          try simp only [List.setIfInBounds_toArray, List.set_cons_zero, List.set_cons_succ]
          refine wpAnyH_done (by kernel_rfl) ?_ _
          clear hHeld
          replace B := B.trans (Below.mono bu B.size)
          clear bu a1 L
          go_wp2
          exact ⟨⟨k + 1, by omega, by go_num, HO, B⟩, by simp [intOf]; omega⟩
    · have hlt' : ¬ (k : Int) < (n : Int) := by omega
      obtain rfl : k = n := by omega
      have hb' : Tells b (∀ i, i < k → ∃ j, j < k ∧ 0 < Lf f i j) := ⟨fun e => (hb.1 e).left, fun h => hb.2 ⟨by omega, by omega, fun i hi => (hok.out i hi).1, fun i hi => (hok.out i hi).2, h⟩⟩
      have HR : Hid (∀ i, i < k → Rt f i = true) := fun i hi => (hok.out i hi).1
      have L := h.below B
      clear hok hb
      go_wp2_with fail
      refine (bounded_any L hn HR.out b hb').mono ?_
      rintro e w3 ⟨rfl, b3⟩
      clear hb'
      go_wp2
      go_ret
      exact ⟨rfl, B.trans (b3.mono B.size)⟩
end Go.Proofs.Ytealbihplfpgeaa
