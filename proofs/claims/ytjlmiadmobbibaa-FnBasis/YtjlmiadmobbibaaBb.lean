/-
  Spots and bases: held to their bounds, by the program and by the specification, walked.
-/
import Derived.Test.YtjlmiadmobbibaaBa
import Derived.BigRegion
namespace Go.Proofs.Ytjlmiadmobbibaa
open Go.RowKit

/-- All that lay there lies there still. -/
def Kb (V w : World) : Prop := Below V.heap.size V w
theorem Kb.trans {a b c : World} (h : Kb a b) (k : Below a.heap.size b c) : Kb a c := Below.trans h k
theorem Kb.size {a b : World} (h : Kb a b) : a.heap.size ≤ b.heap.size := Below.size h
theorem At.open2 {t : TypeId} {w : World} {q : Nat} {v0 v1 : Value} (h : At t w q #[v0, v1]) : w.cell? ⟨q, 0, none⟩ = some v0 ∧ w.cell? ⟨q, 1, none⟩ = some v1 ∧ w.frozen? ⟨q, 0, none⟩ = false ∧ w.frozen? ⟨q, 1, none⟩ = false :=
  ⟨h.cell 0 rfl, h.cell 1 rfl, h.frozen 0, h.frozen 1⟩
theorem At.open4 {t : TypeId} {w : World} {q : Nat} {v0 v1 v2 v3 : Value} (h : At t w q #[v0, v1, v2, v3]) : w.cell? ⟨q, 0, none⟩ = some v0 ∧ w.cell? ⟨q, 1, none⟩ = some v1 ∧ w.cell? ⟨q, 2, none⟩ = some v2 ∧ w.cell? ⟨q, 3, none⟩ = some v3 ∧ w.frozen? ⟨q, 0, none⟩ = false ∧ w.frozen? ⟨q, 1, none⟩ = false ∧ w.frozen? ⟨q, 2, none⟩ = false ∧ w.frozen? ⟨q, 3, none⟩ = false :=
  ⟨h.cell 0 rfl, h.cell 1 rfl, h.cell 2 rfl, h.cell 3 rfl, h.frozen 0, h.frozen 1, h.frozen 2, h.frozen 3⟩
theorem mul_in {x y X Y : Int} (hx : -X ≤ x ∧ x ≤ X) (hy : -Y ≤ y ∧ y ≤ Y) : -(X * Y) ≤ x * y ∧ x * y ≤ X * Y := by
  have h1 : x.natAbs ≤ X.natAbs := by omega
  have h2 : y.natAbs ≤ Y.natAbs := by omega
  have h3 := Nat.mul_le_mul h1 h2
  rw [← Int.natAbs_mul, ← Int.natAbs_mul] at h3
  have hX : 0 ≤ X := by omega
  have hY : 0 ≤ Y := by omega
  have hp := Int.mul_nonneg hX hY
  omega
theorem mul_m {a b : Int} (ha : -1000 ≤ a ∧ a ≤ 1000) (hb : -1000 ≤ b ∧ b ≤ 1000) : -1000000 ≤ a * b ∧ a * b ≤ 1000000 := mul_in (X := 1000) (Y := 1000) ha hb
abbrev bV (a b c d : Int) : Value := .agg #[.int .i64 a, .int .i64 b, .int .i64 c, .int .i64 d]
noncomputable def pd (P : Prop) : Bool := @decide P (Classical.propDecidable _)
theorem pd_yes {P : Prop} (h : P) : pd P = true := by simp [pd, h]
theorem pd_no {P : Prop} (h : ¬ P) : pd P = false := by simp [pd, h]
theorem pd_congr {P Q : Prop} (h : P ↔ Q) : pd P = pd Q := by rw [propext h]
/-- A number of a basis. -/
def Wi (x : Int) : Prop := -1000 ≤ x ∧ x ≤ 1000
/-- A basis that is right. -/
def BsOk (a b c d : Int) : Prop := Wi a ∧ Wi b ∧ Wi c ∧ Wi d ∧ 0 < a * d - b * c
/-- Spots that are right. -/
def SpOk (n : Nat) (f : Nat → Int) : Prop := n ≤ 16 ∧ ∀ i, i < n → (0 ≤ f (i * 3) ∧ f (i * 3) ≤ 1000) ∧ (0 ≤ f (i * 3 + 1) ∧ f (i * 3 + 1) ≤ 1000)
theorem within_yes (x : Int) (h : Wi x) (w : World) : Calls Try.prog 57 #[.int .i64 x, .int .i64 1000] w fun e w' => e = .returned (.bool true) ∧ w = w' := by
  obtain ⟨h1, h2⟩ := h
  go_enter Try.func57, Try.ntmps57
  go_wp2
  go_ret
  exact ⟨rfl, rfl⟩
theorem within_no (x : Int) (h : ¬ Wi x) (w : World) : Calls Try.prog 57 #[.int .i64 x, .int .i64 1000] w fun e w' => e = .returned (.bool false) ∧ w = w' := by
  by_cases h1 : -1000 ≤ x
  · have h2 : ¬ x ≤ 1000 := fun h2 => h ⟨h1, h2⟩
    go_enter Try.func57, Try.ntmps57
    go_wp2
    go_ret
    exact ⟨rfl, rfl⟩
  · go_enter Try.func57, Try.ntmps57
    go_wp2
    go_ret
    exact ⟨rfl, rfl⟩
theorem in_yes {x lo hi : Int} (h : lo ≤ x ∧ x ≤ hi) (w : World) : Calls Try.prog 50 #[.int .i64 x, .int .i64 lo, .int .i64 hi] w fun e w' => e = .returned (.bool true) ∧ w = w' := by
  obtain ⟨h1, h2⟩ := h
  go_enter Try.func50, Try.ntmps50
  go_wp2
  go_ret
  exact ⟨rfl, rfl⟩
theorem in_no {x lo hi : Int} (h : ¬ (lo ≤ x ∧ x ≤ hi)) (w : World) : Calls Try.prog 50 #[.int .i64 x, .int .i64 lo, .int .i64 hi] w fun e w' => e = .returned (.bool false) ∧ w = w' := by
  by_cases h1 : lo ≤ x
  · have h2 : ¬ x ≤ hi := fun h2 => h ⟨h1, h2⟩
    go_enter Try.func50, Try.ntmps50
    go_wp2
    go_ret
    exact ⟨rfl, rfl⟩
  · go_enter Try.func50, Try.ntmps50
    go_wp2
    go_ret
    exact ⟨rfl, rfl⟩
set_option maxHeartbeats 4000000 in
theorem area_any {a b c d : Int} (ha : Wi a) (hb : Wi b) (hc : Wi c) (hd : Wi d) (w : World) : Calls Try.prog 54 #[bV a b c d] w fun e w' => e = .returned (.int .i64 (a * d - b * c)) ∧ Below w.heap.size w w' := by
  obtain ⟨V, hV, b0, bV, -⟩ := boxed w 27 #[.int .i64 a, .int .i64 b, .int .i64 c, .int .i64 d]
  obtain ⟨c0, c1, c2, c3, -⟩ := b0.open4
  have p1 := mul_m ha hd
  have p2 := mul_m hb hc
  clear b0 ha hb hc hd
  go_enter Try.func54, Try.ntmps54
  go_wp2
  go_ret
  exact ⟨rfl, bV⟩
set_option maxHeartbeats 4000000 in
theorem det_any {a b c d : Int} (ha : Wi a) (hb : Wi b) (hc : Wi c) (hd : Wi d) (w : World) : Calls Try.prog 27 #[bV a b c d] w fun e w' => e = .returned (.int .i64 (a * d - b * c)) ∧ Below w.heap.size w w' := by
  obtain ⟨V, hV, b0, bV, -⟩ := boxed w 27 #[.int .i64 a, .int .i64 b, .int .i64 c, .int .i64 d]
  obtain ⟨c0, c1, c2, c3, -⟩ := b0.open4
  have p1 := mul_m ha hd
  have p2 := mul_m hb hc
  clear b0 ha hb hc hd
  go_enter Try.func27, Try.ntmps27
  go_wp2
  go_ret
  exact ⟨rfl, bV⟩
set_option maxHeartbeats 4000000 in
theorem right_any (a b c d : Int) (w : World) : Calls Try.prog 33 #[bV a b c d] w fun e w' => e = .returned (.bool (pd (BsOk a b c d))) ∧ Below w.heap.size w w' := by
  obtain ⟨V, hV, b0, bW, -⟩ := boxed w 27 #[.int .i64 a, .int .i64 b, .int .i64 c, .int .i64 d]
  obtain ⟨c0, c1, c2, c3, -⟩ := b0.open4
  obtain ⟨D, hD⟩ : ∃ D, pd (BsOk a b c d) = D := ⟨_, rfl⟩
  rw [hD]
  have H0 : ¬ BsOk a b c d → D = false := fun h => hD ▸ pd_no h
  have H1 : BsOk a b c d → D = true := fun h => hD ▸ pd_yes h
  clear hD
  go_enter Try.func33, Try.ntmps33
  go_wp2_with fail
  by_cases ha : Wi a
  case neg =>
    obtain rfl : D = false := H0 fun h => ha h.1
    clear H0 H1
    refine (within_no _ ha _).mono ?_
    rintro e w2 ⟨rfl, rfl⟩
    go_wp2
    go_ret
    exact ⟨rfl, bW⟩
  refine (within_yes _ ha _).mono ?_
  rintro e w2 ⟨rfl, rfl⟩
  go_wp2_with fail
  by_cases hb : Wi b
  case neg =>
    obtain rfl : D = false := H0 fun h => hb h.2.1
    clear H0 H1
    refine (within_no _ hb _).mono ?_
    rintro e w2 ⟨rfl, rfl⟩
    go_wp2
    go_ret
    exact ⟨rfl, bW⟩
  refine (within_yes _ hb _).mono ?_
  rintro e w2 ⟨rfl, rfl⟩
  go_wp2_with fail
  by_cases hc : Wi c
  case neg =>
    obtain rfl : D = false := H0 fun h => hc h.2.2.1
    clear H0 H1
    refine (within_no _ hc _).mono ?_
    rintro e w2 ⟨rfl, rfl⟩
    go_wp2
    go_ret
    exact ⟨rfl, bW⟩
  refine (within_yes _ hc _).mono ?_
  rintro e w2 ⟨rfl, rfl⟩
  go_wp2_with fail
  by_cases hd : Wi d
  case neg =>
    obtain rfl : D = false := H0 fun h => hd h.2.2.2.1
    clear H0 H1
    refine (within_no _ hd _).mono ?_
    rintro e w2 ⟨rfl, rfl⟩
    go_wp2
    go_ret
    exact ⟨rfl, bW⟩
  refine (within_yes _ hd _).mono ?_
  rintro e w2 ⟨rfl, rfl⟩
  go_wp2_with fail
  refine (area_any ha hb hc hd _).mono ?_
  rintro e w2 ⟨rfl, bb⟩
  replace bW := bW.trans (bb.mono bW.size)
  clear bb c0 c1 c2 c3 b0 hV
  obtain ⟨X, hX⟩ : ∃ X, a * d - b * c = X := ⟨_, rfl⟩
  rw [hX]
  by_cases hp : 0 < X
  · obtain rfl : D = true := H1 ⟨ha, hb, hc, hd, by rw [hX]; exact hp⟩
    clear H0 H1 hX
    go_wp2
    go_ret
    exact ⟨by simp, bW⟩
  · obtain rfl : D = false := H0 fun h => hp (by rw [← hX]; exact h.2.2.2.2)
    clear H0 H1 hX
    go_wp2
    go_ret
    exact ⟨by simp [hp], bW⟩
set_option maxHeartbeats 4000000 in
theorem basis_any (a b c d : Int) (w : World) : Calls Try.prog 44 #[bV a b c d] w fun e w' => e = .returned (.bool (pd (BsOk a b c d))) ∧ Below w.heap.size w w' := by
  obtain ⟨V, hV, b0, bW, -⟩ := boxed w 27 #[.int .i64 a, .int .i64 b, .int .i64 c, .int .i64 d]
  obtain ⟨c0, c1, c2, c3, -⟩ := b0.open4
  obtain ⟨D, hD⟩ : ∃ D, pd (BsOk a b c d) = D := ⟨_, rfl⟩
  rw [hD]
  have H0 : ¬ BsOk a b c d → D = false := fun h => hD ▸ pd_no h
  have H1 : BsOk a b c d → D = true := fun h => hD ▸ pd_yes h
  clear hD
  go_enter Try.func44, Try.ntmps44
  go_wp2_with fail
  by_cases ha : Wi a
  case neg =>
    obtain rfl : D = false := H0 fun h => ha h.1
    clear H0 H1
    refine (in_no ha _).mono ?_
    rintro e w2 ⟨rfl, rfl⟩
    go_wp2
    go_ret
    exact ⟨rfl, bW⟩
  refine (in_yes ha _).mono ?_
  rintro e w2 ⟨rfl, rfl⟩
  go_wp2_with fail
  by_cases hb : Wi b
  case neg =>
    obtain rfl : D = false := H0 fun h => hb h.2.1
    clear H0 H1
    refine (in_no hb _).mono ?_
    rintro e w2 ⟨rfl, rfl⟩
    go_wp2
    go_ret
    exact ⟨rfl, bW⟩
  refine (in_yes hb _).mono ?_
  rintro e w2 ⟨rfl, rfl⟩
  go_wp2_with fail
  by_cases hc : Wi c
  case neg =>
    obtain rfl : D = false := H0 fun h => hc h.2.2.1
    clear H0 H1
    refine (in_no hc _).mono ?_
    rintro e w2 ⟨rfl, rfl⟩
    go_wp2
    go_ret
    exact ⟨rfl, bW⟩
  refine (in_yes hc _).mono ?_
  rintro e w2 ⟨rfl, rfl⟩
  go_wp2_with fail
  by_cases hd : Wi d
  case neg =>
    obtain rfl : D = false := H0 fun h => hd h.2.2.2.1
    clear H0 H1
    refine (in_no hd _).mono ?_
    rintro e w2 ⟨rfl, rfl⟩
    go_wp2
    go_ret
    exact ⟨rfl, bW⟩
  refine (in_yes hd _).mono ?_
  rintro e w2 ⟨rfl, rfl⟩
  go_wp2_with fail
  refine (det_any ha hb hc hd _).mono ?_
  rintro e w2 ⟨rfl, bb⟩
  replace bW := bW.trans (bb.mono bW.size)
  clear bb c0 c1 c2 c3 b0 hV
  obtain ⟨X, hX⟩ : ∃ X, a * d - b * c = X := ⟨_, rfl⟩
  rw [hX]
  by_cases hp : 0 < X
  · obtain rfl : D = true := H1 ⟨ha, hb, hc, hd, by rw [hX]; exact hp⟩
    clear H0 H1 hX
    go_wp2
    go_ret
    exact ⟨by simp, bW⟩
  · obtain rfl : D = false := H0 fun h => hp (by rw [← hX]; exact h.2.2.2.2)
    clear H0 H1 hX
    go_wp2
    go_ret
    exact ⟨by simp [hp], bW⟩
set_option maxHeartbeats 4000000 in
theorem areSpots_any {w : World} {g n c : Nat} {f : Nat → Int} (h : Trips w g n f) (hn : n ≤ 1048576) :
    Calls Try.prog 29 #[.slice (some ⟨g, 0, none⟩) n c] w fun e w' => e = .returned (.bool (pd (SpOk n f))) ∧ Below w.heap.size w w' := by
  obtain ⟨D, hD⟩ : ∃ D, pd (SpOk n f) = D := ⟨_, rfl⟩
  rw [hD]
  have H0 : ¬ SpOk n f → D = false := fun h => hD ▸ pd_no h
  have H1 : SpOk n f → D = true := fun h => hD ▸ pd_yes h
  clear hD
  have hn' : (n : Int) ≤ 1048576 := by omega
  by_cases h16 : (16 : Int) < (n : Int)
  · obtain rfl : D = false := H0 fun h => by have := h.1; omega
    go_enter Try.func29, Try.ntmps29
    go_wp2
    go_ret
    exact ⟨rfl, Below.refl _ _⟩
  go_enter Try.func29, Try.ntmps29
  go_wp2
  go_loopw [10] (fun s wr => ∃ k : Nat, k ≤ n ∧ s = .int .i64 k ∧ (∀ i, i < k → (0 ≤ f (i * 3) ∧ f (i * 3) ≤ 1000) ∧ (0 ≤ f (i * 3 + 1) ∧ f (i * 3 + 1) ≤ 1000)) ∧ Below w.heap.size w wr) (fun s _ => n - (intOf s).toNat)
  case atStart => exact ⟨0, Nat.zero_le _, rfl, fun i hi => absurd hi (Nat.not_lt_zero _), Below.refl _ _⟩
  case round =>
    obtain ⟨k, hk, rfl, hA, bW⟩ := hrel
    by_cases hlt : k < n
    · have hlt' : (k : Int) < (n : Int) := by omega
      obtain ⟨c0, c1, c2⟩ := (h.below bW).open k hlt
      obtain ⟨X, hX⟩ : ∃ X, f (k * 3) = X := ⟨_, rfl⟩
      obtain ⟨Y, hY⟩ : ∃ Y, f (k * 3 + 1) = Y := ⟨_, rfl⟩
      obtain ⟨Z, hZ⟩ : ∃ Z, f (k * 3 + 2) = Z := ⟨_, rfl⟩
      rw [hX] at c0
      rw [hY] at c1
      rw [hZ] at c2
      have hXY : ((0 ≤ X ∧ X ≤ 1000) ∧ (0 ≤ Y ∧ Y ≤ 1000)) → ∀ i, i < k + 1 → (0 ≤ f (i * 3) ∧ f (i * 3) ≤ 1000) ∧ (0 ≤ f (i * 3 + 1) ∧ f (i * 3 + 1) ≤ 1000) := fun hh i hi => by
        by_cases e : i = k
        · subst e; rw [hX, hY]; exact hh
        · exact hA i (by omega)
      have hNo : ¬ ((0 ≤ X ∧ X ≤ 1000) ∧ (0 ≤ Y ∧ Y ≤ 1000)) → D = false := fun hh => H0 fun h => hh (by have := h.2 k hlt; rw [hX, hY] at this; exact this)
      have HXY : Hid _ := hXY
      have HNo : Hid _ := hNo
      clear H0 H1 hXY hNo hA hX hY hZ
      have BB := bW.trans (((Below.refl wr.heap.size wr).alloc (Nat.le_refl _) (.cells #[.int .i64 X, .int .i64 Y, .int .i64 Z] 32)).mono bW.size)
      by_cases hh : (0 ≤ X ∧ X ≤ 1000) ∧ (0 ≤ Y ∧ Y ≤ 1000)
      · have HB := HXY.out hh
        obtain ⟨⟨x1, x2⟩, y1, y2⟩ := hh
        clear HNo HXY
        have HHB : Hid _ := HB
        clear HB
        go_wp2
        all_goals
          first
          | exact ⟨⟨k + 1, by omega, by go_num, HHB.out, BB⟩, by simp [intOf]; omega⟩
          | (exfalso; omega)
      · obtain rfl : D = false := HNo.out hh
        clear HNo HXY
        go_wp2
        all_goals
          first
          | (go_ret; exact ⟨rfl, BB⟩)
          | (exfalso; apply hh; omega)
    · have hlt' : ¬ (k : Int) < (n : Int) := by omega
      obtain rfl : k = n := by omega
      obtain rfl : D = true := H1 ⟨by omega, hA⟩
      clear H0 H1 hA
      go_wp2
      go_ret
      exact ⟨rfl, bW⟩
end Go.Proofs.Ytjlmiadmobbibaa
