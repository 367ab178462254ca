/-
  Lists of atoms held against each other; which atoms are right, by the program and by the specification. Walked.
-/
import Derived.Test.YtohboecnhneolaaEa
namespace Go.Proofs.Ytohboecnhneolaa
open Go.RowKit

theorem eqAtom_any (a b c d : Int) (w : World) : Calls Try.prog 14 #[cV a b c d, cV a b c d] w fun e w' => e = .returned (.bool true) ∧ Below w.heap.size w w' := by
  obtain ⟨W, hW, b0, b1, bW, -⟩ := boxed2 w 30 30 #[.int .i64 a, .int .i64 b, .int .i64 c, .int .i64 d] #[.int .i64 a, .int .i64 b, .int .i64 c, .int .i64 d]
  obtain ⟨c0, c1, c2, c3, -⟩ := b0.open4
  obtain ⟨d0, d1, d2, d3, -⟩ := b1.open4
  go_enter Try.func14, Try.ntmps14
  go_wp2
  go_ret
  exact ⟨rfl, bW⟩
/-- Which atoms are right. -/
def aOk (x y z f : Int) : Bool := decide (0 ≤ x ∧ x ≤ 11) && (decide (0 ≤ y ∧ y ≤ 11) && (decide (0 ≤ z ∧ z ≤ 11) && decide (-1000 ≤ f ∧ f ≤ 1000)))
theorem right_any (x y z f : Int) (w : World) : Calls Try.prog 16 #[cV x y z f] w fun e w' => e = .returned (.bool (aOk x y z f)) ∧ Below w.heap.size w w' := by
  obtain ⟨W, hW, b0, bW, -⟩ := boxed w 30 #[.int .i64 x, .int .i64 y, .int .i64 z, .int .i64 f]
  obtain ⟨c0, c1, c2, c3, -⟩ := b0.open4
  go_enter Try.func16, Try.ntmps16
  go_wp2_with (go_at_call 18; refine (within_any _ _ _ (by decide) (by decide)).mono ?_; rintro e w3 ⟨rfl, rfl⟩)
  all_goals
    go_ret
    first
      | exact ⟨congrArg (fun b => Ending.returned (Value.bool b)) (show (decide (-1000 ≤ f) && decide (f ≤ 1000)) = aOk x y z f from by rw [Bool.eq_iff_iff]; simp [aOk]; omega), bW⟩
      | exact ⟨congrArg (fun b => Ending.returned (Value.bool b)) (show false = aOk x y z f from by rw [Bool.eq_iff_iff]; simp [aOk]; omega), bW⟩
/-- What a structure is: few atoms, all right. -/
def AOk (n : Nat) (f : Nat → Int) : Prop := n ≤ 200 ∧ ∀ i, i < n → aOk (f (i * 4)) (f (i * 4 + 1)) (f (i * 4 + 2)) (f (i * 4 + 3)) = true
theorem aOk_in {x y z f : Int} (h : aOk x y z f = true) : (0 ≤ x ∧ x ≤ 11) ∧ (0 ≤ y ∧ y ≤ 11) ∧ (0 ≤ z ∧ z ≤ 11) ∧ (-1000 ≤ f ∧ f ≤ 1000) := by
  simpa [aOk] using h
theorem not_all {n k : Nat} {f : Nat → Int} (hk : k < n) (h : aOk (f (k * 4)) (f (k * 4 + 1)) (f (k * 4 + 2)) (f (k * 4 + 3)) = false) {b : Bool} (hb : b = true ↔ AOk n f) : b = false := by
  rw [Bool.eq_false_iff]
  intro e
  have := (hb.1 e).2 k hk
  rw [h] at this
  cases this
theorem too_many {n : Nat} {f : Nat → Int} (hm : 200 < n) {b : Bool} (hb : b = true ↔ AOk n f) : b = false := by
  rw [Bool.eq_false_iff]
  intro e
  have := (hb.1 e).1
  omega
theorem implAtoms_any {w : World} {g n c : Nat} {f : Nat → Int} (h : Quads w g n f) (hn : n ≤ 1048576) (b : Bool) (hb : b = true ↔ AOk n f) :
    Calls Try.prog 12 #[.slice (some ⟨g, 0, none⟩) n c] w fun e w' => e = .returned (.bool b) ∧ Below w.heap.size w w' := by
  by_cases hm : 200 < n
  · have hm' : (200 : Int) < (n : Int) := by omega
    obtain rfl := too_many hm hb
    go_enter Try.func12, Try.ntmps12
    go_wp2
    go_ret
    exact ⟨rfl, Below.refl _ _⟩
  · have hm' : ¬ (200 : Int) < (n : Int) := by omega
    go_enter Try.func12, Try.ntmps12
    go_wp2
    go_loopw [10] (fun s wr => ∃ k : Nat, k ≤ n ∧ s = .int .i64 k ∧ Hid (∀ i, i < k → aOk (f (i * 4)) (f (i * 4 + 1)) (f (i * 4 + 2)) (f (i * 4 + 3)) = true) ∧ Below w.heap.size w wr) (fun s _ => n - (intOf s).toNat)
    case atStart => exact ⟨0, Nat.zero_le _, rfl, fun i hi => by omega, Below.refl _ _⟩
    case round =>
      obtain ⟨k, hk, rfl, hok, B⟩ := hrel
      by_cases hlt : k < n
      · have hlt' : (k : Int) < (n : Int) := by omega
        have hq := (h.below B).1
        obtain ⟨c0, c1, c2, c3⟩ := (h.below B).open k hlt
        cases ho : aOk (f (k * 4)) (f (k * 4 + 1)) (f (k * 4 + 2)) (f (k * 4 + 3))
        · obtain rfl := not_all hlt ho hb
          clear hok hb
          go_wp2_with (go_at_call 16; refine (right_any _ _ _ _ _).mono ?_; rintro e w3 ⟨rfl, b3⟩; rw [ho])
          go_ret
          exact ⟨rfl, B.trans (((below_alloc _ _).trans (b3.mono (by simp))).mono B.size)⟩
        · have HO : Hid (∀ i, i < k + 1 → aOk (f (i * 4)) (f (i * 4 + 1)) (f (i * 4 + 2)) (f (i * 4 + 3)) = true) := fun i hi => by
            by_cases e : i = k
            · rw [e]; exact ho
            · exact hok.out i (by omega)
          clear hok hb
          go_wp2_with (go_at_call 16; refine (right_any _ _ _ _ _).mono ?_; rintro e w3 ⟨rfl, b3⟩; rw [ho])
          exact ⟨⟨k + 1, by omega, by go_num, HO, B.trans (((below_alloc _ _).trans (b3.mono (by simp))).mono B.size)⟩, by simp [intOf]; omega⟩
      · have hlt' : ¬ (k : Int) < (n : Int) := by omega
        obtain rfl : k = n := by omega
        obtain rfl : b = true := hb.2 ⟨by omega, hok.out⟩
        go_wp2
        go_ret
        exact ⟨rfl, B⟩
theorem specAtoms_any {w : World} {g n c : Nat} {f : Nat → Int} (h : Quads w g n f) (hn : n ≤ 1048576) (b : Bool) (hb : b = true ↔ AOk n f) :
    Calls Try.prog 9 #[.slice (some ⟨g, 0, none⟩) n c] w fun e w' => e = .returned (.bool b) ∧ Below w.heap.size w w' := by
  by_cases hm : 200 < n
  · have hm' : (200 : Int) < (n : Int) := by omega
    obtain rfl := too_many hm hb
    go_enter Try.func9, Try.ntmps9
    go_wp2
    go_ret
    exact ⟨rfl, Below.refl _ _⟩
  · have hm' : ¬ (200 : Int) < (n : Int) := by omega
    go_enter Try.func9, Try.ntmps9
    go_wp2
    go_loopw [3] (fun s wr => ∃ k : Nat, k ≤ n ∧ s = .int .i64 k ∧ Hid (∀ i, i < k → aOk (f (i * 4)) (f (i * 4 + 1)) (f (i * 4 + 2)) (f (i * 4 + 3)) = true) ∧ Below w.heap.size w wr) (fun s _ => n - (intOf s).toNat)
    case atStart => exact ⟨0, Nat.zero_le _, rfl, fun i hi => by omega, Below.refl _ _⟩
    case round =>
      obtain ⟨k, hk, rfl, hok, B⟩ := hrel
      by_cases hlt : k < n
      · have hlt' : (k : Int) < (n : Int) := by omega
        have hq := (h.below B).1
        obtain ⟨c0, c1, c2, c3⟩ := (h.below B).open k hlt
        by_cases i0 : 0 ≤ f (k * 4) ∧ f (k * 4) ≤ 11
        · by_cases i1 : 0 ≤ f (k * 4 + 1) ∧ f (k * 4 + 1) ≤ 11
          · by_cases i2 : 0 ≤ f (k * 4 + 2) ∧ f (k * 4 + 2) ≤ 11
            · by_cases i3 : -1000 ≤ f (k * 4 + 3) ∧ f (k * 4 + 3) ≤ 1000
              · have ho : aOk (f (k * 4)) (f (k * 4 + 1)) (f (k * 4 + 2)) (f (k * 4 + 3)) = true := by simp [aOk, i0, i1, i2, i3]
                have HO : Hid (∀ i, i < k + 1 → aOk (f (i * 4)) (f (i * 4 + 1)) (f (i * 4 + 2)) (f (i * 4 + 3)) = true) := fun i hi => by
                  by_cases e : i = k
                  · rw [e]; exact ho
                  · exact hok.out i (by omega)
                clear hok hb ho
                go_wp2_with (go_at_call 15; refine (in_any _ _ _ _).mono ?_; rintro e w3 ⟨rfl, rfl⟩)
                exact ⟨⟨k + 1, by omega, by go_num, HO, B.trans ((below_alloc _ _).mono B.size)⟩, by simp [intOf]; omega⟩
              · obtain rfl := not_all hlt (show aOk (f (k * 4)) (f (k * 4 + 1)) (f (k * 4 + 2)) (f (k * 4 + 3)) = false by simp [aOk, i3]) hb
                clear hok hb
                go_wp2_with (go_at_call 15; refine (in_any _ _ _ _).mono ?_; rintro e w3 ⟨rfl, rfl⟩)
                go_ret
                exact ⟨rfl, B.trans ((below_alloc _ _).mono B.size)⟩
            · obtain rfl := not_all hlt (show aOk (f (k * 4)) (f (k * 4 + 1)) (f (k * 4 + 2)) (f (k * 4 + 3)) = false by simp [aOk, i2]) hb
              clear hok hb
              go_wp2_with (go_at_call 15; refine (in_any _ _ _ _).mono ?_; rintro e w3 ⟨rfl, rfl⟩)
              go_ret
              exact ⟨rfl, B.trans ((below_alloc _ _).mono B.size)⟩
          · obtain rfl := not_all hlt (show aOk (f (k * 4)) (f (k * 4 + 1)) (f (k * 4 + 2)) (f (k * 4 + 3)) = false by simp [aOk, i1]) hb
            clear hok hb
            go_wp2_with (go_at_call 15; refine (in_any _ _ _ _).mono ?_; rintro e w3 ⟨rfl, rfl⟩)
            go_ret
            exact ⟨rfl, B.trans ((below_alloc _ _).mono B.size)⟩
        · obtain rfl := not_all hlt (show aOk (f (k * 4)) (f (k * 4 + 1)) (f (k * 4 + 2)) (f (k * 4 + 3)) = false by simp [aOk, i0]) hb
          clear hok hb
          go_wp2_with (go_at_call 15; refine (in_any _ _ _ _).mono ?_; rintro e w3 ⟨rfl, rfl⟩)
          go_ret
          exact ⟨rfl, B.trans ((below_alloc _ _).mono B.size)⟩
      · have hlt' : ¬ (k : Int) < (n : Int) := by omega
        obtain rfl : k = n := by omega
        obtain rfl : b = true := hb.2 ⟨by omega, hok.out⟩
        go_wp2
        go_ret
        exact ⟨rfl, B⟩
end Go.Proofs.Ytohboecnhneolaa
