/-
  Two numbers drawn for a sign: walked.
-/
import Derived.Test.YtgoegaiglfifdaaDr
import Derived.Test.YtgoegaiglfifdaaCg
import Derived.Test.YtgoegaiglfifdaaCd
namespace Go.Proofs.Ytgoegaiglfifdaa
open Go.RowKit

/-- A number picked out of a table that was just laid. -/
theorem pick_dr {w0 w : World} {p : Nat} {a : Option Addr} {len cap : Nat} (hc : Dr w0 p a len cap w) (T : Array Value) (n : Nat) (hn : 0 < n ∧ n ≤ 256) (hT : ∀ i, i < n → ∃ v : Int, T[i]? = some (.int .i64 v) ∧ is64 v) :
    Calls Try.prog 18 #[.pointer (some ⟨p, 0, none⟩), .int .i64 (n : Int)] (w.alloc (.cells T 2)) fun e w' => ∃ (i : Nat) (v : Int), e = .returned (.int .i64 (i : Int)) ∧ (i : Int) < (n : Int) ∧ w'.cell? ⟨w.heap.size, i, none⟩ = some (.int .i64 v) ∧ is64 v ∧ Dr w0 p a len cap w' := by
  have hlt := hc.2.lt
  have h1 : Dr w0 p a len cap (w.alloc (.cells T 2)) := hc.alloc _
  refine (below_dr (Dr.start h1.2) (n : Int) (by omega) (by omega)).mono ?_
  rintro e w' ⟨x, rfl, x0, x1, h2⟩
  obtain ⟨v, hv, hv64⟩ := hT x.toNat (by omega)
  refine ⟨x.toNat, v, by rw [Int.toNat_of_nonneg x0], by omega, ?_, hv64, h2.from h1.1⟩
  rw [h2.1.cell (by omega) (by simp)]
  exact (at_new 2 w T).cell x.toNat hv
instance (x : Int) : Decidable (is64 x) := by unfold is64; infer_instance
theorem tab11 (a0 a1 a2 a3 a4 a5 a6 a7 a8 a9 b0 : Int) (h : (is64 a0 ∧ is64 a1 ∧ is64 a2 ∧ is64 a3 ∧ is64 a4 ∧ is64 a5 ∧ is64 a6 ∧ is64 a7 ∧ is64 a8 ∧ is64 a9 ∧ is64 b0)) : ∀ i, i < 11 → ∃ v : Int, (#[.int .i64 a0, .int .i64 a1, .int .i64 a2, .int .i64 a3, .int .i64 a4, .int .i64 a5, .int .i64 a6, .int .i64 a7, .int .i64 a8, .int .i64 a9, .int .i64 b0] : Array Value)[i]? = some (.int .i64 v) ∧ is64 v := by
  intro i hi
  obtain ⟨h0, h1, h2, h3, h4, h5, h6, h7, h8, h9, h10⟩ := h
  rcases (by omega : i = 0 ∨ i = 1 ∨ i = 2 ∨ i = 3 ∨ i = 4 ∨ i = 5 ∨ i = 6 ∨ i = 7 ∨ i = 8 ∨ i = 9 ∨ i = 10) with rfl | rfl | rfl | rfl | rfl | rfl | rfl | rfl | rfl | rfl | rfl
  · exact ⟨_, rfl, h0⟩
  · exact ⟨_, rfl, h1⟩
  · exact ⟨_, rfl, h2⟩
  · exact ⟨_, rfl, h3⟩
  · exact ⟨_, rfl, h4⟩
  · exact ⟨_, rfl, h5⟩
  · exact ⟨_, rfl, h6⟩
  · exact ⟨_, rfl, h7⟩
  · exact ⟨_, rfl, h8⟩
  · exact ⟨_, rfl, h9⟩
  · exact ⟨_, rfl, h10⟩
theorem tab4 (a0 a1 a2 a3 : Int) (h : (is64 a0 ∧ is64 a1 ∧ is64 a2 ∧ is64 a3)) : ∀ i, i < 4 → ∃ v : Int, (#[.int .i64 a0, .int .i64 a1, .int .i64 a2, .int .i64 a3] : Array Value)[i]? = some (.int .i64 v) ∧ is64 v := by
  intro i hi
  obtain ⟨h0, h1, h2, h3⟩ := h
  rcases (by omega : i = 0 ∨ i = 1 ∨ i = 2 ∨ i = 3) with rfl | rfl | rfl | rfl
  · exact ⟨_, rfl, h0⟩
  · exact ⟨_, rfl, h1⟩
  · exact ⟨_, rfl, h2⟩
  · exact ⟨_, rfl, h3⟩
theorem drawSign_any {w : World} {a : Option Addr} {len cap : Nat} (hr : Row w w.heap.size a len) :
    Calls Try.prog 7 #[.slice a len cap] w fun e w' => ∃ p q : Int, e = .returned (.tuple #[.int .i64 p, .int .i64 q]) ∧ is64 p ∧ is64 q ∧ Below w.heap.size w w' := by
  go_enter Try.func7, Try.ntmps7
  go_wp2_with (go_at_call 16; refine (new_any hr).mono ?_; rintro e w1 ⟨rfl, hb1, hc⟩; replace hc := Dr.start hc)
  refine (from_dr hc (-40) 40 (by decide) (by decide) (by decide) (by decide)).mono ?_
  clear hc
  rintro e w2 ⟨p, rfl, p0, p1, hc⟩
  go_wp2_with (fail)
  refine (from_dr hc (-25) 25 (by decide) (by decide) (by decide) (by decide)).mono ?_
  clear hc
  rintro e w3 ⟨q, rfl, q0, q1, hc⟩
  go_wp2_with (fail)
  refine (below_dr hc 4 (by decide) (by decide)).mono ?_
  clear hc
  rintro e w4 ⟨x, rfl, x0, x1, hc⟩
  rcases (by omega : x = 0 ∨ x = 1 ∨ x = 2 ∨ x = 3) with rfl | rfl | rfl | rfl
  · go_wp2_with (fail)
    refine (pick_dr hc _ 11 (by decide) (tab11 _ _ _ _ _ _ _ _ _ _ _ (by decide))).mono ?_
    clear hc
    rintro e w5 ⟨i, v, rfl, i1, hv, v6, hc⟩
    go_wp2_with (fail)
    refine (pick_dr hc _ 11 (by decide) (tab11 _ _ _ _ _ _ _ _ _ _ _ (by decide))).mono ?_
    clear hc hv
    rintro e w6 ⟨k, u, rfl, k1, hu, u6, hc⟩
    go_wp2
    go_ret2
    exact ⟨_, _, rfl, v6, u6, hb1.trans (hc.1.below (Nat.le_refl _) hb1.size)⟩
  · go_wp2_with (fail)
    refine (from_dr hc (-500000000) 500000000 (by decide) (by decide) (by decide) (by decide)).mono ?_
    clear hc
    rintro e w5 ⟨y, rfl, y0, y1, hc⟩
    have d1 := tdiv_abs y 4
    have d2 := tdiv_abs y 56
    go_wp2
    all_goals
      go_ret2
      exact ⟨_, _, rfl, ⟨by omega, by omega⟩, ⟨by omega, by omega⟩, hb1.trans (hc.1.below (Nat.le_refl _) hb1.size)⟩
  · go_wp2_with (fail)
    refine (pick_dr hc _ 4 (by decide) (tab4 _ _ _ _ (by decide))).mono ?_
    clear hc
    rintro e w5 ⟨i, v, rfl, i1, hv, v6, hc⟩
    go_wp2_with (fail)
    refine (pick_dr hc _ 4 (by decide) (tab4 _ _ _ _ (by decide))).mono ?_
    clear hc hv
    rintro e w6 ⟨k, u, rfl, k1, hu, u6, hc⟩
    go_wp2
    go_ret2
    exact ⟨_, _, rfl, v6, u6, hb1.trans (hc.1.below (Nat.le_refl _) hb1.size)⟩
  · go_wp2
    go_ret2
    exact ⟨_, _, rfl, ⟨by omega, by omega⟩, ⟨by omega, by omega⟩, hb1.trans (hc.1.below (Nat.le_refl _) hb1.size)⟩
end Go.Proofs.Ytgoegaiglfifdaa
