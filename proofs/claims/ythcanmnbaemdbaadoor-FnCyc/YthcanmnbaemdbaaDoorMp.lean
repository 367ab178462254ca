/-
  Products of cyclotomic numbers by the specification: numbers of three limbs. Walked.
-/
import Derived.Test.YthcanmnbaemdbaaDoorCh
import Derived.Test.YthcanmnbaemdbaaDoorMm
namespace Go.Proofs.YthcanmnbaemdbaaDoor
open Go.RowKit

/-- Is a number of three limbs small enough? -/
def isSm (v : Int) : Bool := decide (-1152921504606846976 ≤ v ∧ v < 1152921504606846976)
theorem even_sm (h m l : Int) : isSm (wide h m l) = (decide (-4096 ≤ h + (m + l / 16777216) / 16777216) && decide (h + (m + l / 16777216) / 16777216 < 4096)) := by
  rw [← wide_even h m l]
  have m0 : 0 ≤ (m + l / 16777216) % 16777216 ∧ (m + l / 16777216) % 16777216 < 16777216 := by omega
  have l0 : 0 ≤ l % 16777216 ∧ l % 16777216 < 16777216 := by omega
  generalize h + (m + l / 16777216) / 16777216 = H at *
  generalize (m + l / 16777216) % 16777216 = M at *
  generalize l % 16777216 = R at *
  unfold isSm wide
  by_cases h1 : -4096 ≤ H
  · by_cases h2 : H < 4096
    · rw [decide_eq_true h1, decide_eq_true h2, Bool.true_and]
      exact decide_eq_true (by omega)
    · rw [decide_eq_true h1, decide_eq_false h2, Bool.true_and]
      exact decide_eq_false (by omega)
  · rw [decide_eq_false h1, Bool.false_and]
    exact decide_eq_false (by omega)
set_option maxRecDepth 100000 in
set_option maxHeartbeats 1600000 in
theorem small_any (h m l : Int) (w : World) (hh : fits h) (hm : fits m) (hl : fits l) :
    Calls Tryd.prog 36 #[wV h m l] w fun e w' => e = .returned (.tuple #[.int .i64 (if isSm (wide h m l) then wide h m l else 0), .bool (isSm (wide h m l))]) ∧ Below w.heap.size w w' := by
  have E := fun w => even_any h m l w hh hm hl
  have hev := wide_even h m l
  have hsm := even_sm h m l
  have m0 : 0 ≤ (m + l / 16777216) % 16777216 ∧ (m + l / 16777216) % 16777216 < 16777216 := by omega
  have l0 : 0 ≤ l % 16777216 ∧ l % 16777216 < 16777216 := by omega
  rw [hsm]
  rw [← hev]
  generalize h + (m + l / 16777216) / 16777216 = H at *
  generalize (m + l / 16777216) % 16777216 = M at *
  generalize l % 16777216 = R at *
  clear hsm hev
  obtain ⟨W, hW, b0, bW, -⟩ := boxed w 57 #[.int .i64 h, .int .i64 m, .int .i64 l]
  obtain ⟨c0, c1, c2, -⟩ := b0.open3
  by_cases h1 : H < -4096
  · have h1' : ¬ -4096 ≤ H := by omega
    rw [decide_eq_false h1', Bool.false_and]
    go_enter Tryd.func36, Tryd.ntmps36
    go_wp2_with fail
    refine (E _).mono ?_
    rintro e w2 ⟨rfl, hb2⟩
    replace b0 := b0.below hb2
    replace bW := bW.trans (hb2.mono bW.size)
    clear hb2 c0 c1 c2 hW E
    obtain ⟨c0, c1, c2, g0, g1, g2⟩ := b0.open3
    go_wp2
    all_goals first
      | contradiction
      | exact bodyPost_ret (v := .tuple #[.int .i64 0, .bool false]) (by simp [results, Tryd.results36, go_sem]) rfl ⟨rfl, ((bW.setCell (by show _ ≤ w.heap.size; omega) _).setCell (by show _ ≤ w.heap.size; omega) _).setCell (by show _ ≤ w.heap.size; omega) _⟩
  · have h1' : -4096 ≤ H := by omega
    rw [decide_eq_true h1', Bool.true_and]
    by_cases h2 : H < 4096
    · have h2' : ¬ 4096 ≤ H := by omega
      rw [decide_eq_true h2, if_pos rfl, show wide H M R = H * 281474976710656 + M * 16777216 + R from rfl]
      go_enter Tryd.func36, Tryd.ntmps36
      go_wp2_with fail
      refine (E _).mono ?_
      rintro e w2 ⟨rfl, hb2⟩
      replace b0 := b0.below hb2
      replace bW := bW.trans (hb2.mono bW.size)
      clear hb2 c0 c1 c2 hW E
      obtain ⟨c0, c1, c2, g0, g1, g2⟩ := b0.open3
      go_wp2
      all_goals first
        | contradiction
        | exact bodyPost_ret (v := .tuple #[.int .i64 (H * 281474976710656 + M * 16777216 + R), .bool true]) (by simp [results, Tryd.results36, go_sem]) rfl ⟨rfl, ((bW.setCell (by show _ ≤ w.heap.size; omega) _).setCell (by show _ ≤ w.heap.size; omega) _).setCell (by show _ ≤ w.heap.size; omega) _⟩
    · have h2' : 4096 ≤ H := by omega
      rw [decide_eq_false h2]
      go_enter Tryd.func36, Tryd.ntmps36
      go_wp2_with fail
      refine (E _).mono ?_
      rintro e w2 ⟨rfl, hb2⟩
      replace b0 := b0.below hb2
      replace bW := bW.trans (hb2.mono bW.size)
      clear hb2 c0 c1 c2 hW E
      obtain ⟨c0, c1, c2, g0, g1, g2⟩ := b0.open3
      go_wp2
      all_goals first
        | contradiction
        | exact bodyPost_ret (v := .tuple #[.int .i64 0, .bool false]) (by simp [results, Tryd.results36, go_sem]) rfl ⟨rfl, ((bW.setCell (by show _ ≤ w.heap.size; omega) _).setCell (by show _ ≤ w.heap.size; omega) _).setCell (by show _ ≤ w.heap.size; omega) _⟩
end Go.Proofs.YthcanmnbaemdbaaDoor
