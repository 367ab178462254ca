/-
  The law FnExactShows: walked.
-/
import Derived.Test.YtealbihplfpgeaaKr
namespace Go.Proofs.Ytealbihplfpgeaa
open Go.RowKit

/-- Room for n facets. -/
def F3 (w : World) (g n : Nat) : Prop := ∃ cur : Array Value, At 35 w g cur ∧ cur.size = n * 3
theorem F3.cell {w : World} {g n : Nat} (h : F3 w g n) {i : Nat} (hi : i < n * 3) : w.cell? ⟨g, i, none⟩ = some (cv w g i) ∧ w.frozen? ⟨g, i, none⟩ = false := by
  obtain ⟨cur, h1, h2⟩ := h
  have e := h1.cell i (v := cur[i]) (Array.getElem?_eq_getElem (by omega))
  exact ⟨by rw [cv, e]; rfl, h1.frozen i⟩
theorem F3.set {w : World} {g n : Nat} (h : F3 w g n) (i : Nat) (v : Value) : F3 (w.setCell ⟨g, i, none⟩ v) g n := by
  obtain ⟨cur, h1, h2⟩ := h
  exact ⟨_, h1.set i v, by simpa using h2⟩
set_option maxRecDepth 100000 in
set_option maxHeartbeats 1600000 in
theorem markF_any {w : World} {g n : Nat} (h : F3 w g n) (hn : n ≤ 1048576) :
    Calls Try.prog 25 #[.slice (some ⟨g, 0, none⟩) n n, .int .i64 1] w fun e w' => e = .returned (.int .i64 ((1 + 3 * n : Nat) : Int)) ∧ Kept g w w' := by
  have hn' : (n : Int) ≤ 1048576 := by omega
  go_enter Try.func25, Try.ntmps25
  go_wp2
  go_loopw [1, 5] (fun s t wr => ∃ k : Nat, k ≤ n ∧ s = .int .i64 ((1 + 3 * k : Nat) : Int) ∧ t = .int .i64 (k : Int) ∧ F3 wr g n ∧ Kept g w wr) (fun _ t _ => n - (intOf t).toNat)
  case atStart => exact ⟨0, Nat.zero_le _, rfl, rfl, h, Kept.refl _ _⟩
  case round =>
    clear h
    obtain ⟨k, hk', rfl, rfl, h, hK⟩ := hrel
    by_cases hk : k < n
    · have hklt : (k : Int) < (n : Int) := by omega
      obtain ⟨X, hX⟩ : ∃ X : Int, ((1 + 3 * k : Nat) : Int) = X := ⟨_, rfl⟩
      have hX1 : 0 ≤ X ∧ X ≤ 20000000 := by omega
      obtain ⟨c0, f0⟩ := h.cell (i := k * 3) (by omega)
      obtain ⟨V1, hV1⟩ : ∃ V, wr.setCell ⟨g, k * 3, none⟩ (.int .i64 X) = V := ⟨_, rfl⟩
      have h1 : F3 V1 g n := by rw [← hV1]; exact h.set _ _
      have K1 : Kept g w V1 := by rw [← hV1]; exact hK.set _
      obtain ⟨c1, f1⟩ := h1.cell (i := k * 3 + 1) (by omega)
      obtain ⟨V2, hV2⟩ : ∃ V, V1.setCell ⟨g, k * 3 + 1, none⟩ (.int .i64 (X + 1)) = V := ⟨_, rfl⟩
      have h2 : F3 V2 g n := by rw [← hV2]; exact h1.set _ _
      have K2 : Kept g w V2 := by rw [← hV2]; exact K1.set _
      obtain ⟨c2, f2⟩ := h2.cell (i := k * 3 + 2) (by omega)
      have w1 : IntKind.i64.wrap (X + 1) = X + 1 := by rw [IntKind.wrap_i64]; omega
      have w2 : IntKind.i64.wrap (X + 1 + 1) = X + 2 := by rw [IntKind.wrap_i64]; omega
      have w3 : IntKind.i64.wrap (X + 2 + 1) = X + 3 := by rw [IntKind.wrap_i64]; omega
      rw [hX]
      go_wp2
      refine ⟨⟨k + 1, by omega, ?_, by go_num, h2.set _ _, K2.set _⟩, by simp [intOf]; omega⟩
      rw [show ((1 + 3 * (k + 1) : Nat) : Int) = X + 3 by omega]
    · have hklt : ¬ (k : Int) < (n : Int) := by omega
      obtain rfl : k = n := by omega
      go_wp2
      go_ret
      exact ⟨rfl, hK⟩
theorem Gat.arr {w0 w : World} {B : Nat} {v : Value} {m : Nat} {l : List Int} (s : Gat w0 w B 2 1 v m l) : Arr w B w.heap.size v m (fun i => l.getD i 0) := by
  rcases s.own.2 with ⟨e, _⟩ | ⟨g, c, cur, e, hb, hh, hc1, hc2, hsz, ht⟩
  · exact absurd e s.nn
  · refine .inr ⟨g, c, e, hb, (Array.getElem?_eq_some_iff.1 hh).1, hc1, cur, hh, by omega, fun i hi => ?_⟩
    have hl := s.len
    have a1 : (lCells l)[i]? = some (.int .i64 (l.getD i 0)) := by
      have hi' : i < l.length := by omega
      simp [lCells, hi']
    rw [← ht, List.getElem?_take_of_lt (by omega)] at a1
    simpa using a1
/-- What Shows tells. -/
noncomputable def so (f : Nat → Int) (n : Nat) : List Int := @ite _ (SOk n f) (Classical.propDecidable _) (toI (shl f n)) []
theorem so_yes {f : Nat → Int} {n : Nat} (S : SOk n f) : so f n = toI (shl f n) := by unfold so; rw [if_pos S]
theorem so_no {f : Nat → Int} {n : Nat} (S : ¬ SOk n f) : so f n = [] := by unfold so; rw [if_neg S]
theorem so_le (f : Nat → Int) (n : Nat) : (so f n).length ≤ n := by
  by_cases S : SOk n f
  · rw [so_yes S]
    have := shTo_le f n n
    rw [show (toI (shl f n)).length = (shl f n).length by simp [toI]]
    exact this
  · rw [so_no S]; exact Nat.zero_le _
theorem specShows_any {w : World} {g n c : Nat} {f : Nat → Int} (h : Trips w g n f) (hn : n ≤ 1048576) :
    Calls Try.prog 20 #[.slice (some ⟨g, 0, none⟩) n c] w fun e w' => ∃ v, e = .returned v ∧ Gat w w' w.heap.size 2 1 v (so f n).length (so f n) := by
  by_cases S : SOk n f
  · rw [so_yes S, show (toI (shl f n)).length = (shl f n).length by simp [toI]]
    exact specShows_yes S h
  · rw [so_no S]
    exact specShows_no S h hn
theorem implShows_any {w : World} {g n c : Nat} {f : Nat → Int} (h : Trips w g n f) (hc : n ≤ c) (hn : n ≤ 1048576) :
    Calls Try.prog 11 #[.slice (some ⟨g, 0, none⟩) n c] w fun e w' => ∃ v, e = .returned v ∧ Gat w w' w.heap.size 2 1 v (so f n).length (so f n) := by
  by_cases S : SOk n f
  · rw [so_yes S, show (toI (shl f n)).length = (shl f n).length by simp [toI]]
    exact implShows_yes S S.counts h hc
  · rw [so_no S]
    exact implShows_no S h hc hn
end Go.Proofs.Ytealbihplfpgeaa
