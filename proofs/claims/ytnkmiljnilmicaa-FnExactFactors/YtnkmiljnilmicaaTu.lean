/-
  Inflate, by the specification: walked.
-/
import Derived.Test.YtnkmiljnilmicaaTh
import Derived.Test.YtnkmiljnilmicaaTa
namespace Go.Proofs.Ytnkmiljnilmicaa
open Go.RowKit

/-- A row inflated n times, as long as all are rows. -/
def gr : Nat → List UInt8 → Option (List UInt8)
  | 0, L => some L
  | n + 1, L => if (infl L).length ≤ 20000 then gr n (infl L) else none
/-- A list of letters that is read. -/
def BySrc (w : World) (v : Value) (L : List UInt8) : Prop := ∃ g c, v = .slice (some ⟨g, 0, none⟩) L.length c ∧ L.length ≤ c ∧ g < w.heap.size ∧ ∀ i (h : i < L.length), w.cell? ⟨g, i, none⟩ = some (.int .u8 (L[i].toNat : Int))
theorem BySrc.below {w w' : World} {v : Value} {L : List UInt8} (h : BySrc w v L) (hb : Below w.heap.size w w') : BySrc w' v L := by
  obtain ⟨g, c, h1, h2, h3, h4⟩ := h
  exact ⟨g, c, h1, h2, Nat.lt_of_lt_of_le h3 hb.size, fun i hi => (hb.cell (p := ⟨g, i, none⟩) h3).trans (h4 i hi)⟩
theorem BySrc.text {w : World} {v : Value} {L : List UInt8} (h : BySrc w v L) : (convert 22 9 v).run Try.prog w = .ok (.string ⟨L.toArray⟩) w := by
  obtain ⟨g, c, rfl, h2, h3, h4⟩ := h
  exact run_convert_bytes_back w 22 9 5 ⟨g, 0, none⟩ c L Try.underlying22 Try.underlying5 Try.underlying9 fun j hj => by rw [Addr.add_lit, Nat.zero_add]; exact h4 j hj
theorem ByR.src {w : World} {base : Nat} {v : Value} {L : List UInt8} (h : ByR w base v L) : BySrc w v L := by
  obtain ⟨h0, hl, h1⟩ := h
  rcases h1 with ⟨h1, -⟩ | ⟨g, c, cur, rfl, hb, hh, hc1, hc2, hsz, ht⟩
  · exact absurd h1 h0
  · refine ⟨g, c, rfl, hc1, (Array.getElem?_eq_some_iff.1 hh).1, fun j hj => ?_⟩
    have a1 : (bCells L)[j]? = some (.int .u8 (L[j].toNat : Int)) := by simp [bCells, hj]
    rw [← ht] at a1
    rw [List.getElem?_take_of_lt (by omega)] at a1
    simp only [World.cell?, hh]
    simpa using a1
theorem bytes_src (w : World) (L : List UInt8) (c : Nat) (hc : L.length ≤ c) (fr : Nat × Nat) : BySrc (w.drew.alloc (.cells (bytesRow (tx L) c) 5 fr)) (.slice (some ⟨w.heap.size, 0, none⟩) (tx L).size c) L := by
  refine ⟨w.heap.size, c, by rw [tx_size], hc, by rw [World.size_alloc]; exact Nat.lt_succ_self _, fun i hi => ?_⟩
  have h := World.cell?_alloc_mark w.drew (bytesRow (tx L) c) 5 fr i
  have h2 := bytesRow_at (tx L) c i (by simpa using hi)
  rw [h2] at h
  simpa using h
end Go.Proofs.Ytnkmiljnilmicaa
