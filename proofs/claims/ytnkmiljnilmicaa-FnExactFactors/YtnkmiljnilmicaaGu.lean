/-
  An own list of texts, sorted; the distinct stretches in order. No function of the program.
-/
import Derived.Test.YtnkmiljnilmicaaGt
import Derived.Test.YtnkmiljnilmicaaLss
import Derived.Sort.OwnSorted
namespace Go.Proofs.Ytnkmiljnilmicaa
open Go.RowKit Go.Shelf Go.Sort

/-- A text's letters. -/
def bl (x : ByteArray) : List UInt8 := x.data.toList
/-- The text of some letters. -/
def lb (x : List UInt8) : ByteArray := ⟨x.toArray⟩
theorem bl_lb (x : List UInt8) : bl (lb x) = x := by simp [bl, lb]
theorem lb_bl (x : ByteArray) : lb (bl x) = x := by simp [bl, lb]
theorem enc_bl (x : ByteArray) : encStr (bl x) = .string x := by simp [encStr, bl]
theorem enc_lb (x : List UInt8) : encStr x = .string (lb x) := by simp [encStr, lb]
theorem map_enc (l : List ByteArray) : (l.map bl).map encStr = l.map Value.string := by
  rw [List.map_map]
  exact List.map_congr_left fun x _ => enc_bl x
theorem TxL.parts {w : World} {B g c : Nat} {l : List ByteArray} (h : TxL w B (.slice (some ⟨g, 0, none⟩) l.length c) l) : ∃ cur : Array Value, B ≤ g ∧ w.heap[g]? = some (.cells cur 9 (0, 0)) ∧ l.length ≤ c ∧ c ≤ maxLen ∧ cur.size = c * 1 ∧ cur.toList.take l.length = l.map Value.string := by
  rcases h.1.2 with ⟨e1, -⟩ | ⟨g', c', cur, e, hb, hh, hc1, hc2, hsz, ht⟩
  · exact absurd e1 h.2
  · cases e
    exact ⟨cur, hb, hh, hc1, hc2, hsz, by simpa using ht⟩
theorem TxL.holds {w : World} {B g c : Nat} {l : List ByteArray} (h : TxL w B (.slice (some ⟨g, 0, none⟩) l.length c) l) : Holds encStr w g 0 (l.map bl).toArray := by
  obtain ⟨cur, -, hh, -, -, -, ht⟩ := h.parts
  exact holds_of_block hh (by rw [List.length_map, map_enc]; exact ht)
theorem TxL.sorted {w : World} {B g c n : Nat} {l : List ByteArray} {ts : List (List UInt8)} {os : Array Obj} (h : TxL w B (.slice (some ⟨g, 0, none⟩) l.length c) l) (hl : ts.length = l.length) : TxL (grow (putRow encStr (Sort.ahead w n) g 0 ts.toArray) os) B (.slice (some ⟨g, 0, none⟩) l.length c) (ts.map lb) := by
  obtain ⟨cur, h1, hh, h2, h3, h4, -⟩ := h.parts
  have := ownsRow_sorted (n := n) (os := os) (base := B) (cap := c) (ss := l.map bl) (ts := ts) (by simpa using hl) h1 hh (by simpa using h2) h3 h4
  rw [List.length_map] at this
  refine ⟨?_, fun e => by cases e⟩
  rw [List.length_map, hl, List.map_map]
  rw [show ts.map (Value.string ∘ lb) = ts.map encStr from List.map_congr_left fun x _ => (enc_lb x).symm]
  exact this
theorem sort_facD {s : ByteArray} {n m : Nat} (hm : s.size + 1 - n = m) {L : List ByteArray} (hL : L = (List.range m).map (sx s n)) : FacD s n (((dd L).map bl).mergeSort (fun x y => decide (x ≤ y)) |>.map lb) := by
  constructor
  · intro x
    have hp := List.mergeSort_perm ((dd L).map bl) (fun x y => decide (x ≤ y))
    rw [List.mem_map]
    constructor
    · rintro ⟨y, hy, rfl⟩
      obtain ⟨z, hz, rfl⟩ := List.mem_map.1 (hp.mem_iff.1 hy)
      rw [lb_bl]
      rw [dd_mem, hL] at hz
      obtain ⟨i, hi, rfl⟩ := List.mem_map.1 hz
      exact ⟨i, by have := List.mem_range.1 hi; omega, rfl⟩
    · rintro ⟨i, hi, rfl⟩
      refine ⟨bl (sx s n i), hp.mem_iff.2 (List.mem_map_of_mem ?_), lb_bl _⟩
      rw [dd_mem, hL]
      exact List.mem_map_of_mem (List.mem_range.2 (by omega))
  · rw [List.map_map]
    have e : ((fun x : ByteArray => x.data.toList) ∘ lb) = id := by
      funext x
      exact bl_lb x
    rw [e, List.map_id]
    have tr : ∀ a b c : List UInt8, decide (a ≤ b) = true → decide (b ≤ c) = true → decide (a ≤ c) = true := fun a b c h1 h2 => by simp only [decide_eq_true_eq] at *; exact List.le_trans h1 h2
    have to : ∀ a b : List UInt8, (decide (a ≤ b) || decide (b ≤ a)) = true := fun a b => by simp only [Bool.or_eq_true, decide_eq_true_eq]; exact List.le_total a b
    have h1 := List.pairwise_mergeSort tr to ((dd L).map bl)
    have h2 : (((dd L).map bl).mergeSort (fun x y => decide (x ≤ y))).Nodup := (List.mergeSort_perm _ _).nodup_iff.2 (List.Pairwise.map bl (fun a b hne e => hne (by rw [← lb_bl a, e, lb_bl])) (dd_nodup L))
    refine (h1.and h2).imp ?_
    rintro a b ⟨h3, h4⟩
    simp only [decide_eq_true_eq] at h3
    exact Classical.byContradiction fun h5 => h4 (List.le_antisymm h3 (List.not_lt.1 h5))
end Go.Proofs.Ytnkmiljnilmicaa
