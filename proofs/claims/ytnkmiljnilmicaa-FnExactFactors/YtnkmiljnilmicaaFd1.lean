/-
  A text put into a list in order: lists, and the memory of one. No function of the program.
-/
import Derived.Test.YtnkmiljnilmicaaGu
namespace Go.Proofs.Ytnkmiljnilmicaa
open Go.RowKit Go.Shelf Go.Sort

theorem toL_bl (x : ByteArray) : x.toList = bl x := ByteArray.toList_eq x
theorem lss_is (y x : ByteArray) : Op.bytesLess y.toList x.toList = decide (bl y < bl x) := by rw [toL_bl, toL_bl, bytesLess_eq]
theorem eql_is (y x : ByteArray) : (y.toList == x.toList) = decide (y = x) := by
  rw [toL_bl, toL_bl]
  by_cases h : y = x
  · subst h; simp
  · have : ¬ bl y = bl x := fun e => h (by rw [← lb_bl y, e, lb_bl])
    simp [h, this]
/-- Behind a put's move of the last k. -/
def shL (D : List ByteArray) (x : ByteArray) (k : Nat) : List ByteArray := (D ++ [x]).take (k + 1) ++ D.drop k
theorem shL_len (D : List ByteArray) (x : ByteArray) {k : Nat} (h : k ≤ D.length) : (shL D x k).length = D.length + 1 := by
  unfold shL
  simp
  omega
theorem shL_top (D : List ByteArray) (x : ByteArray) : shL D x D.length = D ++ [x] := by
  unfold shL
  rw [List.take_of_length_le (by simp), List.drop_length, List.append_nil]
theorem shL_at (D : List ByteArray) (x : ByteArray) {k j : Nat} (hk : k ≤ D.length) : (shL D x k)[j]? = if j ≤ k then (D ++ [x])[j]? else D[j - 1]? := by
  unfold shL
  have hl : ((D ++ [x]).take (k + 1)).length = k + 1 := by simp; omega
  split
  · rename_i h
    rw [List.getElem?_append_left (by omega), List.getElem?_take_of_lt (by omega)]
  · rename_i h
    rw [List.getElem?_append_right (by omega), hl, List.getElem?_drop]
    congr 1
    omega
theorem shL_step {D : List ByteArray} {x y : ByteArray} {k : Nat} (hk : k < D.length) (hy : D[k]? = some y) : (shL D x (k + 1)).set (k + 1) y = shL D x k := by
  refine List.ext_getElem? fun j => ?_
  by_cases hj : j < D.length + 1
  · rw [List.getElem?_set, shL_at D x (by omega), shL_at D x (by omega), shL_len D x (by omega)]
    by_cases e : k + 1 = j
    · subst e
      rw [if_pos rfl, if_pos (by omega), if_neg (by omega)]
      exact hy.symm
    · rw [if_neg e]
      by_cases h1 : j ≤ k
      · rw [if_pos (by omega), if_pos h1]
      · rw [if_neg (by omega), if_neg h1]
  · rw [List.getElem?_eq_none (by rw [List.length_set, shL_len D x (by omega)]; omega), List.getElem?_eq_none (by rw [shL_len D x (by omega)]; omega)]
theorem shL_end {D : List ByteArray} {x : ByteArray} {a : Nat} (ha : a ≤ D.length) : (shL D x a).set a x = D.take a ++ x :: D.drop a := by
  refine List.ext_getElem? fun j => ?_
  have hl : (D.take a).length = a := by simp; omega
  by_cases hj : j < D.length + 1
  · rw [List.getElem?_set, shL_at D x ha, shL_len D x ha]
    by_cases e : a = j
    · subst e
      rw [if_pos rfl, if_pos (by omega), List.getElem?_append_right (by omega), hl, Nat.sub_self]
      rfl
    · rw [if_neg e]
      by_cases h1 : j ≤ a
      · rw [if_pos h1, List.getElem?_append_left (by omega), List.getElem?_append_left (by omega), List.getElem?_take_of_lt (by omega)]
      · rw [if_neg h1, List.getElem?_append_right (by omega), hl, show j - a = (j - 1 - a) + 1 by omega, List.getElem?_cons_succ, List.getElem?_drop]
        congr 1
        omega
  · rw [List.getElem?_eq_none (by rw [List.length_set, shL_len D x ha]; omega), List.getElem?_eq_none (by simp; omega)]
/-- The distinct stretches ahead of i, in order. -/
def InD (s : ByteArray) (n i : Nat) (D : List ByteArray) : Prop := (∀ x, x ∈ D ↔ ∃ j, j < i ∧ x = sx s n j) ∧ D.Pairwise (fun y x => bl y < bl x)
theorem InD.nil (s : ByteArray) (n : Nat) : InD s n 0 [] := ⟨fun x => ⟨fun h => (by cases h), fun ⟨j, h, _⟩ => absurd h (Nat.not_lt_zero _)⟩, List.Pairwise.nil⟩
theorem InD.same {s : ByteArray} {n i : Nat} {D : List ByteArray} (h : InD s n i D) (hx : sx s n i ∈ D) : InD s n (i + 1) D :=
  ⟨fun x => ⟨fun hm => by obtain ⟨j, h1, h2⟩ := (h.1 x).1 hm; exact ⟨j, by omega, h2⟩, fun ⟨j, h1, h2⟩ => by
    by_cases e : j = i
    · rw [h2, e]; exact hx
    · exact (h.1 x).2 ⟨j, by omega, h2⟩⟩, h.2⟩
theorem InD.put {s : ByteArray} {n i a : Nat} {D : List ByteArray} (h : InD s n i D) (ha : a ≤ D.length) (h1 : ∀ j y, j < a → D[j]? = some y → bl y < bl (sx s n i)) (h2 : ∀ y, D[a]? = some y → bl (sx s n i) < bl y) : InD s n (i + 1) (D.take a ++ sx s n i :: D.drop a) := by
  have hm : ∀ x, x ∈ D.take a ++ sx s n i :: D.drop a ↔ x ∈ D ∨ x = sx s n i := fun x => by
    have e : x ∈ D ↔ x ∈ D.take a ∨ x ∈ D.drop a := by
      conv => lhs; rw [← List.take_append_drop a D]
      exact List.mem_append
    rw [List.mem_append, List.mem_cons, e]
    exact ⟨fun k => by rcases k with k | k | k; exact .inl (.inl k); exact .inr k; exact .inl (.inr k), fun k => by rcases k with (k | k) | k; exact .inl k; exact .inr (.inr k); exact .inr (.inl k)⟩
  refine ⟨fun x => ?_, ?_⟩
  · rw [hm x, h.1 x]
    constructor
    · rintro (⟨j, k1, k2⟩ | k)
      · exact ⟨j, by omega, k2⟩
      · exact ⟨i, by omega, k⟩
    · rintro ⟨j, k1, k2⟩
      by_cases e : j = i
      · exact .inr (by rw [k2, e])
      · exact .inl ⟨j, by omega, k2⟩
  · have hp := h.2
    have hlo : ∀ y, y ∈ D.take a → bl y < bl (sx s n i) := fun y hy => by
      obtain ⟨j, hj, e⟩ := List.getElem_of_mem hy
      have hja : j < a := by have := hj; rw [List.length_take] at this; omega
      exact h1 j y hja (by rw [← e, List.getElem_take]; exact List.getElem?_eq_getElem _)
    have hhi : ∀ y, y ∈ D.drop a → bl (sx s n i) < bl y := fun y hy => by
      cases hd : D.drop a with
      | nil => rw [hd] at hy; cases hy
      | cons z t =>
        have hz : D[a]? = some z := by
          have := congrArg (fun l => l[0]?) hd
          simpa [List.getElem?_drop] using this
        have hz2 := h2 z hz
        rw [hd] at hy
        rcases List.mem_cons.1 hy with rfl | hy
        · exact hz2
        · have hp2 : (D.drop a).Pairwise (fun y x => bl y < bl x) := hp.sublist (List.drop_sublist a D)
          rw [hd] at hp2
          exact List.lt_trans hz2 ((List.pairwise_cons.1 hp2).1 y hy)
    refine List.pairwise_append.2 ⟨hp.sublist (List.take_sublist a D), List.pairwise_cons.2 ⟨hhi, hp.sublist (List.drop_sublist a D)⟩, fun y hy z hz => ?_⟩
    rcases List.mem_cons.1 hz with rfl | hz
    · exact hlo y hy
    · exact List.lt_trans (hlo y hy) (hhi z hz)
theorem InD.fac {s : ByteArray} {n m : Nat} {D : List ByteArray} (hm : s.size + 1 - n = m) (h : InD s n m D) : FacD s n D := by
  refine ⟨fun x => (h.1 x).trans ⟨fun ⟨j, h1, h2⟩ => ⟨j, by omega, h2⟩, fun ⟨j, h1, h2⟩ => ⟨j, by omega, h2⟩⟩, ?_⟩
  exact List.Pairwise.map _ (fun _ _ k => k) h.2
/-- Two such lists are one. -/
theorem FacD.same {s : ByteArray} {n : Nat} {D E : List ByteArray} (h : FacD s n D) (k : FacD s n E) : D = E := by
  have inj : ∀ x y : ByteArray, bl x = bl y → x = y := fun x y e => by rw [← lb_bl x, e, lb_bl]
  have nd : ∀ {L : List ByteArray}, (L.map fun x => x.data.toList).Pairwise (· < ·) → L.Nodup := fun hl => (List.pairwise_map.1 hl).imp fun hlt e => by subst e; exact absurd hlt (List.lt_irrefl _)
  have hp : D.Perm E := (List.perm_ext_iff_of_nodup (nd h.2) (nd k.2)).2 fun x => (h.1 x).trans (k.1 x).symm
  refine List.Perm.eq_of_pairwise (le := fun a b => bl a ≤ bl b) (fun a b _ _ h1 h2 => inj a b (List.le_antisymm h1 h2)) ((List.pairwise_map.1 h.2).imp fun hlt => List.le_of_lt hlt) ((List.pairwise_map.1 k.2).imp fun hlt => List.le_of_lt hlt) hp
theorem TxL.set {w : World} {B g c j : Nat} {l : List ByteArray} (h : TxL w B (.slice (some ⟨g, 0, none⟩) l.length c) l) (y : ByteArray) : TxL (w.setCell ⟨g, j, none⟩ (.string y)) B (.slice (some ⟨g, 0, none⟩) l.length c) (l.set j y) := by
  obtain ⟨cur, h1, hh, h2, h3, h4, ht⟩ := h.parts
  have a2 : At 9 (w.setCell ⟨g, j, none⟩ (.string y)) g (cur.setIfInBounds j (.string y)) := At.set (show At 9 w g cur from hh) j _
  refine ⟨⟨by simp, .inr ⟨g, c, _, by rw [List.length_set], h1, a2, by rw [List.length_set]; exact h2, h3, by simpa using h4, ?_⟩⟩, fun e => by cases e⟩
  rw [Nat.mul_one, List.length_set, Array.toList_setIfInBounds, List.take_set, ht, List.map_set]
end Go.Proofs.Ytnkmiljnilmicaa
