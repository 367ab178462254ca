/-
  The specification's orbit: walked.
-/
import Derived.Test.YtehbpcoiciodhaaGreatO3m
import Derived.Test.YtehbpcoiciodhaaGreatO3b
import Derived.Test.YtehbpcoiciodhaaGreatQd
import Derived.Test.YtehbpcoiciodhaaGreatMH
namespace Go.Proofs.YtehbpcoiciodhaaGreat
open Go.RowKit

/-- Place t holds the triple x. -/
def H3 (cur : Array Value) (t : Nat) (x : T3) : Prop := cur[t * 3]? = some (.int .i64 x.1) ∧ cur[t * 3 + 1]? = some (.int .i64 x.2.1) ∧ cur[t * 3 + 2]? = some (.int .i64 x.2.2)
/-- A list of triples of one's own. -/
structure PtG (w : World) (lo : Nat) (v : Value) (m : Nat) (F : Nat → T3) : Prop where
  row : w.ownsRow lo 30 3 v m (iCells (fl3 F) (m * 3))
  nn : v ≠ .slice none 0 0
theorem PtG.below {w w' : World} {lo m : Nat} {v : Value} {F : Nat → T3} (h : PtG w lo v m F) (hb : Below w.heap.size w w') : PtG w' lo v m F := ⟨own_below h.row hb, h.nn⟩
theorem PtG.open {w : World} {lo m : Nat} {v : Value} {F : Nat → T3} (h : PtG w lo v m F) : ∃ g c cur, v = .slice (some ⟨g, 0, none⟩) m c ∧ lo ≤ g ∧ At 30 w g cur ∧ cur.size = c * 3 ∧ m ≤ c ∧ c ≤ maxLen ∧ ∀ t, t < m → H3 cur t (F t) := by
  obtain ⟨e0, h1 | ⟨g, c, cur, rfl, hb, hh, h3, h4, h5, h6⟩⟩ := h.row
  · exact absurd h1.1 h.nn
  · refine ⟨g, c, cur, rfl, hb, hh, h5, h3, h4, fun t ht => ?_⟩
    have get : ∀ j, j < m * 3 → cur[j]? = some (.int .i64 (fl3 F j)) := fun j hj => by
      have := congrArg (fun L => L[j]?) h6
      simp only [List.getElem?_take] at this
      rw [if_pos hj, iCells_at _ hj] at this
      simpa using this
    obtain ⟨f0, f1, f2⟩ := fl3_at F t
    exact ⟨by rw [get _ (by omega), f0], by rw [get _ (by omega), f1], by rw [get _ (by omega), f2]⟩
theorem h3_flat {cur : Array Value} {m : Nat} {F : Nat → T3} (h : ∀ t, t < m → H3 cur t (F t)) {j : Nat} (hj : j < m * 3) : cur[j]? = some (.int .i64 (fl3 F j)) := by
  obtain ⟨t, e⟩ : ∃ t, j = t * 3 ∨ j = t * 3 + 1 ∨ j = t * 3 + 2 := ⟨j / 3, by omega⟩
  obtain ⟨f0, f1, f2⟩ := fl3_at F t
  obtain ⟨h0, h1, h2⟩ := h t (by omega)
  rcases e with rfl | rfl | rfl
  · rw [h0, f0]
  · rw [h1, f1]
  · rw [h2, f2]
theorem ptG_of {w : World} {lo g m c : Nat} {cur : Array Value} {F : Nat → T3} (a : At 30 w g cur) (hs : cur.size = c * 3) (hm : m ≤ c) (hc : c ≤ maxLen) (hl : lo ≤ g) (h : ∀ t, t < m → H3 cur t (F t)) : PtG w lo (.slice (some ⟨g, 0, none⟩) m c) m F := by
  refine ⟨⟨iCells_len _ _, .inr ⟨g, c, cur, rfl, hl, a, hm, hc, hs, ?_⟩⟩, ne_nil _ _ _⟩
  refine iCells_ext (by simp; omega) (fun j hj => ?_)
  rw [List.getElem?_take_of_lt hj]
  simpa using h3_flat h hj
theorem PtG.laid {w : World} {lo m : Nat} {v : Value} {F : Nat → T3} (h : PtG w lo v m F) : ∃ g c, v = .slice (some ⟨g, 0, none⟩) m c ∧ lo ≤ g ∧ m ≤ c ∧ c ≤ maxLen ∧ LaidK 3 30 w g c m (fl3 F) := by
  obtain ⟨g, c, cur, e, hl, a, hs, hm, hc, hH⟩ := h.open
  exact ⟨g, c, e, hl, hm, hc, cur, a, hs, fun j hj => h3_flat hH hj⟩
theorem h3_cells {w : World} {g t : Nat} {cur : Array Value} {x : T3} (a : At 30 w g cur) (h : H3 cur t x) : w.cell? ⟨g, t * 3, none⟩ = some (.int .i64 x.1) ∧ w.cell? ⟨g, t * 3 + 1, none⟩ = some (.int .i64 x.2.1) ∧ w.cell? ⟨g, t * 3 + 2, none⟩ = some (.int .i64 x.2.2) := ⟨a.cell _ h.1, a.cell _ h.2.1, a.cell _ h.2.2⟩
/-- Three cells written. -/
def put3L (w : World) (g k : Nat) (x : T3) : World := ((w.setCell ⟨g, k * 3, none⟩ (.int .i64 x.1)).setCell ⟨g, k * 3 + 1, none⟩ (.int .i64 x.2.1)).setCell ⟨g, k * 3 + 2, none⟩ (.int .i64 x.2.2)
theorem put3L_at {w : World} {g k : Nat} {x : T3} {cur : Array Value} (a : At 30 w g cur) (hk : k * 3 + 3 ≤ cur.size) : ∃ cur', At 30 (put3L w g k x) g cur' ∧ cur'.size = cur.size ∧ H3 cur' k x ∧ ∀ t y, t ≠ k → H3 cur t y → H3 cur' t y := by
  refine ⟨_, ((a.set (k * 3) _).set (k * 3 + 1) _).set (k * 3 + 2) _, by simp, ?_, fun t y ht h => ?_⟩
  · refine ⟨?_, ?_, ?_⟩ <;> simp [Array.getElem?_setIfInBounds] <;> omega
  · obtain ⟨h0, h1, h2⟩ := h
    refine ⟨?_, ?_, ?_⟩
    · simp only [Array.getElem?_setIfInBounds]
      rw [if_neg (by omega), if_neg (by omega), if_neg (by omega)]; exact h0
    · simp only [Array.getElem?_setIfInBounds]
      rw [if_neg (by omega), if_neg (by omega), if_neg (by omega)]; exact h1
    · simp only [Array.getElem?_setIfInBounds]
      rw [if_neg (by omega), if_neg (by omega), if_neg (by omega)]; exact h2
theorem put3L_kept (w : World) (g k : Nat) (x : T3) : Kept g w (put3L w g k x) := (((Kept.refl g w).set _).set _).set _
/-- In the middle of the shift: those from i on have gone up by one. -/
def Shift3 (w : World) (g c n i : Nat) (F : Nat → T3) : Prop := ∃ cur : Array Value, At 30 w g cur ∧ cur.size = c * 3 ∧ (∀ t, t < i → H3 cur t (F t)) ∧ ∀ t, i < t → t ≤ n → H3 cur t (F (t - 1))
theorem Shift3.cells {w : World} {g c n i j : Nat} {F : Nat → T3} (h : Shift3 w g c n i F) (hj : j < c * 3) : w.cell? ⟨g, j, none⟩ = some (cv w g j) ∧ w.frozen? ⟨g, j, none⟩ = false := by
  obtain ⟨cur, a, hs, -⟩ := h
  have hl : j < cur.size := by omega
  have := a.cell j (Array.getElem?_eq_getElem hl)
  exact ⟨by rw [cv, this]; rfl, a.frozen j⟩
theorem Shift3.step {w : World} {g c n i k : Nat} {F : Nat → T3} (h : Shift3 w g c n k F) (hk : k = i + 1) (hi : i < n) (hc : n + 1 ≤ c) : Shift3 (put3L w g k (F i)) g c n i F := by
  obtain ⟨cur, a, hs, h1, h2⟩ := h
  obtain ⟨cur', a', s', e, o⟩ := put3L_at (k := k) (x := F i) a (by omega)
  refine ⟨cur', a', s'.trans hs, fun t ht => o t _ (by omega) (h1 t (by omega)), fun t h3 h4 => ?_⟩
  by_cases et : t = k
  · subst et
    rw [show t - 1 = i by omega]; exact e
  · exact o t _ et (h2 t (by omega) h4)
theorem Shift3.last {w : World} {lo g c n i : Nat} {F : Nat → T3} {x : T3} (h : Shift3 w g c n i F) (hi : i ≤ n) (hc : n + 1 ≤ c) (hcm : c ≤ maxLen) (hg : lo ≤ g) : PtG (put3L w g i x) lo (.slice (some ⟨g, 0, none⟩) (n + 1) c) (n + 1) (ins i F x) := by
  obtain ⟨cur, a, hs, h1, h2⟩ := h
  obtain ⟨cur', a', s', e, o⟩ := put3L_at (k := i) (x := x) a (by omega)
  refine ptG_of a' (s'.trans hs) hc hcm hg (fun t ht => ?_)
  rcases Nat.lt_trichotomy t i with e' | e' | e'
  · rw [ins_lo e']; exact o t _ (by omega) (h1 t e')
  · subst e'; rw [ins_at]; exact e
  · rw [ins_hi e']; exact o t _ (by omega) (h2 t e' (by omega))
theorem c3_less (x y : T3) : c3 x y < 0 ↔ x.1 < y.1 ∨ (x.1 = y.1 ∧ (x.2.1 < y.2.1 ∨ (x.2.1 = y.2.1 ∧ x.2.2 < y.2.2))) := by
  unfold c3
  rw [lexC_neg]
  constructor
  · rintro ⟨p, hp, h, d⟩
    rcases (by omega : p = 0 ∨ p = 1 ∨ p = 2) with rfl | rfl | rfl
    · exact .inl d
    · exact .inr ⟨h 0 (by omega), .inl d⟩
    · exact .inr ⟨h 0 (by omega), .inr ⟨h 1 (by omega), d⟩⟩
  · rintro (d | ⟨e0, d | ⟨e1, d⟩⟩)
    · exact ⟨0, by omega, fun j hj => by omega, d⟩
    · refine ⟨1, by omega, fun j hj => ?_, d⟩
      obtain rfl : j = 0 := by omega
      exact e0
    · refine ⟨2, by omega, fun j hj => ?_, d⟩
      rcases (by omega : j = 0 ∨ j = 1) with rfl | rfl
      · exact e0
      · exact e1
set_option maxRecDepth 100000 in
set_option maxHeartbeats 1000000 in
theorem less_any (x y : T3) (w : World) (b : Bool) (hb : Hid (b = true ↔ c3 x y < 0)) : Calls Tryz.prog 68 #[tV x, tV y] w fun e w' => e = .returned (.bool b) ∧ Below w.heap.size w w' := by
  have hc := c3_less x y
  have hb' := hb.out
  rw [hc] at hb'
  have HB := hid_of hb'
  clear hb hc hb'
  obtain ⟨x0, x1, x2⟩ := x
  obtain ⟨y0, y1, y2⟩ := y
  obtain ⟨W, hW, b0, b1, bW, -⟩ := bx2 w 30 30 #[.int .i64 x0, .int .i64 x1, .int .i64 x2] #[.int .i64 y0, .int .i64 y1, .int .i64 y2]
  obtain ⟨a0, a1, a2, -⟩ := b0.open3
  obtain ⟨d0, d1, d2, -⟩ := b1.open3
  have fin : ∀ b', (b' = true ↔ (x0 < y0 ∨ (x0 = y0 ∧ (x1 < y1 ∨ (x1 = y1 ∧ x2 < y2))))) → b = b' := fun b' h => Bool.eq_iff_iff.2 (HB.out.trans h.symm)
  have FIN := hid_of fin
  clear fin HB
  have BW := hid_of bW
  clear b0 b1 bW
  rcases (by omega : x0 < y0 ∨ (x0 = y0 ∧ x1 < y1) ∨ (x0 = y0 ∧ x1 = y1 ∧ x2 < y2) ∨ (x0 = y0 ∧ x1 = y1 ∧ ¬ x2 < y2) ∨ (x0 = y0 ∧ ¬ x1 < y1 ∧ ¬ x1 = y1) ∨ (¬ x0 < y0 ∧ ¬ x0 = y0)) with h | ⟨rfl, h⟩ | ⟨rfl, rfl, h⟩ | ⟨rfl, rfl, h⟩ | ⟨rfl, h, h'⟩ | ⟨h, h'⟩
  · obtain rfl := FIN.out true ⟨fun _ => .inl h, fun _ => rfl⟩
    go_enter Tryz.func68, Tryz.ntmps68
    go_wp2
    go_ret
    exact ⟨rfl, BW.out⟩
  · obtain rfl := FIN.out true ⟨fun _ => .inr ⟨rfl, .inl h⟩, fun _ => rfl⟩
    go_enter Tryz.func68, Tryz.ntmps68
    go_wp2
    go_ret
    exact ⟨rfl, BW.out⟩
  · obtain rfl := FIN.out true ⟨fun _ => .inr ⟨rfl, .inr ⟨rfl, h⟩⟩, fun _ => rfl⟩
    go_enter Tryz.func68, Tryz.ntmps68
    go_wp2
    go_ret
    exact ⟨rfl, BW.out⟩
  · obtain rfl := FIN.out false ⟨(fun e => by cases e), (fun e => by omega)⟩
    go_enter Tryz.func68, Tryz.ntmps68
    go_wp2
    go_ret
    exact ⟨rfl, BW.out⟩
  · obtain rfl := FIN.out false ⟨(fun e => by cases e), (fun e => by omega)⟩
    have h2 : (x1 == y1) = false := by simpa using h'
    go_enter Tryz.func68, Tryz.ntmps68
    go_wp2
    go_ret
    exact ⟨rfl, BW.out⟩
  · obtain rfl := FIN.out false ⟨(fun e => by cases e), (fun e => by omega)⟩
    have h2 : (x0 == y0) = false := by simpa using h'
    go_enter Tryz.func68, Tryz.ntmps68
    go_wp2
    go_ret
    exact ⟨rfl, BW.out⟩
end Go.Proofs.YtehbpcoiciodhaaGreat
