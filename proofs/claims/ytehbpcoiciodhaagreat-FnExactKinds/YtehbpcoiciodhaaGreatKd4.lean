/-
  A list of kinds of one's own: raised in its place, shifted. No function of the program.
-/
import Derived.Test.YtehbpcoiciodhaaGreatKd3
namespace Go.Proofs.YtehbpcoiciodhaaGreat
open Go.RowKit

/-- Place t holds the kind x. -/
def H4 (cur : Array Value) (t : Nat) (x : Q4Kn) : Prop := cur[t * 4]? = some (.int .i64 x.1) ∧ cur[t * 4 + 1]? = some (.int .i64 x.2.1) ∧ cur[t * 4 + 2]? = some (.int .i64 x.2.2.1) ∧ cur[t * 4 + 3]? = some (.int .i64 x.2.2.2)
/-- A list of kinds of one's own. -/
def PtK (w : World) (lo : Nat) (v : Value) (m : Nat) (R : Nat → Q4Kn) : Prop := ∃ g c cur, v = .slice (some ⟨g, 0, none⟩) m c ∧ lo ≤ g ∧ At 87 w g cur ∧ cur.size = c * 4 ∧ m ≤ c ∧ c ≤ maxLen ∧ ∀ t, t < m → H4 cur t (R t)
theorem PtK.below {w w' : World} {lo m : Nat} {v : Value} {R : Nat → Q4Kn} (h : PtK w lo v m R) (hb : Below w.heap.size w w') : PtK w' lo v m R := by
  obtain ⟨g, c, cur, e, h1, a, r⟩ := h
  exact ⟨g, c, cur, e, h1, a.below hb, r⟩
theorem h4_flR {cur : Array Value} {m : Nat} {R : Nat → Q4Kn} (h : ∀ t, t < m → H4 cur t (R t)) {i : Nat} (hi : i < m * 4) : cur[i]? = some (.int .i64 (flR R i)) := by
  obtain ⟨p0, p1, p2, p3⟩ := h (i / 4) (by omega)
  unfold flR
  rcases (by omega : i % 4 = 0 ∨ i % 4 = 1 ∨ i % 4 = 2 ∨ i % 4 = 3) with e | e | e | e <;> rw [e]
  · rw [show i = i / 4 * 4 by omega, show i / 4 * 4 / 4 = i / 4 by omega]; exact p0
  · rw [show i = i / 4 * 4 + 1 by omega, show (i / 4 * 4 + 1) / 4 = i / 4 by omega]; exact p1
  · rw [show i = i / 4 * 4 + 2 by omega, show (i / 4 * 4 + 2) / 4 = i / 4 by omega]; exact p2
  · rw [show i = i / 4 * 4 + 3 by omega, show (i / 4 * 4 + 3) / 4 = i / 4 by omega]; exact p3
theorem PtK.ar {w : World} {lo m : Nat} {v : Value} {R : Nat → Q4Kn} (h : PtK w lo v m R) : ArK 4 87 w lo w.heap.size v m (flR R) := by
  obtain ⟨g, c, cur, rfl, h1, a, hs, hm, hc, hH⟩ := h
  exact ArK.own ⟨cur, a, hs, fun i hi => h4_flR hH hi⟩ h1 hm hc
theorem h4_cells {w : World} {g t : Nat} {cur : Array Value} {x : Q4Kn} (a : At 87 w g cur) (h : H4 cur t x) : w.cell? ⟨g, t * 4, none⟩ = some (.int .i64 x.1) ∧ w.cell? ⟨g, t * 4 + 1, none⟩ = some (.int .i64 x.2.1) ∧ w.cell? ⟨g, t * 4 + 2, none⟩ = some (.int .i64 x.2.2.1) ∧ w.cell? ⟨g, t * 4 + 3, none⟩ = some (.int .i64 x.2.2.2) :=
  ⟨a.cell _ h.1, a.cell _ h.2.1, a.cell _ h.2.2.1, a.cell _ h.2.2.2⟩
/-- Four cells written. -/
def put4L (w : World) (g k : Nat) (x : Q4Kn) : World := (((w.setCell ⟨g, k * 4, none⟩ (.int .i64 x.1)).setCell ⟨g, k * 4 + 1, none⟩ (.int .i64 x.2.1)).setCell ⟨g, k * 4 + 2, none⟩ (.int .i64 x.2.2.1)).setCell ⟨g, k * 4 + 3, none⟩ (.int .i64 x.2.2.2)
theorem put4L_at {w : World} {g k : Nat} {x : Q4Kn} {cur : Array Value} (a : At 87 w g cur) (hk : k * 4 + 4 ≤ cur.size) : ∃ cur', At 87 (put4L w g k x) g cur' ∧ cur'.size = cur.size ∧ H4 cur' k x ∧ ∀ t y, t ≠ k → H4 cur t y → H4 cur' t y := by
  refine ⟨_, (((a.set (k * 4) _).set (k * 4 + 1) _).set (k * 4 + 2) _).set (k * 4 + 3) _, by simp, ?_, fun t y ht h => ?_⟩
  · refine ⟨?_, ?_, ?_, ?_⟩ <;> simp [Array.getElem?_setIfInBounds] <;> omega
  · obtain ⟨h0, h1, h2, h3⟩ := h
    refine ⟨?_, ?_, ?_, ?_⟩
    · simp only [Array.getElem?_setIfInBounds]
      rw [if_neg (by omega), if_neg (by omega), if_neg (by omega), if_neg (by omega)]; exact h0
    · simp only [Array.getElem?_setIfInBounds]
      rw [if_neg (by omega), if_neg (by omega), if_neg (by omega), if_neg (by omega)]; exact h1
    · simp only [Array.getElem?_setIfInBounds]
      rw [if_neg (by omega), if_neg (by omega), if_neg (by omega), if_neg (by omega)]; exact h2
    · simp only [Array.getElem?_setIfInBounds]
      rw [if_neg (by omega), if_neg (by omega), if_neg (by omega), if_neg (by omega)]; exact h3
theorem put4L_kept (w : World) (g k : Nat) (x : Q4Kn) : Kept g w (put4L w g k x) := ((((Kept.refl g w).set _).set _).set _).set _
/-- In the middle of the shift: those from i on have gone up by one. -/
def Shift4 (w : World) (g c n i : Nat) (F : Nat → Q4Kn) : Prop := ∃ cur : Array Value, At 87 w g cur ∧ cur.size = c * 4 ∧ (∀ t, t < i → H4 cur t (F t)) ∧ ∀ t, i < t → t ≤ n → H4 cur t (F (t - 1))
theorem Shift4.cells {w : World} {g c n i j : Nat} {F : Nat → Q4Kn} (h : Shift4 w g c n i F) (hj : j < c * 4) : w.cell? ⟨g, j, none⟩ = some (cv w g j) ∧ w.frozen? ⟨g, j, none⟩ = false := by
  obtain ⟨cur, a, hs, -⟩ := h
  have hl : j < cur.size := by omega
  have := a.cell j (Array.getElem?_eq_getElem hl)
  exact ⟨by rw [cv, this]; rfl, a.frozen j⟩
theorem Shift4.step {w : World} {g c n i k : Nat} {F : Nat → Q4Kn} (h : Shift4 w g c n k F) (hk : k = i + 1) (hi : i < n) (hc : n + 1 ≤ c) : Shift4 (put4L w g k (F i)) g c n i F := by
  obtain ⟨cur, a, hs, h1, h2⟩ := h
  obtain ⟨cur', a', s', e, o⟩ := put4L_at (k := k) (x := F i) a (by omega)
  refine ⟨cur', a', s'.trans hs, fun t ht => o t _ (by omega) (h1 t (by omega)), fun t h3 h4 => ?_⟩
  by_cases et : t = k
  · subst et
    rw [show t - 1 = i by omega]; exact e
  · exact o t _ et (h2 t (by omega) h4)
theorem Shift4.last {w : World} {lo g c n i : Nat} {F : Nat → Q4Kn} {x : Q4Kn} (h : Shift4 w g c n i F) (hi : i ≤ n) (hc : n + 1 ≤ c) (hcm : c ≤ maxLen) (hg : lo ≤ g) : PtK (put4L w g i x) lo (.slice (some ⟨g, 0, none⟩) (n + 1) c) (n + 1) (ins i F x) := by
  obtain ⟨cur, a, hs, h1, h2⟩ := h
  obtain ⟨cur', a', s', e, o⟩ := put4L_at (k := i) (x := x) a (by omega)
  refine ⟨g, c, cur', rfl, hg, a', s'.trans hs, hc, hcm, fun t ht => ?_⟩
  rcases Nat.lt_trichotomy t i with e' | e' | e'
  · rw [ins_lo e']; exact o t _ (by omega) (h1 t e')
  · rw [e', ins_at]; exact e
  · rw [ins_hi e']; exact o t _ (by omega) (h2 t e' (by omega))
/-- One kind's number turned. -/
theorem PtK.one {w : World} {lo m j g c : Nat} {R : Nat → Q4Kn} (h : PtK w lo (.slice (some ⟨g, 0, none⟩) m c) m R) (hj : j < m) (n : Int) : PtK (w.setCell ⟨g, j * 4 + 3, none⟩ (.int .i64 n)) lo (.slice (some ⟨g, 0, none⟩) m c) m (fun t => if t = j then pr0 (R j) n else R t) := by
  obtain ⟨g', c', cur, e, h1, a, hs, hm, hc, hH⟩ := h
  cases e
  refine ⟨g, c, _, rfl, h1, a.set _ _, by simpa using hs, hm, hc, fun t ht => ?_⟩
  obtain ⟨p0, p1, p2, p3⟩ := hH t ht
  show H4 _ t (if t = j then pr0 (R j) n else R t)
  by_cases et : t = j
  · subst et
    rw [if_pos rfl]
    refine ⟨?_, ?_, ?_, ?_⟩
    · rw [Array.getElem?_setIfInBounds, if_neg (by omega)]; exact p0
    · rw [Array.getElem?_setIfInBounds, if_neg (by omega)]; exact p1
    · rw [Array.getElem?_setIfInBounds, if_neg (by omega)]; exact p2
    · rw [Array.getElem?_setIfInBounds, if_pos rfl, if_pos (by omega)]; rfl
  · rw [if_neg et]
    refine ⟨?_, ?_, ?_, ?_⟩
    · rw [Array.getElem?_setIfInBounds, if_neg (by omega)]; exact p0
    · rw [Array.getElem?_setIfInBounds, if_neg (by omega)]; exact p1
    · rw [Array.getElem?_setIfInBounds, if_neg (by omega)]; exact p2
    · rw [Array.getElem?_setIfInBounds, if_neg (by omega)]; exact p3
theorem ar_shift {w : World} {lo L : Nat} {v : Value} {R : Nat → Q4Kn} {z : Nat → Int} (h : ArK 4 87 w lo w.heap.size v (L + 1) (catK (flR R) (L * 4) z)) (hv : v ≠ .slice none 0 0) : ∃ g c, v = .slice (some ⟨g, 0, none⟩) (L + 1) c ∧ lo ≤ g ∧ g < w.heap.size ∧ L + 1 ≤ c ∧ c ≤ maxLen ∧ Shift4 w g c L L R := by
  obtain ⟨g, c, e, h1, h2, h3, cur, a, hs, hc⟩ := h.nn hv
  refine ⟨g, c, e, h1, a.lt, h2, h3, cur, a, hs, fun t ht => ?_, fun t h4 h5 => by omega⟩
  have at4 : ∀ j, j < 4 → cur[t * 4 + j]? = some (.int .i64 (t4f (R t) j)) := fun j hj => by
    rw [hc _ (by omega), catK, if_pos (by omega)]
    unfold flR
    rw [show (t * 4 + j) / 4 = t by omega, show (t * 4 + j) % 4 = j by omega]
  exact ⟨at4 0 (by omega), at4 1 (by omega), at4 2 (by omega), at4 3 (by omega)⟩
theorem c4_lt_iff {a0 a1 a2 a3 s0 s1 s2 s3 : Int} : c4 (a0, a1, a2, a3) (s0, s1, s2, s3) < 0 ↔ a0 < s0 ∨ a0 = s0 ∧ (a1 < s1 ∨ a1 = s1 ∧ a2 < s2) := by
  show lexC 3 (t3f (a0, a1, a2)) (t3f (s0, s1, s2)) < 0 ↔ _
  rw [lexC_neg]
  constructor
  · rintro ⟨p, hp, h1, h2⟩
    rcases (by omega : p = 0 ∨ p = 1 ∨ p = 2) with rfl | rfl | rfl
    · exact .inl h2
    · exact .inr ⟨h1 0 (by omega), .inl h2⟩
    · exact .inr ⟨h1 0 (by omega), .inr ⟨h1 1 (by omega), h2⟩⟩
  · rintro (h | ⟨h, h2 | ⟨h2, h3⟩⟩)
    · exact ⟨0, by omega, fun j hj => by omega, h⟩
    · exact ⟨1, by omega, fun j hj => by
        obtain rfl : j = 0 := by omega
        exact h, h2⟩
    · exact ⟨2, by omega, fun j hj => by
        rcases (by omega : j = 0 ∨ j = 1) with rfl | rfl
        · exact h
        · exact h2, h3⟩
theorem c4_tri (x y : Q4Kn) : c4 x y < 0 ∨ pr3 x = pr3 y ∨ c4 y x < 0 := by
  rcases lexC_range 3 (t3f (pr3 x)) (t3f (pr3 y)) with e | e | e
  · exact .inl (by show lexC 3 (t3f (pr3 x)) (t3f (pr3 y)) < 0; omega)
  · exact .inr (.inl (c4_zero.1 e))
  · exact .inr (.inr (lexC_pos.1 (by omega : 0 < lexC 3 (t3f (pr3 x)) (t3f (pr3 y)))))
end Go.Proofs.YtehbpcoiciodhaaGreat
