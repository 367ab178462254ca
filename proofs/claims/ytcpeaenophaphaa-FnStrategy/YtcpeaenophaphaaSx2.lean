/-
  Lists of lists that are drawn: what is held, and how it grows. No function of the program.
-/
import Derived.Test.YtcpeaenophaphaaSx1
import Derived.Test.YtcpeaenophaphaaDx
namespace Go.Proofs.Ytcpeaenophaphaa
open Go.RowKit

theorem nn_someS (a : Addr) (n c : Nat) : Value.slice (some a) n c ≠ .slice none 0 0 := by intro h; cases h
theorem own_keptS {w w' : World} {B p : Nat} {e : TypeId} {k : Nat} {v : Value} {n : Nat} {xs : List Value} (h : w.ownsRow B e k v n xs) (hk : Kept p w w') (hp : p < B) : w'.ownsRow B e k v n xs := by
  refine ⟨h.1, h.2.imp id ?_⟩
  rintro ⟨g, cap, cur, rfl, h1, h2, h3⟩
  exact ⟨g, cap, cur, rfl, h1, (hk.block g (Array.getElem?_eq_some_iff.1 h2).1 (by omega)).trans h2, h3⟩
/-- The cursor, and what has turned since w1. -/
structure Drn (w1 w : World) (p : Nat) (a : Option Addr) (len cap : Nat) : Prop where
  cur : Cur w p a len cap
  kp : Kept p w1 w
  pN : p < w1.heap.size
theorem Drn.st {w1 w : World} {p : Nat} {a : Option Addr} {len cap : Nat} (s : Drn w1 w p a len cap) : Dr w p a len cap w := Dr.start s.cur
theorem Drn.draw {w1 w w' : World} {p : Nat} {a : Option Addr} {len cap : Nat} (s : Drn w1 w p a len cap) (h : Dr w p a len cap w') : Drn w1 w' p a len cap := ⟨h.2, s.kp.trans h.1, s.pN⟩
theorem Drn.below {w1 w w' : World} {p : Nat} {a : Option Addr} {len cap : Nat} (s : Drn w1 w p a len cap) (hb : Below w.heap.size w w') : Drn w1 w' p a len cap := ⟨s.cur.kept hb, s.kp.trans (Kept.of_below hb), s.pN⟩
theorem Drn.grow {w1 w w' : World} {p : Nat} {a : Option Addr} {len cap : Nat} {r : Option Nat} (s : Drn w1 w p a len cap) (hg : w.grownBy w' r) (hge : ∀ j, r = some j → w1.heap.size ≤ j) : Drn w1 w' p a len cap := by
  have hk : Kept p w1 w' := ⟨hg.os.trans s.kp.os, hg.tape.trans s.kp.tape, hg.output.trans s.kp.output, Nat.le_trans s.kp.size hg.size, fun k hk hp => (hg.block k (Nat.lt_of_lt_of_le hk s.kp.size) (fun e => by have := hge k e.symm; omega)).trans (s.kp.block k hk hp)⟩
  obtain ⟨i, hh, hi, hc, hr⟩ := s.cur
  have hpl : p < w.heap.size := s.cur.lt
  have hc' : w'.heap[p]? = w.heap[p]? := hg.block p hpl (fun e => by have := hge p e.symm; have := s.pN; omega)
  refine ⟨⟨i, hh, hi, hc'.trans hc, ?_⟩, hk, s.pN⟩
  refine ⟨hr.1, hr.2.imp id ?_⟩
  rintro ⟨b, off, e, hb, hcell⟩
  refine ⟨b, off, e, hb, fun j hj => ?_⟩
  obtain ⟨x, h0, h2, h3⟩ := hcell j hj
  refine ⟨x, h0, h2, ?_⟩
  rw [World.cell?_of_block (w := w) (hg.block b (by omega) (fun e => by have := hge b e.symm; have := s.pN; omega))]
  exact h3
theorem grownSet (w : World) (g i : Nat) (v : Value) : w.grownBy (w.setCell ⟨g, i, none⟩ v) (some g) :=
  ⟨rfl, rfl, rfl, by simp [World.setCell], fun k _ hk => Below.heap_setCell _ _ _ _ (fun e => hk (by rw [e]))⟩
/-- A list of numbers of its own, not nil. -/
structure Lst (w : World) (B : Nat) (v : Value) (l : List Int) : Prop where
  own : w.ownsRow B 2 1 v l.length (lCells l)
  nn : v ≠ .slice none 0 0
theorem Lst.open {w : World} {B : Nat} {v : Value} {l : List Int} (s : Lst w B v l) : ∃ g c cur, v = .slice (some ⟨g, 0, none⟩) l.length c ∧ B ≤ g ∧ At 2 w g cur ∧ l.length ≤ c ∧ c ≤ maxLen ∧ cur.size = c ∧ cur.toList.take l.length = lCells l := by
  rcases s.own.2 with ⟨e, _⟩ | ⟨g, c, cur, e, hb, hh, hc1, hc2, hsz, ht⟩
  · exact absurd e s.nn
  · exact ⟨g, c, cur, e, hb, hh, hc1, hc2, by omega, by simpa using ht⟩
theorem Lst.draw {w w' : World} {B p : Nat} {v : Value} {l : List Int} (s : Lst w B v l) (h : Kept p w w') (hp : p < B) : Lst w' B v l := ⟨own_keptS s.own h hp, s.nn⟩
theorem Lst.below {w w' : World} {B : Nat} {v : Value} {l : List Int} (s : Lst w B v l) (hb : Below w.heap.size w w') : Lst w' B v l := ⟨own_bel s.own hb, s.nn⟩
theorem Lst.keep {w w' : World} {B : Nat} {v : Value} {l : List Int} {r : Option Nat} (s : Lst w B v l) (hb : w.grownBy w' r) (hr : v.ownBlock ≠ r) : Lst w' B v l := by
  obtain ⟨g, c, cur, rfl, h1, hh, q⟩ := s.open
  refine ⟨⟨by simp [lCells], .inr ⟨g, c, cur, rfl, h1, (hb.block g hh.lt (fun e => hr e)).trans hh, q.1, q.2.1, by omega, by simpa using q.2.2.2⟩⟩, s.nn⟩
theorem Lst.ge {w : World} {B : Nat} {v : Value} {l : List Int} (s : Lst w B v l) {j : Nat} (hj : v.ownBlock = some j) : B ≤ j ∧ j < w.heap.size := own_ge s.own hj
theorem Lst.ne {w : World} {B : Nat} {v : Value} {l : List Int} {t : TypeId} {q : Nat} {vs : Array Value} (s : Lst w B v l) (ha : At t w q vs) (ht : t ≠ 2) : v.ownBlock ≠ some q := by
  obtain ⟨g, c, cur, rfl, h1, hh, -⟩ := s.open
  intro e
  obtain rfl : g = q := by simpa [Value.ownBlock] using e
  have e2 := ha.symm.trans hh
  simp only [Option.some.injEq, Obj.cells.injEq] at e2
  exact ht e2.2.1
theorem Lst.grown {w w' : World} {B : Nat} {v v' : Value} {l : List Int} {x : Int} (_s : Lst w B v l) (h1 : w'.ownsRow B 2 1 v' (l.length + 1) (lCells l ++ lCells [x])) (h2 : v' = .slice none 0 0 ↔ v = .slice none 0 0 ∧ 1 = 0) : Lst w' B v' (l ++ [x]) :=
  ⟨by rw [lCells, List.map_append, List.length_append]; exact h1, fun e => absurd (h2.1 e).2 (by decide)⟩
theorem Lst.start {w : World} {B g : Nat} (h : At 2 w g #[]) (hB : B ≤ g) : Lst w B (.slice (some ⟨g, 0, none⟩) 0 0) [] :=
  ⟨⟨rfl, .inr ⟨g, 0, #[], rfl, hB, h, Nat.le_refl _, Nat.zero_le _, rfl, rfl⟩⟩, nn_someS _ _ _⟩
theorem Lst.one {w : World} {B g : Nat} {x : Int} (h : At 2 w g #[.int .i64 x]) (hB : B ≤ g) : Lst w B (.slice (some ⟨g, 0, none⟩) 1 1) [x] :=
  ⟨⟨rfl, .inr ⟨g, 1, _, rfl, hB, h, Nat.le_refl _, by unfold maxLen; omega, rfl, rfl⟩⟩, nn_someS _ _ _⟩
theorem Lst.src {w : World} {B : Nat} {v : Value} {l : List Int} (s : Lst w B v l) : ∃ g c, v = .slice (some ⟨g, 0, none⟩) l.length c ∧ g < w.heap.size ∧ Src w (some ⟨g, 0, none⟩) l.length (fun i => l.getD i 0) := by
  obtain ⟨g, c, cur, rfl, h1, hh, hc1, hc2, hsz, ht⟩ := s.open
  refine ⟨g, c, rfl, hh.lt, .inr ⟨g, 0, rfl, hh.lt, fun i hi => ?_⟩⟩
  have a1 : (lCells l)[i]? = some (.int .i64 (l.getD i 0)) := by simp [lCells, hi]
  rw [← ht, List.getElem?_take_of_lt hi] at a1
  rw [Nat.zero_add]
  exact hh.cell i (by simpa using a1)
def vCells (V : Nat → Value) (m : Nat) : List Value := (List.range m).map V
theorem vCells_put (V : Nat → Value) (m : Nat) (u : Value) : vCells (upd V m u) (m + 1) = vCells V m ++ [u] := by
  unfold vCells
  rw [List.range_succ, List.map_append]
  congr 1
  · refine List.map_congr_left (fun i hi => ?_)
    have : i < m := by simpa using hi
    exact upd_o _ _ (by omega)
  · simp [upd_at]
theorem vCells_at (V : Nat → Value) {m i : Nat} (h : i < m) : (vCells V m)[i]? = some (V i) := by simp [vCells, h]
/-- A list of lists of its own; all blocks apart. -/
structure LL (bd : Nat) (w : World) (B : Nat) (v : Value) (m : Nat) (V : Nat → Value) : Prop where
  row : w.ownsRow B 25 1 v m (vCells V m)
  nn : v ≠ .slice none 0 0
  each : ∀ i, i < m → ∃ z : List Int, Lst w B (V i) z ∧ z.length ≤ bd
  dis : ∀ i j, i < m → j < m → (V i).ownBlock = (V j).ownBlock → i = j
theorem LL.open {bd : Nat} {w : World} {B : Nat} {v : Value} {m : Nat} {V : Nat → Value} (s : LL bd w B v m V) : ∃ g c cur, v = .slice (some ⟨g, 0, none⟩) m c ∧ B ≤ g ∧ At 25 w g cur ∧ m ≤ c ∧ c ≤ maxLen ∧ cur.size = c ∧ cur.toList.take m = vCells V m := by
  rcases s.row.2 with ⟨e, _⟩ | ⟨g, c, cur, e, hb, hh, hc1, hc2, hsz, ht⟩
  · exact absurd e s.nn
  · exact ⟨g, c, cur, e, hb, hh, hc1, hc2, by omega, by simpa using ht⟩
theorem LL.draw {bd : Nat} {w w' : World} {B p : Nat} {v : Value} {m : Nat} {V : Nat → Value} (s : LL bd w B v m V) (h : Kept p w w') (hp : p < B) : LL bd w' B v m V :=
  ⟨own_keptS s.row h hp, s.nn, fun i hi => by obtain ⟨z, h1, h2⟩ := s.each i hi; exact ⟨z, h1.draw h hp, h2⟩, s.dis⟩
theorem LL.below {bd : Nat} {w w' : World} {B : Nat} {v : Value} {m : Nat} {V : Nat → Value} (s : LL bd w B v m V) (hb : Below w.heap.size w w') : LL bd w' B v m V :=
  ⟨own_bel s.row hb, s.nn, fun i hi => by obtain ⟨z, h1, h2⟩ := s.each i hi; exact ⟨z, h1.below hb, h2⟩, s.dis⟩
theorem LL.ge {bd : Nat} {w : World} {B : Nat} {v : Value} {m : Nat} {V : Nat → Value} (s : LL bd w B v m V) {j : Nat} (hj : v.ownBlock = some j) : B ≤ j ∧ j < w.heap.size := own_ge s.row hj
/-- The lists' blocks are none of a list of lists. -/
theorem LL.inNe {bd : Nat} {w : World} {B : Nat} {v : Value} {m : Nat} {V : Nat → Value} (s : LL bd w B v m V) {u : Value} {z : List Int} (h : Lst w B u z) : u.ownBlock ≠ v.ownBlock := by
  obtain ⟨g, c, cur, rfl, h1, hh, -⟩ := s.open
  exact h.ne hh (by decide)
/-- Another block turns. -/
theorem LL.keep {bd : Nat} {w w' : World} {B : Nat} {v : Value} {m : Nat} {V : Nat → Value} {r : Option Nat} (s : LL bd w B v m V) (hb : w.grownBy w' r) (hr : v.ownBlock ≠ r) (hi : ∀ i, i < m → (V i).ownBlock ≠ r) : LL bd w' B v m V := by
  obtain ⟨g, c, cur, rfl, h1, hh, q⟩ := s.open
  refine ⟨⟨s.row.1, .inr ⟨g, c, cur, rfl, h1, (hb.block g hh.lt (fun e => hr e)).trans hh, q.1, q.2.1, by omega, by simpa using q.2.2.2⟩⟩, s.nn, fun i h => ?_, s.dis⟩
  obtain ⟨z, k1, k2⟩ := s.each i h
  exact ⟨z, k1.keep hb (hi i h), k2⟩
/-- One more list. -/
theorem LL.push {bd : Nat} {w w' : World} {B : Nat} {v v' : Value} {m : Nat} {V : Nat → Value} {u : Value} {z : List Int} (s : LL bd w B v m V) (hu : Lst w B u z) (hz : z.length ≤ bd) (hne : ∀ i, i < m → (V i).ownBlock ≠ u.ownBlock) (h1 : w'.ownsRow B 25 1 v' (m + 1) (vCells V m ++ [u])) (hg : w.grownBy w' v.ownBlock) (h2 : v' = .slice none 0 0 ↔ v = .slice none 0 0 ∧ 1 = 0) : LL bd w' B v' (m + 1) (upd V m u) := by
  refine ⟨by rw [vCells_put]; exact h1, fun e => absurd (h2.1 e).2 (by decide), fun i hi => ?_, fun i j hi hj e => ?_⟩
  · by_cases e : i = m
    · subst e
      rw [upd_at]
      exact ⟨z, hu.keep hg (s.inNe hu), hz⟩
    · rw [upd_o _ _ e]
      obtain ⟨y, k1, k2⟩ := s.each i (by omega)
      exact ⟨y, k1.keep hg (s.inNe k1), k2⟩
  · by_cases e1 : i = m
    · by_cases e2 : j = m
      · omega
      · rw [e1, upd_at, upd_o _ _ e2] at e
        exact absurd e.symm (hne j (by omega))
    · by_cases e2 : j = m
      · rw [e2, upd_at, upd_o _ _ e1] at e
        exact absurd e (hne i (by omega))
      · rw [upd_o _ _ e1, upd_o _ _ e2] at e
        exact s.dis i j (by omega) (by omega) e
/-- The first list is written over by one that has grown from it. -/
theorem LL.first {bd : Nat} {w w' : World} {B g c m : Nat} {V : Nat → Value} {u : Value} {z : List Int} (s : LL bd w B (.slice (some ⟨g, 0, none⟩) m c) m V) (hm : 0 < m) (hg : w.grownBy w' (V 0).ownBlock) (hu : Lst w' B u z) (hz : z.length ≤ bd + 1) (hat : u.ownBlock = (V 0).ownBlock ∨ u.ownBlock = some w.heap.size) : LL (bd + 1) (w'.setCell ⟨g, 0, none⟩ u) B (.slice (some ⟨g, 0, none⟩) m c) m (upd V 0 u) := by
  obtain ⟨z0, k0, -⟩ := s.each 0 hm
  have hne := s.inNe k0
  obtain ⟨g', c', cur, e, h1, hh, q1, q2, q3, q4⟩ := s.open
  cases e
  have hh' : At 25 w' g cur := (hg.block g hh.lt (fun e => hne e.symm)).trans hh
  have lt : ∀ i, i < m → ∀ j, (V i).ownBlock = some j → j < w.heap.size := fun i hi j hj => by
    obtain ⟨y, k1, -⟩ := s.each i hi
    exact (k1.ge hj).2
  have apart : ∀ i, 0 < i → i < m → (V i).ownBlock ≠ u.ownBlock := fun i h0 hi e => by
    rcases hat with h | h
    · have := s.dis i 0 hi hm (e.trans h); omega
    · have := lt i hi _ (e.trans h); omega
  have own : ∀ i, i < m → ∃ j, (V i).ownBlock = some j := fun i hi => by
    obtain ⟨y, k1, -⟩ := s.each i hi
    obtain ⟨g1, c1, cur1, e1, -⟩ := k1.open
    exact ⟨g1, by rw [e1]; rfl⟩
  refine ⟨⟨by simp [vCells], .inr ⟨g, c, _, rfl, h1, hh'.set 0 u, q1, q2, by simp [q3], ?_⟩⟩, s.nn, fun i hi => ?_, fun i j hi hj e => ?_⟩
  · apply List.ext_getElem?
    intro i
    by_cases hi : i < m
    · rw [List.getElem?_take_of_lt (by omega), vCells_at _ hi, Array.getElem?_toList, Array.getElem?_setIfInBounds]
      by_cases e : i = 0
      · subst e
        rw [if_pos rfl, if_pos (by omega), upd_at]
      · rw [if_neg (by omega), upd_o _ _ e]
        have := vCells_at V hi
        rw [← q4, List.getElem?_take_of_lt hi, Array.getElem?_toList] at this
        exact this
    · rw [List.getElem?_eq_none (by simp; omega), List.getElem?_eq_none (by simp [vCells]; omega)]
  · have hset := grownSet w' g 0 u
    by_cases e : i = 0
    · subst e
      rw [upd_at]
      exact ⟨z, hu.keep hset (hu.ne hh' (by decide)), hz⟩
    · rw [upd_o _ _ e]
      obtain ⟨y, k1, k2⟩ := s.each i hi
      have k3 := k1.keep hg (fun e2 => e (s.dis i 0 hi hm e2))
      exact ⟨y, k3.keep hset (k3.ne hh' (by decide)), by omega⟩
  · by_cases e1 : i = 0
    · by_cases e2 : j = 0
      · omega
      · rw [e1, upd_at, upd_o _ _ e2] at e
        exact absurd e.symm (apart j (by omega) hj)
    · by_cases e2 : j = 0
      · rw [e2, upd_at, upd_o _ _ e1] at e
        exact absurd e (apart i (by omega) hi)
      · rw [upd_o _ _ e1, upd_o _ _ e2] at e
        exact s.dis i j hi hj e
/-- As it is read. -/
theorem LL.lli {bd : Nat} {w : World} {B : Nat} {v : Value} {m : Nat} {V : Nat → Value} (s : LL bd w B v m V) : ∃ g cp a c n f, v = .slice (some ⟨g, 0, none⟩) m cp ∧ Lli w g 0 m a c n f ∧ (∀ i, i < m → n i ≤ bd) := by
  obtain ⟨g, cp, cur, rfl, h1, hh, q1, q2, q3, q4⟩ := s.open
  have ex : ∀ i, ∃ (ad : Option Addr) (c n : Nat) (f : Nat → Int), i < m → (V i = .slice ad n c ∧ Src w ad n f ∧ n ≤ bd) := fun i => by
    by_cases hi : i < m
    · obtain ⟨z, k1, k2⟩ := s.each i hi
      obtain ⟨g1, c1, e1, -, hs⟩ := k1.src
      exact ⟨_, _, _, _, fun _ => ⟨e1, hs, k2⟩⟩
    · exact ⟨none, 0, 0, fun _ => 0, fun h => absurd h hi⟩
  refine ⟨g, cp, fun i => Classical.choose (ex i), fun i => Classical.choose (Classical.choose_spec (ex i)), fun i => Classical.choose (Classical.choose_spec (Classical.choose_spec (ex i))), fun i => Classical.choose (Classical.choose_spec (Classical.choose_spec (Classical.choose_spec (ex i)))), rfl, ⟨hh.lt, fun i hi => ?_, fun i hi => ?_⟩, fun i hi => ?_⟩
  · have h2 := Classical.choose_spec (Classical.choose_spec (Classical.choose_spec (Classical.choose_spec (ex i)))) hi
    have h3 := vCells_at V hi
    rw [← q4, List.getElem?_take_of_lt hi, Array.getElem?_toList] at h3
    rw [Nat.zero_add, hh.cell i h3, ← h2.1]
  · exact (Classical.choose_spec (Classical.choose_spec (Classical.choose_spec (Classical.choose_spec (ex i)))) hi).2.1
  · exact (Classical.choose_spec (Classical.choose_spec (Classical.choose_spec (Classical.choose_spec (ex i)))) hi).2.2
theorem LL.up {bd : Nat} {w : World} {B : Nat} {v : Value} {m : Nat} {V : Nat → Value} (s : LL bd w B v m V) : LL (bd + 1) w B v m V := ⟨s.row, s.nn, fun i hi => by obtain ⟨z, h1, h2⟩ := s.each i hi; exact ⟨z, h1, by omega⟩, s.dis⟩
end Go.Proofs.Ytcpeaenophaphaa
