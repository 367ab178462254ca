/-
  Corners, by the program: walked.
-/
import Derived.Test.YtealbihplfpgeaaKk
namespace Go.Proofs.Ytealbihplfpgeaa
open Go.RowKit Go.Shelf Go.Sort Go.Lib

theorem turningFrom_any (a b c : Int) (w : World) : Calls Try.prog 38 #[fV a b c] w fun e w' => e = .returned (.func (.func 68) #[] #[.pointer (some ⟨w.heap.size, 0, none⟩)]) ∧ w' = w.alloc (.cells #[.int .i64 a, .int .i64 b, .int .i64 c] 33) := by
  go_enter Try.func38, Try.ntmps38
  go_wp2
  go_ret
  exact ⟨rfl, rfl⟩
/-- The corners of pairs, as triples. -/
def d3 (f : Nat → Int) (l : List (Nat × Nat)) : Array T3 := (l.map fun p => (gX f p, gY f p, gD f p)).toArray
theorem d3_size (f : Nat → Int) (l : List (Nat × Nat)) : (d3 f l).size = l.length := by simp [d3]
theorem d3_get (f : Nat → Int) (l : List (Nat × Nat)) {j : Nat} (hj : j < l.length) : (d3 f l)[j]! = (gX f l[j], gY f l[j], gD f l[j]) := by
  rw [getElem!_pos _ j (by rw [d3_size]; exact hj)]
  simp [d3]
theorem Gat.c3 {w0 w : World} {B g c m : Nat} {f : Nat → Int} {l : List (Nat × Nat)} (s : Gat w0 w B 33 3 (.slice (some ⟨g, 0, none⟩) m c) m (tris f l)) : C3 w g c (d3 f l) ∧ l.length = m ∧ m ≤ c ∧ B ≤ g := by
  have hl := s.len
  rw [tris_len] at hl
  rcases s.own.2 with ⟨e, _⟩ | ⟨g', c', cur, e, hb, hh, hc1, hc2, hsz, ht⟩
  · cases e
  · cases e
    refine ⟨⟨cur, hh, by omega, fun i hi => ?_⟩, by omega, hc1, hb⟩
    rw [d3_size] at hi
    obtain ⟨e0, e1, e2⟩ := tris_get f l i hi
    have a1 : ∀ t, t < m * 3 → cur[t]? = some (.int .i64 ((tris f l).getD t 0)) := fun t ht' => by
      have h1 : (lCells (tris f l))[t]? = some (.int .i64 ((tris f l).getD t 0)) := by
        have hi' : t < (tris f l).length := by rw [tris_len]; omega
        simp [lCells, hi']
      rw [← ht, List.getElem?_take_of_lt (by omega)] at h1
      simpa using h1
    rw [a1 _ (by omega), a1 _ (by omega), a1 _ (by omega), e0, e1, e2, d3_get f l hi]
    exact ⟨rfl, rfl, rfl⟩
theorem Gat.cap {w0 w : World} {B g c m : Nat} {t : TypeId} {e : Nat} {l : List Int} (s : Gat w0 w B t e (.slice (some ⟨g, 0, none⟩) m c) m l) : c ≤ maxLen := by
  rcases s.own.2 with ⟨e, _⟩ | ⟨g', c', cur, e, hb, hh, hc1, hc2, hsz, ht⟩
  · cases e
  · cases e
    exact hc2
/-- Of the corners o is the least by x, then by y. -/
def LeastC (f : Nat → Int) (n : Nat) (o : Nat × Nat) : Prop := ∀ p ∈ allP f n n, ¬ (gX f p * gD f o < gX f o * gD f p ∨ (gX f p * gD f o = gX f o * gD f p ∧ gY f p * gD f o < gY f o * gD f p))
/-- What Corners tells of a shape. -/
def ImplC (f : Nat → Int) (n : Nat) (w w' : World) (e : Ending) : Prop := ∃ (l : List (Nat × Nat)) (o : Nat × Nat) (g c : Nat), l.Perm (allP f n n) ∧ o ∈ allP f n n ∧ Seen f o l ∧ LeastC f n o ∧ e = .returned (.slice (some ⟨g, 0, none⟩) (compactUpTo (d3 f l) (d3 f l).size).length c) ∧ C3 w' g c (compactUpTo (d3 f l) (d3 f l).size).toArray ∧ Below w.heap.size w w' ∧ w.heap.size ≤ g ∧ l.length ≤ c ∧ c ≤ maxLen
set_option maxRecDepth 100000 in
set_option maxHeartbeats 4000000 in
theorem implCorners_yes {w : World} {g n c : Nat} {f : Nat → Int} (S : SOk n f) (h : Trips w g n f) (hc : n ≤ c) :
    Calls Try.prog 13 #[.slice (some ⟨g, 0, none⟩) n c] w fun e w' => ImplC f n w w' e := by
  have hn := S.hi
  have hall : (allP f n n).length ≤ 1600 := by
    have h1 := allP_le (f := f) (n := n) n
    have h2 := Nat.mul_le_mul hn hn
    omega
  have hsome : 0 < (allP f n n).length := by
    obtain ⟨a, ha, sh⟩ := shape_some S
    have q := S.nxtIs ha
    exact List.length_pos_of_mem (mem_allP.2 (⟨ha, q.1, S.vx ha sh q.1 q.2⟩ : ((a, nxt f n a) : Nat × Nat).1 < n ∧ ((a, nxt f n a) : Nat × Nat).2 < n ∧ Vx f n ((a, nxt f n a) : Nat × Nat).1 ((a, nxt f n a) : Nat × Nat).2))
  go_enter Try.func13, Try.ntmps13
  go_wp2_with fail
  refine (implShape_any h hc (by omega) true ⟨fun _ => S, fun _ => rfl⟩).mono ?_
  rintro e w1 ⟨rfl, b1⟩
  go_wp2_with fail
  refine (crossings_any S (h.below b1)).mono ?_
  rintro e w2 ⟨v, rfl, G⟩
  obtain ⟨go, co, fo, rfl, hco, hlen, T, hfo⟩ := G.corners
  obtain ⟨m, hm⟩ : ∃ m, (allP f n n).length = m := ⟨_, rfl⟩
  rw [hm] at hall hsome T hco G ⊢
  have bnd : ∀ j, j < m → (-100000 ≤ fo (j * 3) ∧ fo (j * 3) ≤ 100000) ∧ (-100000 ≤ fo (j * 3 + 1) ∧ fo (j * 3 + 1) ≤ 100000) ∧ (0 < fo (j * 3 + 2) ∧ fo (j * 3 + 2) ≤ 5000) := fun j hj => by
    obtain ⟨e1, e2, e3⟩ := hfo j (by omega)
    have q := mem_allP.1 (List.getElem_mem (h := by omega) : (allP f n n)[j]'(by omega) ∈ allP f n n)
    have q1 := S.c_in q.1 q.2.1 q.2.2.1
    have q2 := vD_pos q.2.2.1
    rw [e1, e2, e3]
    exact ⟨q1.1, q1.2.1, q2, q1.2.2.2⟩
  go_wp2_with fail
  refine (minF_any T hsome hall bnd).mono ?_
  rintro e w3 ⟨⟨r, rfl, hL⟩, b3⟩
  have G3 := G.below b3
  obtain ⟨o, ho1, ho2⟩ : ∃ o, o ∈ allP f n n ∧ (fo (r * 3) = gX f o ∧ fo (r * 3 + 1) = gY f o ∧ fo (r * 3 + 2) = gD f o) := ⟨(allP f n n)[r]'(by have := hL.1; omega), List.getElem_mem _, hfo r (by have := hL.1; omega)⟩
  have hLC : LeastC f n o := fun p hp => by
    obtain ⟨j, hj, rfl⟩ := List.mem_iff_getElem.1 hp
    have := hL.2 j (by omega)
    rw [cC_lt] at this
    obtain ⟨e1, e2, e3⟩ := hfo j hj
    rw [e1, e2, e3, ho2.1, ho2.2.1, ho2.2.2] at this
    exact this
  rw [ho2.1, ho2.2.1, ho2.2.2]
  go_wp2_with fail
  refine (turningFrom_any _ _ _ _).mono ?_
  rintro e w4 ⟨rfl, hw4⟩
  obtain ⟨V, hV, A0, B4, -⟩ := boxed w3 33 #[.int .i64 (gX f o), .int .i64 (gY f o), .int .i64 (gD f o)]
  rw [hV] at hw4
  subst hw4
  have G4 := G3.below B4
  have gl : go < w3.heap.size := Nat.lt_of_lt_of_le T.1 b3.size
  go_wp2_with fail
  refine (sort_gat S ho1 G4 (fun p hp => hp) hall A0 (by omega)).mono ?_
  rintro e w5 ⟨rfl, l, hp, hs, G5, -⟩
  obtain ⟨C5, hl5, hmc, hgo⟩ := G5.c3
  have K := compact_any (B := w1.heap.size) C5 (by rw [d3_size]; omega) (by rw [d3_size]; omega) hgo
  rw [d3_size, hl5] at K
  go_wp2_with fail
  refine K.mono ?_
  rintro e w6 ⟨rfl, C6, b6⟩
  go_wp2_with fail
  go_ret
  rw [d3_size, hl5] at C6
  refine ⟨l, o, go, co, hp, ho1, hs, hLC, by rw [d3_size, hl5]; rfl, by rw [d3_size, hl5]; exact C6, b1.trans ((G5.b.trans b6).mono b1.size), Nat.le_trans b1.size hgo, by omega, G5.cap⟩
end Go.Proofs.Ytealbihplfpgeaa
