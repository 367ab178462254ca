/-
  The iterator over a point's deeds: walked.
-/
import Derived.Test.YtgjhbkpocbihbaaGreatNE
import Derived.RangeFuncFrom
import Derived.RangeFuncBound
import Derived.TacticsInMore
import Derived.LoopNIn
import Derived.LoopIn
import Derived.Test.YtgjhbkpocbihbaaGreatQd
import Derived.Test.YtgjhbkpocbihbaaGreatMH
import Derived.Test.YtgjhbkpocbihbaaGreatMN
namespace Go.Proofs.YtgjhbkpocbihbaaGreat
open Go.RowKit Go.Shelf

/-- The first t numbers below n. -/
def upl (n : Nat) : Nat → List { x : Nat // x < n }
  | 0 => []
  | t + 1 => if h : t < n then upl n t ++ [⟨t, h⟩] else upl n t
theorem upl_next {n t : Nat} (h : t < n) : upl n (t + 1) = upl n t ++ [⟨t, h⟩] := by
  conv => lhs; unfold upl
  rw [dif_pos h]
theorem upl_len (n : Nat) : ∀ t, t ≤ n → (upl n t).length = t
  | 0, _ => rfl
  | t + 1, h => by
    rw [upl_next (show t < n by omega), List.length_append, upl_len n t (by omega)]
    rfl
theorem upl_map {α : Type} (n : Nat) (P : Nat → α) : ∀ t, t ≤ n → (upl n t).map (fun y => P y.1) = (List.range t).map P
  | 0, _ => rfl
  | t + 1, h => by
    rw [upl_next (show t < n by omega), List.map_append, upl_map n P t (by omega), List.range_succ, List.map_append]
    rfl
theorem pointsFrom_any (x : T3) (gd n cd : Nat) (w : World) : Calls Tryz.prog 36 #[tV x, .slice (some ⟨gd, 0, none⟩) n cd] w fun e w' => e = .returned (.func (.func 64) #[] #[.pointer (some ⟨w.heap.size + 1, 0, none⟩), .pointer (some ⟨w.heap.size, 0, none⟩)]) ∧ w' = (w.alloc (.cells #[.int .i64 x.1, .int .i64 x.2.1, .int .i64 x.2.2] 64)).alloc (.cells #[.slice (some ⟨gd, 0, none⟩) n cd] 56) := by
  go_enter Tryz.func36, Tryz.ntmps36
  go_wp2
  go_ret
  exact ⟨rfl, rfl⟩
/-- What the iterator reads. -/
structure PtsAt (W : World) (B g0 bd bp gd n cd : Nat) (Q : Nat → Nat) (K : Nat → Nat → Int) (x : T3) : Prop where
  dc : W.cell? ⟨bd, 0, none⟩ = some (.slice (some ⟨gd, 0, none⟩) n cd)
  pc : At 64 W bp #[.int .i64 x.1, .int .i64 x.2.1, .int .i64 x.2.2]
  dl : ∀ i, i < n → W.cell? ⟨gd, i, none⟩ = some (dV (Q i))
  bx : ∀ i, i < n → At 101 W (Q i) (opA (K i) (kh (K i)))
  lt : bd < B ∧ bp < B ∧ gd < B ∧ bd ≠ g0 ∧ bp ≠ g0 ∧ gd ≠ g0 ∧ B ≤ W.heap.size
  lq : ∀ i, i < n → Q i < B ∧ Q i ≠ g0
theorem PtsAt.kp {W W' : World} {B g0 bd bp gd n cd : Nat} {Q : Nat → Nat} {K : Nat → Nat → Int} {x : T3} (h : PtsAt W B g0 bd bp gd n cd Q K x) (hk : KpB B g0 W W') (hs : B ≤ W'.heap.size) : PtsAt W' B g0 bd bp gd n cd Q K x := by
  obtain ⟨l1, l2, l3, n1, n2, n3, -⟩ := h.lt
  exact ⟨(World.cell?_of_block (hk.2 bd l1 n1)).trans h.dc, (hk.2 bp l2 n2).trans h.pc, fun i hi => (World.cell?_of_block (hk.2 gd l3 n3)).trans (h.dl i hi), fun i hi => (hk.2 _ (h.lq i hi).1 (h.lq i hi).2).trans (h.bx i hi), ⟨l1, l2, l3, n1, n2, n3, hs⟩, h.lq⟩
theorem PtsAt.below {W W' : World} {B g0 bd bp gd n cd : Nat} {Q : Nat → Nat} {K : Nat → Nat → Int} {x : T3} (h : PtsAt W B g0 bd bp gd n cd Q K x) (hb : Below W.heap.size W W') : PtsAt W' B g0 bd bp gd n cd Q K x := by
  have h7 := h.lt.2.2.2.2.2.2
  exact h.kp ⟨hb.size, fun k h1 _ => hb.block k (by omega)⟩ (Nat.le_trans h7 hb.size)
/-- A point's numbers. -/
def tO (v : Nat → Int) : T3 := (v 0, v 1, v 2)
set_option maxRecDepth 100000 in
set_option maxHeartbeats 2000000 in
theorem points_stops (n0 : Nat) {w : World} {g0 bd bp gd n cd : Nat} {Q : Nat → Nat} {K : Nat → Nat → Int} {x : T3} (h : PtsAt w w.heap.size g0 bd bp gd n cd Q K x) (hn : n ≤ 192) (hR : ∀ i, i < n → isR (K i) (kh (K i))) (hp : inP x.1 x.2.1 x.2.2) (P : Nat → T3) (hP : ∀ i, i < n → P i = tO (actV (K i) (kh (K i)) (p3 x.1 x.2.1 x.2.2))) :
    SeqStopsK (α := { x : Nat // x < n }) Fence.wide n0 Tryz.prog 64 #[.pointer (some ⟨bd, 0, none⟩), .pointer (some ⟨bp, 0, none⟩)] (fun y => #[tV (P y.1)]) (KpB w.heap.size g0) (fun xs => xs = upl n n) (fun _ => True) n w := by
  intro l J Jx W bW hJ hJx hY h0
  have hwf : ∀ f, Fence.wide.fn f := fun _ => trivial
  have hwd : Fence.wide.depth.isSome = false := rfl
  have H := hid_of (h.below bW)
  clear h
  have hn' : (n : Int) ≤ 192 := by omega
  have zB := bW.size
  refine callsIn_of_wp Tryz.func64 rfl trivial ?_ rfl
  simp only [Tryz.ntmps64, List.size_toArray, List.length_cons, List.length_nil, Nat.reduceAdd, Nat.reduceSub, Array.replicate_succ, Array.replicate_zero, List.push_toArray, List.append_toArray, List.nil_append, List.cons_append]
  have c0 := H.out.dc
  gi_wp2
  clear c0
  gi_loopw [8] (fun u wr => ∃ t : Nat, t ≤ n ∧ u = .int .i64 (t : Int) ∧ Hid (PtsAt wr w.heap.size g0 bd bp gd n cd Q K x) ∧ J (upl n t) wr ∧ W.heap.size ≤ wr.heap.size) (fun u _ => n - (intOf u).toNat)
  case atStart => exact ⟨0, Nat.zero_le _, rfl, H, h0, Nat.le_refl _⟩
  case round =>
    clear H h0
    obtain ⟨t, ht, rfl, H, hj, zW⟩ := hrel
    by_cases htn : t < n
    · have htn' : (t : Int) < (n : Int) := by omega
      have dc := H.out.dl t htn
      obtain ⟨p0, p1, p2, -⟩ := H.out.pc.open3
      unfold dV at dc
      have CL := deed1_any (hR t htn) hp (H.out.bx t htn)
      have HPt := hP t htn
      unfold tO at HPt
      unfold vA at CL
      obtain ⟨qt, hqt⟩ : ∃ q, Q t = q := ⟨_, rfl⟩
      rw [hqt] at dc CL
      generalize actV (K t) (kh (K t)) (p3 x.1 x.2.1 x.2.2) 0 = s0 at CL HPt
      generalize actV (K t) (kh (K t)) (p3 x.1 x.2.1 x.2.2) 1 = s1 at CL HPt
      generalize actV (K t) (kh (K t)) (p3 x.1 x.2.1 x.2.2) 2 = s2 at CL HPt
      have HPH := hid_of HPt
      clear HPt hqt
      unfold pV at CL
      gi_wp2_with fail
      refine (callsIn_wide.2 CL).mono ?_
      rintro e w2 ⟨rfl, bb⟩
      have H2 := hid_of (H.out.below bb)
      have J2 := hJ _ wr w2 none hj ⟨bb.os, bb.tape, bb.output, bb.size, fun k hk _ => bb.block k hk⟩ (fun r e => by cases e)
      have z2 := Nat.le_trans zW bb.size
      obtain ⟨fn, tmps, assign, body, hy, hRd⟩ := hY (upl n t) ⟨t, htn⟩ w2 J2 (by rw [upl_len n t ht]; exact htn)
      try dsimp only at hy
      rw [HPH.out] at hy
      try dsimp only at hy
      have HN := hid_of (upl_next htn)
      clear CL p0 p1 p2 dc hj bb H
      gi_wp2
      refine hRd.mono ?_
      rintro e W3 (⟨rfl, hJ3, hk3⟩ | ⟨rfl, hJx3⟩)
      · have z3 : W.heap.size ≤ W3.heap.size := Nat.le_trans z2 hk3.1
        have H3 := hid_of (H2.out.kp hk3 (by omega))
        gi_wp2
        exact ⟨⟨t + 1, by omega, by go_num, H3, by rw [HN.out]; exact hJ3, z3⟩, by simp [intOf]; omega⟩
      · gi_wp2
        refine bodyPost_ret (results_none rfl _ _ _) rfl ?_
        exact ⟨⟨_, rfl⟩, .inr ⟨_, trivial, hJx3⟩⟩
    · obtain rfl : t = n := by omega
      have htn' : ¬ (t : Int) < (t : Int) := by omega
      gi_wp2
      go_end0
      exact ⟨⟨_, rfl⟩, .inl hj⟩
end Go.Proofs.YtgjhbkpocbihbaaGreat
/-
  The specification's orbit: walked.
-/
namespace Go.Proofs.YtgjhbkpocbihbaaGreat
open Go.RowKit

/-- Place t holds the triple x. -/
def H3 (cur : Array Value) (t : Nat) (x : T3) : Prop := cur[t * 3]? = some (.int .i64 x.1) ∧ cur[t * 3 + 1]? = some (.int .i64 x.2.1) ∧ cur[t * 3 + 2]? = some (.int .i64 x.2.2)
/-- A list of triples of one's own. -/
structure PtG (w : World) (lo : Nat) (v : Value) (m : Nat) (F : Nat → T3) : Prop where
  row : w.ownsRow lo 64 3 v m (iCells (fl3 F) (m * 3))
  nn : v ≠ .slice none 0 0
theorem PtG.below {w w' : World} {lo m : Nat} {v : Value} {F : Nat → T3} (h : PtG w lo v m F) (hb : Below w.heap.size w w') : PtG w' lo v m F := ⟨own_below h.row hb, h.nn⟩
theorem PtG.open {w : World} {lo m : Nat} {v : Value} {F : Nat → T3} (h : PtG w lo v m F) : ∃ g c cur, v = .slice (some ⟨g, 0, none⟩) m c ∧ lo ≤ g ∧ At 64 w g cur ∧ cur.size = c * 3 ∧ m ≤ c ∧ c ≤ maxLen ∧ ∀ t, t < m → H3 cur t (F t) := by
  obtain ⟨e0, h1 | ⟨g, c, cur, rfl, hb, hh, h3, h4, h5, h6⟩⟩ := h.row
  · exact absurd h1.1 h.nn
  · refine ⟨g, c, cur, rfl, hb, hh, h5, h3, h4, fun t ht => ?_⟩
    have get : ∀ j, j < m * 3 → cur[j]? = some (.int .i64 (fl3 F j)) := fun j hj => by
      have := congrArg (fun L => L[j]?) h6
      simp only [List.getElem?_take] at this
      rw [if_pos hj, iCells_at _ hj] at this
      simpa using this
    obtain ⟨f0, f1, f2⟩ := fl3_at F t
    exact ⟨by rw [get _ (by omega), f0], by rw [get _ (by omega), f1], by rw [get _ (by omega), f2]⟩
theorem h3_flat {cur : Array Value} {m : Nat} {F : Nat → T3} (h : ∀ t, t < m → H3 cur t (F t)) {j : Nat} (hj : j < m * 3) : cur[j]? = some (.int .i64 (fl3 F j)) := by
  obtain ⟨t, e⟩ : ∃ t, j = t * 3 ∨ j = t * 3 + 1 ∨ j = t * 3 + 2 := ⟨j / 3, by omega⟩
  obtain ⟨f0, f1, f2⟩ := fl3_at F t
  obtain ⟨h0, h1, h2⟩ := h t (by omega)
  rcases e with rfl | rfl | rfl
  · rw [h0, f0]
  · rw [h1, f1]
  · rw [h2, f2]
theorem ptG_of {w : World} {lo g m c : Nat} {cur : Array Value} {F : Nat → T3} (a : At 64 w g cur) (hs : cur.size = c * 3) (hm : m ≤ c) (hc : c ≤ maxLen) (hl : lo ≤ g) (h : ∀ t, t < m → H3 cur t (F t)) : PtG w lo (.slice (some ⟨g, 0, none⟩) m c) m F := by
  refine ⟨⟨iCells_len _ _, .inr ⟨g, c, cur, rfl, hl, a, hm, hc, hs, ?_⟩⟩, ne_nil _ _ _⟩
  refine iCells_ext (by simp; omega) (fun j hj => ?_)
  rw [List.getElem?_take_of_lt hj]
  simpa using h3_flat h hj
theorem PtG.laid {w : World} {lo m : Nat} {v : Value} {F : Nat → T3} (h : PtG w lo v m F) : ∃ g c, v = .slice (some ⟨g, 0, none⟩) m c ∧ lo ≤ g ∧ m ≤ c ∧ c ≤ maxLen ∧ LaidK 3 64 w g c m (fl3 F) := by
  obtain ⟨g, c, cur, e, hl, a, hs, hm, hc, hH⟩ := h.open
  exact ⟨g, c, e, hl, hm, hc, cur, a, hs, fun j hj => h3_flat hH hj⟩
theorem h3_cells {w : World} {g t : Nat} {cur : Array Value} {x : T3} (a : At 64 w g cur) (h : H3 cur t x) : w.cell? ⟨g, t * 3, none⟩ = some (.int .i64 x.1) ∧ w.cell? ⟨g, t * 3 + 1, none⟩ = some (.int .i64 x.2.1) ∧ w.cell? ⟨g, t * 3 + 2, none⟩ = some (.int .i64 x.2.2) := ⟨a.cell _ h.1, a.cell _ h.2.1, a.cell _ h.2.2⟩
/-- Three cells written. -/
def put3L (w : World) (g k : Nat) (x : T3) : World := ((w.setCell ⟨g, k * 3, none⟩ (.int .i64 x.1)).setCell ⟨g, k * 3 + 1, none⟩ (.int .i64 x.2.1)).setCell ⟨g, k * 3 + 2, none⟩ (.int .i64 x.2.2)
theorem put3L_at {w : World} {g k : Nat} {x : T3} {cur : Array Value} (a : At 64 w g cur) (hk : k * 3 + 3 ≤ cur.size) : ∃ cur', At 64 (put3L w g k x) g cur' ∧ cur'.size = cur.size ∧ H3 cur' k x ∧ ∀ t y, t ≠ k → H3 cur t y → H3 cur' t y := by
  refine ⟨_, ((a.set (k * 3) _).set (k * 3 + 1) _).set (k * 3 + 2) _, by simp, ?_, fun t y ht h => ?_⟩
  · refine ⟨?_, ?_, ?_⟩ <;> simp [Array.getElem?_setIfInBounds] <;> omega
  · obtain ⟨h0, h1, h2⟩ := h
    refine ⟨?_, ?_, ?_⟩
    · simp only [Array.getElem?_setIfInBounds]
      rw [if_neg (by omega), if_neg (by omega), if_neg (by omega)]; exact h0
    · simp only [Array.getElem?_setIfInBounds]
      rw [if_neg (by omega), if_neg (by omega), if_neg (by omega)]; exact h1
    · simp only [Array.getElem?_setIfInBounds]
      rw [if_neg (by omega), if_neg (by omega), if_neg (by omega)]; exact h2
theorem put3L_kept (w : World) (g k : Nat) (x : T3) : Kept g w (put3L w g k x) := (((Kept.refl g w).set _).set _).set _
/-- In the middle of the shift: those from i on have gone up by one. -/
def Shift3 (w : World) (g c n i : Nat) (F : Nat → T3) : Prop := ∃ cur : Array Value, At 64 w g cur ∧ cur.size = c * 3 ∧ (∀ t, t < i → H3 cur t (F t)) ∧ ∀ t, i < t → t ≤ n → H3 cur t (F (t - 1))
theorem Shift3.cells {w : World} {g c n i j : Nat} {F : Nat → T3} (h : Shift3 w g c n i F) (hj : j < c * 3) : w.cell? ⟨g, j, none⟩ = some (cv w g j) ∧ w.frozen? ⟨g, j, none⟩ = false := by
  obtain ⟨cur, a, hs, -⟩ := h
  have hl : j < cur.size := by omega
  have := a.cell j (Array.getElem?_eq_getElem hl)
  exact ⟨by rw [cv, this]; rfl, a.frozen j⟩
theorem Shift3.step {w : World} {g c n i k : Nat} {F : Nat → T3} (h : Shift3 w g c n k F) (hk : k = i + 1) (hi : i < n) (hc : n + 1 ≤ c) : Shift3 (put3L w g k (F i)) g c n i F := by
  obtain ⟨cur, a, hs, h1, h2⟩ := h
  obtain ⟨cur', a', s', e, o⟩ := put3L_at (k := k) (x := F i) a (by omega)
  refine ⟨cur', a', s'.trans hs, fun t ht => o t _ (by omega) (h1 t (by omega)), fun t h3 h4 => ?_⟩
  by_cases et : t = k
  · subst et
    rw [show t - 1 = i by omega]; exact e
  · exact o t _ et (h2 t (by omega) h4)
theorem Shift3.last {w : World} {lo g c n i : Nat} {F : Nat → T3} {x : T3} (h : Shift3 w g c n i F) (hi : i ≤ n) (hc : n + 1 ≤ c) (hcm : c ≤ maxLen) (hg : lo ≤ g) : PtG (put3L w g i x) lo (.slice (some ⟨g, 0, none⟩) (n + 1) c) (n + 1) (ins i F x) := by
  obtain ⟨cur, a, hs, h1, h2⟩ := h
  obtain ⟨cur', a', s', e, o⟩ := put3L_at (k := i) (x := x) a (by omega)
  refine ptG_of a' (s'.trans hs) hc hcm hg (fun t ht => ?_)
  rcases Nat.lt_trichotomy t i with e' | e' | e'
  · rw [ins_lo e']; exact o t _ (by omega) (h1 t e')
  · subst e'; rw [ins_at]; exact e
  · rw [ins_hi e']; exact o t _ (by omega) (h2 t e' (by omega))
theorem c3_less (x y : T3) : c3 x y < 0 ↔ x.1 < y.1 ∨ (x.1 = y.1 ∧ (x.2.1 < y.2.1 ∨ (x.2.1 = y.2.1 ∧ x.2.2 < y.2.2))) := by
  unfold c3
  rw [lexC_neg]
  constructor
  · rintro ⟨p, hp, h, d⟩
    rcases (by omega : p = 0 ∨ p = 1 ∨ p = 2) with rfl | rfl | rfl
    · exact .inl d
    · exact .inr ⟨h 0 (by omega), .inl d⟩
    · exact .inr ⟨h 0 (by omega), .inr ⟨h 1 (by omega), d⟩⟩
  · rintro (d | ⟨e0, d | ⟨e1, d⟩⟩)
    · exact ⟨0, by omega, fun j hj => by omega, d⟩
    · refine ⟨1, by omega, fun j hj => ?_, d⟩
      obtain rfl : j = 0 := by omega
      exact e0
    · refine ⟨2, by omega, fun j hj => ?_, d⟩
      rcases (by omega : j = 0 ∨ j = 1) with rfl | rfl
      · exact e0
      · exact e1
set_option maxRecDepth 100000 in
set_option maxHeartbeats 1000000 in
theorem less_any (x y : T3) (w : World) (b : Bool) (hb : Hid (b = true ↔ c3 x y < 0)) : Calls Tryz.prog 73 #[tV x, tV y] w fun e w' => e = .returned (.bool b) ∧ Below w.heap.size w w' := by
  have hc := c3_less x y
  have hb' := hb.out
  rw [hc] at hb'
  have HB := hid_of hb'
  clear hb hc hb'
  obtain ⟨x0, x1, x2⟩ := x
  obtain ⟨y0, y1, y2⟩ := y
  obtain ⟨W, hW, b0, b1, bW, -⟩ := bx2 w 64 64 #[.int .i64 x0, .int .i64 x1, .int .i64 x2] #[.int .i64 y0, .int .i64 y1, .int .i64 y2]
  obtain ⟨a0, a1, a2, -⟩ := b0.open3
  obtain ⟨d0, d1, d2, -⟩ := b1.open3
  have fin : ∀ b', (b' = true ↔ (x0 < y0 ∨ (x0 = y0 ∧ (x1 < y1 ∨ (x1 = y1 ∧ x2 < y2))))) → b = b' := fun b' h => Bool.eq_iff_iff.2 (HB.out.trans h.symm)
  have FIN := hid_of fin
  clear fin HB
  have BW := hid_of bW
  clear b0 b1 bW
  rcases (by omega : x0 < y0 ∨ (x0 = y0 ∧ x1 < y1) ∨ (x0 = y0 ∧ x1 = y1 ∧ x2 < y2) ∨ (x0 = y0 ∧ x1 = y1 ∧ ¬ x2 < y2) ∨ (x0 = y0 ∧ ¬ x1 < y1 ∧ ¬ x1 = y1) ∨ (¬ x0 < y0 ∧ ¬ x0 = y0)) with h | ⟨rfl, h⟩ | ⟨rfl, rfl, h⟩ | ⟨rfl, rfl, h⟩ | ⟨rfl, h, h'⟩ | ⟨h, h'⟩
  · obtain rfl := FIN.out true ⟨fun _ => .inl h, fun _ => rfl⟩
    go_enter Tryz.func73, Tryz.ntmps73
    go_wp2
    go_ret
    exact ⟨rfl, BW.out⟩
  · obtain rfl := FIN.out true ⟨fun _ => .inr ⟨rfl, .inl h⟩, fun _ => rfl⟩
    go_enter Tryz.func73, Tryz.ntmps73
    go_wp2
    go_ret
    exact ⟨rfl, BW.out⟩
  · obtain rfl := FIN.out true ⟨fun _ => .inr ⟨rfl, .inr ⟨rfl, h⟩⟩, fun _ => rfl⟩
    go_enter Tryz.func73, Tryz.ntmps73
    go_wp2
    go_ret
    exact ⟨rfl, BW.out⟩
  · obtain rfl := FIN.out false ⟨(fun e => by cases e), (fun e => by omega)⟩
    go_enter Tryz.func73, Tryz.ntmps73
    go_wp2
    go_ret
    exact ⟨rfl, BW.out⟩
  · obtain rfl := FIN.out false ⟨(fun e => by cases e), (fun e => by omega)⟩
    have h2 : (x1 == y1) = false := by simpa using h'
    go_enter Tryz.func73, Tryz.ntmps73
    go_wp2
    go_ret
    exact ⟨rfl, BW.out⟩
  · obtain rfl := FIN.out false ⟨(fun e => by cases e), (fun e => by omega)⟩
    have h2 : (x0 == y0) = false := by simpa using h'
    go_enter Tryz.func73, Tryz.ntmps73
    go_wp2
    go_ret
    exact ⟨rfl, BW.out⟩
end Go.Proofs.YtgjhbkpocbihbaaGreat
/-
  The specification's orbit under a group: walked.
-/
namespace Go.Proofs.YtgjhbkpocbihbaaGreat
open Go.RowKit

/-- Where the operators take the point. -/
def orbP (A : Nat → OpD) (x y z : Int) (i : Nat) : T3 := tO (actV (A i).f (A i).h (p3 x y z))
/-- The point in its box. -/
def Cut5 (wr : World) (s0 s1 s2 : Int) (s7 : Value) (wc : World) : Prop := ∃ q, s7 = .pointer (some ⟨q, 0, none⟩) ∧ wr.heap.size ≤ q ∧ At 64 wc q #[.int .i64 s0, .int .i64 s1, .int .i64 s2] ∧ Below wr.heap.size wr wc
/-- What the specification's orbit tells. -/
def OrbP (w : World) (n : Nat) (P : Nat → T3) (e : Ending) (w' : World) : Prop := (∃ v m F, e = .returned v ∧ PtG w' w.heap.size v m F ∧ OrbI P n m F) ∧ Below w.heap.size w w'
theorem e3_cells {t : TypeId} {w : World} {q : Nat} {x : T3} (a : At t w q #[.int .i64 x.1, .int .i64 x.2.1, .int .i64 x.2.2]) : ∀ j u, (e3 x)[j]? = some u → w.cell? ((⟨q, 0, none⟩ : Addr).add j) = some u := fun j u h => cell3_new w q x a j u h
theorem iCells_e3 (F : Nat → T3) (m : Nat) (x : T3) : iCells (fl3 F) (m * 3) ++ e3 x = iCells (fl3 (fun t => if t = m then x else F t)) ((m + 1) * 3) := by
  refine iCells_ext (by simp [iCells_len, e3]; omega) (fun j hj => ?_)
  by_cases h : j < m * 3
  · rw [List.getElem?_append_left (by rw [iCells_len]; exact h), iCells_at _ h]
    exact congrArg some (congrArg (Value.int .i64) (fl3_congr (n := m) (fun t ht => by rw [if_neg (by omega)]) h))
  · rw [List.getElem?_append_right (by rw [iCells_len]; omega), iCells_len]
    show (e3 x)[j - m * 3]? = some (.int .i64 (t3f (if j / 3 = m then x else F (j / 3)) (j % 3)))
    rw [if_pos (show j / 3 = m by omega)]
    rcases (by omega : j = m * 3 ∨ j = m * 3 + 1 ∨ j = m * 3 + 2) with rfl | rfl | rfl
    · rw [show m * 3 - m * 3 = 0 by omega, show m * 3 % 3 = 0 by omega]; rfl
    · rw [show m * 3 + 1 - m * 3 = 1 by omega, show (m * 3 + 1) % 3 = 1 by omega]; rfl
    · rw [show m * 3 + 2 - m * 3 = 2 by omega, show (m * 3 + 2) % 3 = 2 by omega]; rfl
set_option maxRecDepth 100000 in
set_option maxHeartbeats 4000000 in
theorem l5Orbit_any {w : World} {g n c : Nat} {A : Nat → OpD} {x y z : Int} (hL : OpsL w g n A) (hn : n ≤ 192) (hA : ∀ i, i < n → (A i).ok) (hp : inP x y z) :
    Calls Tryz.prog 46 #[.slice (some ⟨g, 0, none⟩) n c, pV x y z] w (OrbP w n (orbP A x y z)) := by
  have hbs : ∀ w, (Instr.buildSlice 78 0 #[]).run Tryz.prog w = .ok (.slice (some ⟨w.heap.size, 0, none⟩) 0 0) (w.alloc (.cells #[] 64)) := fun _ => by kernel_rfl
  obtain ⟨i0, hi0, hz0, hz1, hz2⟩ := info_parts infoPoint
  have hn' : (n : Int) ≤ 192 := by omega
  obtain ⟨W1, hW1, A1, B1, -⟩ := boxed w 64 #[.int .i64 x, .int .i64 y, .int .i64 z]
  obtain ⟨q1, hq1⟩ : ∃ q, w.heap.size = q := ⟨_, rfl⟩
  rw [hq1] at A1
  obtain ⟨W2, hW2, a2, B2, -⟩ := boxed W1 64 #[]
  obtain ⟨p2, hp2⟩ : ∃ q, W1.heap.size = q := ⟨_, rfl⟩
  have o2 : Hid (PtG W2 w.heap.size (.slice (some ⟨p2, 0, none⟩) 0 0) 0 (fun _ => (0, 0, 0))) := hid_of (ptG_of (cur := #[]) (hp2 ▸ a2) rfl (Nat.le_refl _) (Nat.zero_le _) (by rw [← hp2]; exact B1.size) (fun t ht => by omega))
  have A2 := A1.below B2
  have B := B1.trans (B2.mono B1.size)
  have hq2 : Hid (q1 < p2 ∧ w.heap.size ≤ q1) := ⟨by rw [← hp2]; exact A1.lt, by omega⟩
  have HL : Hid (OpsL w g n A) := hL
  have HI0 : Hid (OrbI (orbP A x y z) 0 0 (fun _ => (0, 0, 0))) := OrbI.start _ _
  have HA := hid_of hA
  have HP := hid_of hp
  clear hL hA hp A1 a2 B1 B2
  unfold pV
  go_enter Tryz.func46, Tryz.ntmps46
  go_wp2_with fail
  try rw [hp2]
  clear hW1 hW2 hq1 hp2
  go_loopw [5, 6] (fun v s wr => ∃ (i m : Nat) (F : Nat → T3), i ≤ n ∧ s = .int .i64 (i : Int) ∧ Hid (PtG wr w.heap.size v m F) ∧ Hid (v.ownBlock ≠ some q1) ∧ Hid (OrbI (orbP A x y z) i m F) ∧ At 64 wr q1 #[.int .i64 x, .int .i64 y, .int .i64 z] ∧ Below w.heap.size w wr) (fun _ s _ => n - (intOf s).toNat)
  case atStart => exact ⟨0, 0, _, Nat.zero_le _, rfl, o2, (fun e => by simp only [Value.ownBlock, Option.some.injEq] at e; have := hq2.out.1; omega), HI0, A2, B⟩
  case round =>
    clear o2 HI0 A2 B hq2
    obtain ⟨i, m, F, hi, rfl, own, hne, HI, A2, B⟩ := hrel
    by_cases hlt : i < n
    rotate_left
    · obtain rfl : i = n := by omega
      have hlt' : ¬ (i : Int) < (i : Int) := by omega
      go_wp2
      go_ret
      exact ⟨⟨_, m, F, rfl, own.out, HI.out⟩, B⟩
    have hlt' : (i : Int) < (n : Int) := by omega
    have ok := HA.out i hlt
    have hLr := HL.out.below B
    obtain ⟨a1, c1, b1, d1, f1, f2, s1, s2⟩ := hLr.2 i hlt
    obtain ⟨k1, k2, k3⟩ := ok
    rw [k1] at f1 s1
    rw [k2] at f2 s2
    rcases s1 with s1 | ⟨bm, om, rfl, lm, Im⟩
    · omega
    rcases s2 with s2 | ⟨bt, ot, rfl, lt, It⟩
    · omega
    have CLi : Hid (∀ wq, Kb wr wq → wq.cell? ⟨g, i * 2, none⟩ = some (.slice (some ⟨bm, om, none⟩) 9 c1) ∧ wq.cell? ⟨g, i * 2 + 1, none⟩ = some (.slice (some ⟨bt, ot, none⟩) 3 d1)) := fun wq hq => ⟨(hq.cell (p := ⟨g, i * 2, none⟩) hLr.1).trans f1, (hq.cell (p := ⟨g, i * 2 + 1, none⟩) hLr.1).trans f2⟩
    have CP : Hid (∀ wq, Kb wr wq → Calls Tryz.prog 40 #[.agg #[.slice (some ⟨bm, om, none⟩) 9 c1, .slice (some ⟨bt, ot, none⟩) 3 d1], pV x y z] wq fun e w' => e = .returned (.agg (vA (actV (A i).f (A i).h (p3 x y z)))) ∧ Below wq.heap.size wq w') := fun wq hq => l5Act_any c1 d1 (Im.below lm hq) (It.below lt hq) (Nat.lt_of_lt_of_le lm hq.size) (Nat.lt_of_lt_of_le lt hq.size) k3 HP.out
    have HPi : Hid (orbP A x y z i = tO (actV (A i).f (A i).h (p3 x y z))) := rfl
    unfold vA at CP
    generalize actV (A i).f (A i).h (p3 x y z) = av at CP HPi
    obtain ⟨s0, hs0⟩ : ∃ s, av 0 = s := ⟨_, rfl⟩
    obtain ⟨s1, hs1⟩ : ∃ s, av 1 = s := ⟨_, rfl⟩
    obtain ⟨s2, hs2⟩ : ∃ s, av 2 = s := ⟨_, rfl⟩
    have HQ : Hid (orbP A x y z i = (s0, s1, s2)) := by
      show orbP A x y z i = (s0, s1, s2)
      rw [HPi.out, ← hs0, ← hs1, ← hs2]; rfl
    rw [hs0, hs1, hs2] at CP
    have hmi := HI.out.le
    have HB := hid_of B
    have HA2 := hid_of A2
    clear hs0 hs1 hs2 HPi f1 f2 Im It lm lt hLr k1 k2 k3 B A2
    unfold pV at CP
    go_wp2_with fail
    go_cut [7] from 17 to 23 (fun s7 wc => Cut5 wr s0 s1 s2 s7 wc)
    case first =>
      obtain ⟨u0, hu0, bb⟩ : ∃ uu, wr.drew = uu ∧ Below wr.heap.size wr uu := ⟨_, rfl, (Below.refl _ _).drew⟩
      have bk0 : Kb wr u0 := bb
      clear bb
      refine wp_region_held_drew (S := Kb u0) (by kernel_rfl) (by rw [hu0]; exact Below.refl _ _) (fun hHeld => ?_)
      rw [hu0] at hHeld ⊢
      clear hu0
      have bu : Kb u0 u0 := Below.refl _ _
      change wpAnyH _ _ _ _ _ 8 #[false, false, false, false, false, false, false, false] _ _
      refine wpAnyH_take (i := 0) (v := .slice ((some ⟨g, 0, none⟩)) n c) rfl (by kernel_rfl) (by kernel_rfl) (by kernel_rfl) (fun _ _ _ h => h) (Or.inl ⟨by kernel_rfl, ?_⟩) hHeld ?_
      · intro w' hSw; go_simp
      try simp only [Act.put, List.setIfInBounds_toArray, List.set_cons_zero, List.set_cons_succ, List.getElem_toArray, List.getElem_cons_zero]
      refine wpAnyH_take (i := 1) (v := .int .i64 ((i : Int))) rfl (by kernel_rfl) (by kernel_rfl) (by kernel_rfl) (fun _ _ _ h => h) (Or.inl ⟨by kernel_rfl, ?_⟩) hHeld ?_
      · intro w' hSw; go_simp
      try simp only [Act.put, List.setIfInBounds_toArray, List.set_cons_zero, List.set_cons_succ, List.getElem_toArray, List.getElem_cons_succ, List.getElem_cons_zero]
      refine wpAnyH_take (i := 2) (v := .pointer (some ⟨g, i * 2, none⟩)) rfl (by kernel_rfl) (by kernel_rfl) (by kernel_rfl) (fun _ _ _ h => h) (Or.inl ⟨by kernel_rfl, ?_⟩) hHeld ?_
      · intro w' hSw; go_simp
      try simp only [Act.put, List.setIfInBounds_toArray, List.set_cons_zero, List.set_cons_succ, List.getElem_toArray, List.getElem_cons_succ, List.getElem_cons_zero]
      refine wpAnyH_take (i := 3) (v := .agg #[.slice (some ⟨bm, om, none⟩) 9 c1, .slice (some ⟨bt, ot, none⟩) 3 d1]) rfl (by kernel_rfl) (by kernel_rfl) (by kernel_rfl) (fun _ _ _ h => h) (Or.inl ⟨by kernel_rfl, ?_⟩) hHeld ?_
      · intro w' hSw; obtain ⟨z0, z1⟩ := CLi.out _ (bk0.trans (Below.mono hSw bk0.size)); go_simp
      try simp only [Act.put, List.setIfInBounds_toArray, List.set_cons_zero, List.set_cons_succ, List.getElem_toArray, List.getElem_cons_succ, List.getElem_cons_zero]
      refine wpAnyH_take (i := 4) (v := .agg #[.int .i64 x, .int .i64 y, .int .i64 z]) rfl (by kernel_rfl) (by kernel_rfl) (by kernel_rfl) (fun _ _ _ h => h) (Or.inl ⟨by kernel_rfl, ?_⟩) hHeld ?_
      · intro w' hSw; obtain ⟨z0, z1, z2, -⟩ := (HA2.out.below (bk0.trans (Below.mono hSw bk0.size))).open3; go_simp
      try simp only [Act.put, List.setIfInBounds_toArray, List.set_cons_zero, List.set_cons_succ, List.getElem_toArray, List.getElem_cons_succ, List.getElem_cons_zero]
      refine wpAnyH_ready (rs := [5, 6]) (by kernel_rfl) (by simp) ?_
      refine AllReadyH.cons rfl (fun KK hK' => ?_) (AllReadyH.cons rfl (fun KK hK' => ?_) AllReadyH.nil)
      · go_simp
        refine (CP.out _ (bk0.trans (Below.mono bu bk0.size))).mono ?_
        rintro e u1 ⟨rfl, bb⟩
        replace bu : Kb u0 u1 := bu.trans (bb.mono bu.size)
        clear bb
        try go_wp2_with fail
        clear hHeld
        refine hK'.out _ _ (bu) (fun hHeld => ?_)
        clear hK' KK
        try simp only [List.setIfInBounds_toArray, List.set_cons_zero, List.set_cons_succ]
        refine wpAnyH_ready (rs := [6]) (by kernel_rfl) (by simp) ?_
        refine AllReadyH.cons rfl (fun KK hK' => ?_) AllReadyH.nil
        go_simp
        obtain ⟨u2, h6, G6, bb, -⟩ := boxed u1 64 #[.int .i64 0, .int .i64 0, .int .i64 0]
        rw [h6]
        clear h6
        obtain ⟨g6, hg6⟩ : ∃ q, u1.heap.size = q := ⟨_, rfl⟩
        rw [hg6] at G6 ⊢
        have hgu : u0.heap.size ≤ g6 := by have := bu.size; omega
        clear hg6
        replace bu : Kb u0 u2 := bu.trans (bb.mono bu.size)
        clear bb
        clear hHeld
        refine hK'.out _ _ (bu) (fun hHeld => ?_)
        clear hK' KK
        try simp only [List.setIfInBounds_toArray, List.set_cons_zero, List.set_cons_succ]
        refine wpAnyH_ready (rs := [7]) (by kernel_rfl) (by simp) ?_
        refine AllReadyH.cons rfl (fun KK hK' => ?_) AllReadyH.nil
        obtain ⟨y0, y1, y2, y3, y4, y5⟩ := G6.open3
        go_simp
        have G7 := put3c_at G6 (.int .i64 s0) (.int .i64 s1) (.int .i64 s2)
        replace bu : Kb u0 (((u2.setCell ⟨g6, 0, none⟩ (.int .i64 s0)).setCell ⟨g6, 1, none⟩ (.int .i64 s1)).setCell ⟨g6, 2, none⟩ (.int .i64 s2)) := ((bu.setCell hgu _).setCell hgu _).setCell hgu _
        obtain ⟨u3, hv⟩ : ∃ V, ((u2.setCell ⟨g6, 0, none⟩ (.int .i64 s0)).setCell ⟨g6, 1, none⟩ (.int .i64 s1)).setCell ⟨g6, 2, none⟩ (.int .i64 s2) = V := ⟨_, rfl⟩
        rw [hv] at G7 bu ⊢
        clear hv G6 y0 y1 y2 y3 y4 y5
        clear hHeld
        refine hK'.out _ _ (bu) (fun hHeld => ?_)
        clear hK' KK
        try simp only [List.setIfInBounds_toArray, List.set_cons_zero, List.set_cons_succ]
        refine wpAnyH_done (by kernel_rfl) ?_ _
        clear hHeld
        have bz := bk0.trans (Below.mono bu bk0.size)
        have hg7 : wr.heap.size ≤ g6 := by have := bk0.size; omega
        go_wp2_with fail
        go_meet
        case rel => exact ⟨g6, rfl, hg7, G7, bz⟩
      · go_simp
        obtain ⟨u1, h6, G6, bb, -⟩ := boxed u0 64 #[.int .i64 0, .int .i64 0, .int .i64 0]
        rw [h6]
        clear h6
        obtain ⟨g6, hg6⟩ : ∃ q, u0.heap.size = q := ⟨_, rfl⟩
        rw [hg6] at G6 ⊢
        have hgu : u0.heap.size ≤ g6 := by have := bu.size; omega
        clear hg6
        replace bu : Kb u0 u1 := bu.trans (bb.mono bu.size)
        clear bb
        clear hHeld
        refine hK'.out _ _ (bu) (fun hHeld => ?_)
        clear hK' KK
        try simp only [List.setIfInBounds_toArray, List.set_cons_zero, List.set_cons_succ]
        refine wpAnyH_ready (rs := [5]) (by kernel_rfl) (by simp) ?_
        refine AllReadyH.cons rfl (fun KK hK' => ?_) AllReadyH.nil
        go_simp
        refine (CP.out _ (bk0.trans (Below.mono bu bk0.size))).mono ?_
        rintro e u2 ⟨rfl, bb⟩
        replace G6 := G6.below bb
        replace bu : Kb u0 u2 := bu.trans (bb.mono bu.size)
        clear bb
        try go_wp2_with fail
        clear hHeld
        refine hK'.out _ _ (bu) (fun hHeld => ?_)
        clear hK' KK
        try simp only [List.setIfInBounds_toArray, List.set_cons_zero, List.set_cons_succ]
        refine wpAnyH_ready (rs := [7]) (by kernel_rfl) (by simp) ?_
        refine AllReadyH.cons rfl (fun KK hK' => ?_) AllReadyH.nil
        obtain ⟨y0, y1, y2, y3, y4, y5⟩ := G6.open3
        go_simp
        have G7 := put3c_at G6 (.int .i64 s0) (.int .i64 s1) (.int .i64 s2)
        replace bu : Kb u0 (((u2.setCell ⟨g6, 0, none⟩ (.int .i64 s0)).setCell ⟨g6, 1, none⟩ (.int .i64 s1)).setCell ⟨g6, 2, none⟩ (.int .i64 s2)) := ((bu.setCell hgu _).setCell hgu _).setCell hgu _
        obtain ⟨u3, hv⟩ : ∃ V, ((u2.setCell ⟨g6, 0, none⟩ (.int .i64 s0)).setCell ⟨g6, 1, none⟩ (.int .i64 s1)).setCell ⟨g6, 2, none⟩ (.int .i64 s2) = V := ⟨_, rfl⟩
        rw [hv] at G7 bu ⊢
        clear hv G6 y0 y1 y2 y3 y4 y5
        clear hHeld
        refine hK'.out _ _ (bu) (fun hHeld => ?_)
        clear hK' KK
        try simp only [List.setIfInBounds_toArray, List.set_cons_zero, List.set_cons_succ]
        refine wpAnyH_done (by kernel_rfl) ?_ _
        clear hHeld
        have bz := bk0.trans (Below.mono bu bk0.size)
        have hg7 : wr.heap.size ≤ g6 := by have := bk0.size; omega
        go_wp2_with fail
        go_meet
        case rel => exact ⟨g6, rfl, hg7, G7, bz⟩
    case rest =>
      obtain ⟨q7, rfl, hq7, Q7, b7⟩ := hcut
      rename World => w6
      have own7 := hid_of (own.out.below b7)
      have HA7 := hid_of (HA2.out.below b7)
      have HB7 := hid_of (HB.out.trans (b7.mono HB.out.size))

      obtain ⟨go, co, cu0, ev, hlo, ao, -, hmo, hcm, -⟩ := own.out.open
      have hgq : go < q7 := by have := ao.lt; omega
      have hq1q : q1 < q7 := by have := HA2.out.lt; omega
      subst ev
      have hne1 : go ≠ q1 := fun e => hne.out (by rw [e]; rfl)
      have HQ7 := hid_of Q7
      clear own CP CLi HA2 HB b7 hq7 ao Q7 hne
      have hm' : (m : Int) ≤ 192 := by omega
      have hlo' : w.heap.size ≤ go := hlo
      have HLO0 : Hid (∀ t, t < 0 → c3 (F t) (s0, s1, s2) < 0) := fun t ht => absurd ht (Nat.not_lt_zero _)
      go_wp2_with fail
      go_loopw [8] (fun s8 wl => ∃ j : Nat, j ≤ m ∧ s8 = .int .i64 (j : Int) ∧ Hid (∀ t, t < j → c3 (F t) (s0, s1, s2) < 0) ∧ Hid (Below w6.heap.size w6 wl)) (fun s8 _ => m - (intOf s8).toNat)
      case atStart => exact ⟨0, Nat.zero_le _, rfl, HLO0, Below.refl _ _⟩
      case round =>
        clear HLO0
        obtain ⟨j, hj, rfl, HLO, HBL⟩ := hrel
        obtain ⟨a0, a1, a2, hFj⟩ : ∃ a0 a1 a2, F j = (a0, a1, a2) := ⟨_, _, _, rfl⟩
        have HFJ := hid_of hFj
        have CLa : Hid (∀ wq, Kb wr wq → j < m → wq.cell? ⟨go, j * 3, none⟩ = some (.int .i64 a0) ∧ wq.cell? ⟨go, j * 3 + 1, none⟩ = some (.int .i64 a1) ∧ wq.cell? ⟨go, j * 3 + 2, none⟩ = some (.int .i64 a2)) := fun wq hq hjm => by
          obtain ⟨g', c', cur, e', -, a, -, -, -, hH⟩ := (own7.out.below HBL.out).open
          cases e'
          have h3 := h3_cells (a.below hq) (hH j hjm)
          rw [HFJ.out] at h3
          exact h3
        have CLq : Hid (∀ wq, Kb wr wq → At 64 wq q7 #[.int .i64 s0, .int .i64 s1, .int .i64 s2]) := fun wq hq => (HQ7.out.below HBL.out).below hq
        obtain ⟨D, hD⟩ : ∃ D : Bool, D = true ↔ c3 (a0, a1, a2) (s0, s1, s2) < 0 := ⟨decide (c3 (a0, a1, a2) (s0, s1, s2) < 0), decide_eq_true_iff⟩
        have HD := hid_of hD
        obtain ⟨D2, hD2⟩ : ∃ D2 : Bool, D2 = true ↔ (j < m ∧ D = true) := ⟨decide (j < m ∧ D = true), decide_eq_true_iff⟩
        have HD2 := hid_of hD2
        clear hFj hD hD2
        go_wp2_with fail
        go_cut [34] from 23 to 34 (fun s34 wc => s34 = .bool D2 ∧ Hid (Below wr.heap.size wr wc))
        case first =>
          by_cases hjm : j < m
          · have hjm' : (j : Int) < (m : Int) := by omega
            obtain rfl : D2 = D := Bool.eq_iff_iff.2 (HD2.out.trans ⟨fun h => h.2, fun h => ⟨hjm, h⟩⟩)
            have CLb := hid_of (fun wq hq => CLa.out wq hq hjm)
            clear HD2 CLa
            obtain ⟨u0, hu0, bb⟩ : ∃ uu, wr.drew = uu ∧ Below wr.heap.size wr uu := ⟨_, rfl, (Below.refl _ _).drew⟩
            have bk0 : Kb wr u0 := bb
            clear bb
            refine wp_region_held_drew (S := Kb u0) (by kernel_rfl) (by rw [hu0]; exact Below.refl _ _) (fun hHeld => ?_)
            rw [hu0] at hHeld ⊢
            clear hu0
            have bu : Kb u0 u0 := Below.refl _ _
            change wpAnyH _ _ _ _ _ 12 #[false, false, false, false, false, false, false, false, false, false, false, false] _ _
            refine wpAnyH_take (i := 0) (v := .int .i64 ((j : Int))) rfl (by kernel_rfl) (by kernel_rfl) (by kernel_rfl) (fun _ _ _ h => h) (Or.inl ⟨by kernel_rfl, ?_⟩) hHeld ?_
            · intro w' hSw; go_simp
            try simp only [Act.put, List.setIfInBounds_toArray, List.set_cons_zero, List.set_cons_succ, List.getElem_toArray, List.getElem_cons_zero]
            refine wpAnyH_take (i := 1) (v := .slice ((some ⟨go, 0, none⟩)) m co) rfl (by kernel_rfl) (by kernel_rfl) (by kernel_rfl) (fun _ _ _ h => h) (Or.inl ⟨by kernel_rfl, ?_⟩) hHeld ?_
            · intro w' hSw; go_simp
            try simp only [Act.put, List.setIfInBounds_toArray, List.set_cons_zero, List.set_cons_succ, List.getElem_toArray, List.getElem_cons_succ, List.getElem_cons_zero]
            refine wpAnyH_take (i := 2) (v := .int .i64 ((m : Int))) rfl (by kernel_rfl) (by kernel_rfl) (by kernel_rfl) (fun _ _ _ h => h) (Or.inl ⟨by kernel_rfl, ?_⟩) hHeld ?_
            · intro w' hSw; go_simp
            try simp only [Act.put, List.setIfInBounds_toArray, List.set_cons_zero, List.set_cons_succ, List.getElem_toArray, List.getElem_cons_succ, List.getElem_cons_zero]
            refine wpAnyH_take (i := 3) (v := .bool true) rfl (by kernel_rfl) (by kernel_rfl) (by kernel_rfl) (fun _ _ _ h => h) (Or.inl ⟨by kernel_rfl, ?_⟩) hHeld ?_
            · intro w' hSw; go_simp
            try simp only [Act.put, List.setIfInBounds_toArray, List.set_cons_zero, List.set_cons_succ, List.getElem_toArray, List.getElem_cons_succ, List.getElem_cons_zero]
            refine wpAnyH_take (i := 4) (v := .bool true) rfl (by kernel_rfl) (by kernel_rfl) (by kernel_rfl) (fun _ _ _ h => h) (Or.inl ⟨by kernel_rfl, ?_⟩) hHeld ?_
            · intro w' hSw; go_simp
            try simp only [Act.put, List.setIfInBounds_toArray, List.set_cons_zero, List.set_cons_succ, List.getElem_toArray, List.getElem_cons_succ, List.getElem_cons_zero]
            refine wpAnyH_take (i := 5) (v := .slice ((some ⟨go, 0, none⟩)) m co) rfl (by kernel_rfl) (by kernel_rfl) (by kernel_rfl) (fun _ _ _ h => h) (Or.inl ⟨by kernel_rfl, ?_⟩) hHeld ?_
            · intro w' hSw; go_simp
            try simp only [Act.put, List.setIfInBounds_toArray, List.set_cons_zero, List.set_cons_succ, List.getElem_toArray, List.getElem_cons_succ, List.getElem_cons_zero]
            refine wpAnyH_take (i := 6) (v := .int .i64 ((j : Int))) rfl (by kernel_rfl) (by kernel_rfl) (by kernel_rfl) (fun _ _ _ h => h) (Or.inl ⟨by kernel_rfl, ?_⟩) hHeld ?_
            · intro w' hSw; go_simp
            try simp only [Act.put, List.setIfInBounds_toArray, List.set_cons_zero, List.set_cons_succ, List.getElem_toArray, List.getElem_cons_succ, List.getElem_cons_zero]
            refine wpAnyH_take (i := 7) (v := .pointer (some ⟨go, j * 3, none⟩)) rfl (by kernel_rfl) (by kernel_rfl) (by kernel_rfl) (fun _ _ _ h => h) (Or.inl ⟨by kernel_rfl, ?_⟩) hHeld ?_
            · intro w' hSw; go_simp
            try simp only [Act.put, List.setIfInBounds_toArray, List.set_cons_zero, List.set_cons_succ, List.getElem_toArray, List.getElem_cons_succ, List.getElem_cons_zero]
            refine wpAnyH_take (i := 8) (v := .agg #[.int .i64 a0, .int .i64 a1, .int .i64 a2]) rfl (by kernel_rfl) (by kernel_rfl) (by kernel_rfl) (fun _ _ _ h => h) (Or.inl ⟨by kernel_rfl, ?_⟩) hHeld ?_
            · intro w' hSw; obtain ⟨z0, z1, z2⟩ := CLb.out _ (bk0.trans (Below.mono hSw bk0.size)); go_simp
            try simp only [Act.put, List.setIfInBounds_toArray, List.set_cons_zero, List.set_cons_succ, List.getElem_toArray, List.getElem_cons_succ, List.getElem_cons_zero]
            refine wpAnyH_take (i := 9) (v := .agg #[.int .i64 s0, .int .i64 s1, .int .i64 s2]) rfl (by kernel_rfl) (by kernel_rfl) (by kernel_rfl) (fun _ _ _ h => h) (Or.inl ⟨by kernel_rfl, ?_⟩) hHeld ?_
            · intro w' hSw; obtain ⟨z0, z1, z2, -⟩ := (CLq.out _ (bk0.trans (Below.mono hSw bk0.size))).open3; go_simp
            try simp only [Act.put, List.setIfInBounds_toArray, List.set_cons_zero, List.set_cons_succ, List.getElem_toArray, List.getElem_cons_succ, List.getElem_cons_zero]
            refine wpAnyH_ready (rs := [10]) (by kernel_rfl) (by simp) ?_
            refine AllReadyH.cons rfl (fun KK hK' => ?_) AllReadyH.nil
            go_simp
            refine (less_any (a0, a1, a2) (s0, s1, s2) _ D2 HD).mono ?_
            rintro e u1 ⟨rfl, bb⟩
            replace bu : Kb u0 u1 := bu.trans (bb.mono bu.size)
            clear bb
            try go_wp2_with fail
            clear hHeld
            refine hK'.out _ _ (bu) (fun hHeld => ?_)
            clear hK' KK
            try simp only [List.setIfInBounds_toArray, List.set_cons_zero, List.set_cons_succ]
            refine wpAnyH_take (i := 11) (v := .bool D2) rfl (by kernel_rfl) (by kernel_rfl) (by kernel_rfl) (fun _ _ _ h => h) (Or.inl ⟨by kernel_rfl, ?_⟩) hHeld ?_
            · intro w' hSw; go_simp
            try simp only [Act.put, List.setIfInBounds_toArray, List.set_cons_zero, List.set_cons_succ, List.getElem_toArray, List.getElem_cons_succ, List.getElem_cons_zero]
            refine wpAnyH_done (by kernel_rfl) ?_ _
            clear hHeld
            have bz := hid_of (bk0.trans (Below.mono bu bk0.size))
            go_wp2_with fail
            go_meet
            case rel => exact ⟨rfl, bz⟩
          · have hjm' : ¬ (j : Int) < (m : Int) := by omega
            obtain rfl : D2 = false := by
              have := HD2.out
              cases D2
              · rfl
              · exact absurd (this.1 rfl).1 hjm
            clear HD2 CLa
            obtain ⟨u0, hu0, bb⟩ : ∃ uu, wr.drew = uu ∧ Below wr.heap.size wr uu := ⟨_, rfl, (Below.refl _ _).drew⟩
            have bk0 : Kb wr u0 := bb
            clear bb
            refine wp_region_held_drew (S := Kb u0) (by kernel_rfl) (by rw [hu0]; exact Below.refl _ _) (fun hHeld => ?_)
            rw [hu0] at hHeld ⊢
            clear hu0
            have bu : Kb u0 u0 := Below.refl _ _
            change wpAnyH _ _ _ _ _ 12 #[false, false, false, false, false, false, false, false, false, false, false, false] _ _
            refine wpAnyH_take (i := 0) (v := .int .i64 ((j : Int))) rfl (by kernel_rfl) (by kernel_rfl) (by kernel_rfl) (fun _ _ _ h => h) (Or.inl ⟨by kernel_rfl, ?_⟩) hHeld ?_
            · intro w' hSw; go_simp
            try simp only [Act.put, List.setIfInBounds_toArray, List.set_cons_zero, List.set_cons_succ, List.getElem_toArray, List.getElem_cons_zero]
            refine wpAnyH_take (i := 1) (v := .slice ((some ⟨go, 0, none⟩)) m co) rfl (by kernel_rfl) (by kernel_rfl) (by kernel_rfl) (fun _ _ _ h => h) (Or.inl ⟨by kernel_rfl, ?_⟩) hHeld ?_
            · intro w' hSw; go_simp
            try simp only [Act.put, List.setIfInBounds_toArray, List.set_cons_zero, List.set_cons_succ, List.getElem_toArray, List.getElem_cons_succ, List.getElem_cons_zero]
            refine wpAnyH_take (i := 2) (v := .int .i64 ((m : Int))) rfl (by kernel_rfl) (by kernel_rfl) (by kernel_rfl) (fun _ _ _ h => h) (Or.inl ⟨by kernel_rfl, ?_⟩) hHeld ?_
            · intro w' hSw; go_simp
            try simp only [Act.put, List.setIfInBounds_toArray, List.set_cons_zero, List.set_cons_succ, List.getElem_toArray, List.getElem_cons_succ, List.getElem_cons_zero]
            refine wpAnyH_take (i := 3) (v := .bool false) rfl (by kernel_rfl) (by kernel_rfl) (by kernel_rfl) (fun _ _ _ h => h) (Or.inl ⟨by kernel_rfl, ?_⟩) hHeld ?_
            · intro w' hSw; go_simp
            try simp only [Act.put, List.setIfInBounds_toArray, List.set_cons_zero, List.set_cons_succ, List.getElem_toArray, List.getElem_cons_succ, List.getElem_cons_zero]
            refine wpAnyH_take (i := 4) (v := .bool false) rfl (by kernel_rfl) (by kernel_rfl) (by kernel_rfl) (fun _ _ _ h => h) (Or.inl ⟨by kernel_rfl, ?_⟩) hHeld ?_
            · intro w' hSw; go_simp
            try simp only [Act.put, List.setIfInBounds_toArray, List.set_cons_zero, List.set_cons_succ, List.getElem_toArray, List.getElem_cons_succ, List.getElem_cons_zero]
            refine wpAnyH_take (i := 5) (v := undef) rfl (by kernel_rfl) (by kernel_rfl) (by kernel_rfl) (fun _ _ _ h => h) (Or.inr ⟨by kernel_rfl, rfl⟩) hHeld ?_
            try simp only [Act.put, List.setIfInBounds_toArray, List.set_cons_zero, List.set_cons_succ, List.getElem_toArray, List.getElem_cons_succ, List.getElem_cons_zero]
            refine wpAnyH_take (i := 6) (v := undef) rfl (by kernel_rfl) (by kernel_rfl) (by kernel_rfl) (fun _ _ _ h => h) (Or.inr ⟨by kernel_rfl, rfl⟩) hHeld ?_
            try simp only [Act.put, List.setIfInBounds_toArray, List.set_cons_zero, List.set_cons_succ, List.getElem_toArray, List.getElem_cons_succ, List.getElem_cons_zero]
            refine wpAnyH_take (i := 7) (v := undef) rfl (by kernel_rfl) (by kernel_rfl) (by kernel_rfl) (fun _ _ _ h => h) (Or.inr ⟨by kernel_rfl, rfl⟩) hHeld ?_
            try simp only [Act.put, List.setIfInBounds_toArray, List.set_cons_zero, List.set_cons_succ, List.getElem_toArray, List.getElem_cons_succ, List.getElem_cons_zero]
            refine wpAnyH_take (i := 8) (v := undef) rfl (by kernel_rfl) (by kernel_rfl) (by kernel_rfl) (fun _ _ _ h => h) (Or.inr ⟨by kernel_rfl, rfl⟩) hHeld ?_
            try simp only [Act.put, List.setIfInBounds_toArray, List.set_cons_zero, List.set_cons_succ, List.getElem_toArray, List.getElem_cons_succ, List.getElem_cons_zero]
            refine wpAnyH_take (i := 9) (v := undef) rfl (by kernel_rfl) (by kernel_rfl) (by kernel_rfl) (fun _ _ _ h => h) (Or.inr ⟨by kernel_rfl, rfl⟩) hHeld ?_
            try simp only [Act.put, List.setIfInBounds_toArray, List.set_cons_zero, List.set_cons_succ, List.getElem_toArray, List.getElem_cons_succ, List.getElem_cons_zero]
            refine wpAnyH_take (i := 10) (v := undef) rfl (by kernel_rfl) (by kernel_rfl) (by kernel_rfl) (fun _ _ _ h => h) (Or.inr ⟨by kernel_rfl, rfl⟩) hHeld ?_
            try simp only [Act.put, List.setIfInBounds_toArray, List.set_cons_zero, List.set_cons_succ, List.getElem_toArray, List.getElem_cons_succ, List.getElem_cons_zero]
            refine wpAnyH_take (i := 11) (v := .bool false) rfl (by kernel_rfl) (by kernel_rfl) (by kernel_rfl) (fun _ _ _ h => h) (Or.inl ⟨by kernel_rfl, ?_⟩) hHeld ?_
            · intro w' hSw; go_simp
            try simp only [Act.put, List.setIfInBounds_toArray, List.set_cons_zero, List.set_cons_succ, List.getElem_toArray, List.getElem_cons_succ, List.getElem_cons_zero]
            refine wpAnyH_done (by kernel_rfl) ?_ _
            clear hHeld
            have bz := hid_of (bk0.trans (Below.mono bu bk0.size))
            go_wp2_with fail
            go_meet
            case rel => exact ⟨rfl, bz⟩
        case rest =>
          obtain ⟨rfl, HW7⟩ := hcut
          rename World => w7
          cases D2
          rotate_left
          · have hjm : j < m := (HD2.out.1 rfl).1
            have HLO2 : Hid (∀ t, t < j + 1 → c3 (F t) (s0, s1, s2) < 0) := fun t ht => by
              by_cases e : t = j
              · rw [e, HFJ.out]; exact HD.out.1 (HD2.out.1 rfl).2
              · exact HLO.out t (by omega)
            have HBL2 := hid_of (HBL.out.trans (HW7.out.mono HBL.out.size))
            clear HLO HBL HW7 CLa CLq HFJ HD HD2
            go_wp2
            exact ⟨⟨j + 1, by omega, by go_num, HLO2, HBL2⟩, by simp [intOf]; omega⟩
          have HNL : Hid (j < m → ¬ c3 (F j) (s0, s1, s2) < 0) := fun hjm h => by
            rw [HFJ.out] at h
            exact absurd (HD2.out.2 ⟨hjm, HD.out.2 h⟩) (by decide)
          have HBL2 := hid_of (HBL.out.trans (HW7.out.mono HBL.out.size))
          obtain ⟨E, hE⟩ : ∃ E : Bool, E = true ↔ (j < m ∧ F j = (s0, s1, s2)) := ⟨decide (j < m ∧ F j = (s0, s1, s2)), decide_eq_true_iff⟩
          have HE := hid_of hE
          have CLc : Hid (∀ wq, Kb w7 wq → j < m → wq.cell? ⟨go, j * 3, none⟩ = some (.int .i64 a0) ∧ wq.cell? ⟨go, j * 3 + 1, none⟩ = some (.int .i64 a1) ∧ wq.cell? ⟨go, j * 3 + 2, none⟩ = some (.int .i64 a2)) := fun wq hq hjm => CLa.out wq (HW7.out.trans (hq.mono HW7.out.size)) hjm
          have CLr : Hid (∀ wq, Kb w7 wq → At 64 wq q7 #[.int .i64 s0, .int .i64 s1, .int .i64 s2]) := fun wq hq => CLq.out wq (HW7.out.trans (hq.mono HW7.out.size))
          clear hE HBL HW7 CLa CLq HD HD2
          go_wp2_with fail
          go_cut [48] from 37 to 48 (fun s48 wc => s48 = .bool E ∧ Hid (Below w7.heap.size w7 wc))
          case first =>
            by_cases hjm : j < m
            · have hjm' : (j : Int) < (m : Int) := by omega
              have CLb := hid_of (fun wq hq => CLc.out wq hq hjm)
              have HE2 : Hid (E = true ↔ (a0 = s0 ∧ a1 = s1 ∧ a2 = s2)) := by
                show E = true ↔ _
                rw [HE.out, HFJ.out]
                simp only [Prod.mk.injEq]
                exact ⟨fun h => h.2, fun h => ⟨hjm, h⟩⟩
              clear HE CLc HFJ HLO HNL HQ
              by_cases c0 : a0 = s0
              · by_cases c1 : a1 = s1
                · by_cases c2 : a2 = s2
                  · obtain rfl : E = true := HE2.out.2 ⟨c0, c1, c2⟩
                    subst c0 c1 c2
                    clear HE2
                    obtain ⟨u0, hu0, bb⟩ : ∃ uu, w7.drew = uu ∧ Below w7.heap.size w7 uu := ⟨_, rfl, (Below.refl _ _).drew⟩
                    have bk0 : Kb w7 u0 := bb
                    clear bb
                    refine wp_region_held_drew (S := Kb u0) (by kernel_rfl) (by rw [hu0]; exact Below.refl _ _) (fun hHeld => ?_)
                    rw [hu0] at hHeld ⊢
                    clear hu0
                    have bu : Kb u0 u0 := Below.refl _ _
                    change wpAnyH _ _ _ _ _ 12 #[false, false, false, false, false, false, false, false, false, false, false, false] _ _
                    refine wpAnyH_take (i := 0) (v := .int .i64 ((j : Int))) rfl (by kernel_rfl) (by kernel_rfl) (by kernel_rfl) (fun _ _ _ h => h) (Or.inl ⟨by kernel_rfl, ?_⟩) hHeld ?_
                    · intro w' hSw; go_simp
                    try simp only [Act.put, List.setIfInBounds_toArray, List.set_cons_zero, List.set_cons_succ, List.getElem_toArray, List.getElem_cons_zero]
                    refine wpAnyH_take (i := 1) (v := .slice ((some ⟨go, 0, none⟩)) m co) rfl (by kernel_rfl) (by kernel_rfl) (by kernel_rfl) (fun _ _ _ h => h) (Or.inl ⟨by kernel_rfl, ?_⟩) hHeld ?_
                    · intro w' hSw; go_simp
                    try simp only [Act.put, List.setIfInBounds_toArray, List.set_cons_zero, List.set_cons_succ, List.getElem_toArray, List.getElem_cons_succ, List.getElem_cons_zero]
                    refine wpAnyH_take (i := 2) (v := .int .i64 ((m : Int))) rfl (by kernel_rfl) (by kernel_rfl) (by kernel_rfl) (fun _ _ _ h => h) (Or.inl ⟨by kernel_rfl, ?_⟩) hHeld ?_
                    · intro w' hSw; go_simp
                    try simp only [Act.put, List.setIfInBounds_toArray, List.set_cons_zero, List.set_cons_succ, List.getElem_toArray, List.getElem_cons_succ, List.getElem_cons_zero]
                    refine wpAnyH_take (i := 3) (v := .bool true) rfl (by kernel_rfl) (by kernel_rfl) (by kernel_rfl) (fun _ _ _ h => h) (Or.inl ⟨by kernel_rfl, ?_⟩) hHeld ?_
                    · intro w' hSw; go_simp
                    try simp only [Act.put, List.setIfInBounds_toArray, List.set_cons_zero, List.set_cons_succ, List.getElem_toArray, List.getElem_cons_succ, List.getElem_cons_zero]
                    refine wpAnyH_take (i := 4) (v := .bool true) rfl (by kernel_rfl) (by kernel_rfl) (by kernel_rfl) (fun _ _ _ h => h) (Or.inl ⟨by kernel_rfl, ?_⟩) hHeld ?_
                    · intro w' hSw; go_simp
                    try simp only [Act.put, List.setIfInBounds_toArray, List.set_cons_zero, List.set_cons_succ, List.getElem_toArray, List.getElem_cons_succ, List.getElem_cons_zero]
                    refine wpAnyH_take (i := 5) (v := .slice ((some ⟨go, 0, none⟩)) m co) rfl (by kernel_rfl) (by kernel_rfl) (by kernel_rfl) (fun _ _ _ h => h) (Or.inl ⟨by kernel_rfl, ?_⟩) hHeld ?_
                    · intro w' hSw; go_simp
                    try simp only [Act.put, List.setIfInBounds_toArray, List.set_cons_zero, List.set_cons_succ, List.getElem_toArray, List.getElem_cons_succ, List.getElem_cons_zero]
                    refine wpAnyH_take (i := 6) (v := .int .i64 ((j : Int))) rfl (by kernel_rfl) (by kernel_rfl) (by kernel_rfl) (fun _ _ _ h => h) (Or.inl ⟨by kernel_rfl, ?_⟩) hHeld ?_
                    · intro w' hSw; go_simp
                    try simp only [Act.put, List.setIfInBounds_toArray, List.set_cons_zero, List.set_cons_succ, List.getElem_toArray, List.getElem_cons_succ, List.getElem_cons_zero]
                    refine wpAnyH_take (i := 7) (v := .pointer (some ⟨go, j * 3, none⟩)) rfl (by kernel_rfl) (by kernel_rfl) (by kernel_rfl) (fun _ _ _ h => h) (Or.inl ⟨by kernel_rfl, ?_⟩) hHeld ?_
                    · intro w' hSw; go_simp
                    try simp only [Act.put, List.setIfInBounds_toArray, List.set_cons_zero, List.set_cons_succ, List.getElem_toArray, List.getElem_cons_succ, List.getElem_cons_zero]
                    refine wpAnyH_take (i := 8) (v := .agg #[.int .i64 a0, .int .i64 a1, .int .i64 a2]) rfl (by kernel_rfl) (by kernel_rfl) (by kernel_rfl) (fun _ _ _ h => h) (Or.inl ⟨by kernel_rfl, ?_⟩) hHeld ?_
                    · intro w' hSw; obtain ⟨z0, z1, z2⟩ := CLb.out _ (bk0.trans (Below.mono hSw bk0.size)); go_simp
                    try simp only [Act.put, List.setIfInBounds_toArray, List.set_cons_zero, List.set_cons_succ, List.getElem_toArray, List.getElem_cons_succ, List.getElem_cons_zero]
                    refine wpAnyH_take (i := 9) (v := .agg #[.int .i64 a0, .int .i64 a1, .int .i64 a2]) rfl (by kernel_rfl) (by kernel_rfl) (by kernel_rfl) (fun _ _ _ h => h) (Or.inl ⟨by kernel_rfl, ?_⟩) hHeld ?_
                    · intro w' hSw; obtain ⟨z0, z1, z2, -⟩ := (CLr.out _ (bk0.trans (Below.mono hSw bk0.size))).open3; go_simp
                    try simp only [Act.put, List.setIfInBounds_toArray, List.set_cons_zero, List.set_cons_succ, List.getElem_toArray, List.getElem_cons_succ, List.getElem_cons_zero]
                    refine wpAnyH_take (i := 10) (v := .bool true) rfl (by kernel_rfl) (by kernel_rfl) (by kernel_rfl) (fun _ _ _ h => h) (Or.inl ⟨by kernel_rfl, ?_⟩) hHeld ?_
                    · intro w' hSw; go_simp
                    try simp only [Act.put, List.setIfInBounds_toArray, List.set_cons_zero, List.set_cons_succ, List.getElem_toArray, List.getElem_cons_succ, List.getElem_cons_zero]
                    refine wpAnyH_take (i := 11) (v := .bool true) rfl (by kernel_rfl) (by kernel_rfl) (by kernel_rfl) (fun _ _ _ h => h) (Or.inl ⟨by kernel_rfl, ?_⟩) hHeld ?_
                    · intro w' hSw; go_simp
                    try simp only [Act.put, List.setIfInBounds_toArray, List.set_cons_zero, List.set_cons_succ, List.getElem_toArray, List.getElem_cons_succ, List.getElem_cons_zero]
                    refine wpAnyH_done (by kernel_rfl) ?_ _
                    clear hHeld
                    have bz := hid_of (bk0.trans (Below.mono bu bk0.size))
                    go_wp2_with fail
                    go_meet
                    case rel => exact ⟨rfl, bz⟩
                  · obtain rfl : E = false := by
                      cases E
                      · rfl
                      · exact absurd (HE2.out.1 rfl).2.2 c2
                    have c2' : (a2 == s2) = false := by simp [c2]
                    subst c0 c1
                    clear HE2 c2
                    obtain ⟨u0, hu0, bb⟩ : ∃ uu, w7.drew = uu ∧ Below w7.heap.size w7 uu := ⟨_, rfl, (Below.refl _ _).drew⟩
                    have bk0 : Kb w7 u0 := bb
                    clear bb
                    refine wp_region_held_drew (S := Kb u0) (by kernel_rfl) (by rw [hu0]; exact Below.refl _ _) (fun hHeld => ?_)
                    rw [hu0] at hHeld ⊢
                    clear hu0
                    have bu : Kb u0 u0 := Below.refl _ _
                    change wpAnyH _ _ _ _ _ 12 #[false, false, false, false, false, false, false, false, false, false, false, false] _ _
                    refine wpAnyH_take (i := 0) (v := .int .i64 ((j : Int))) rfl (by kernel_rfl) (by kernel_rfl) (by kernel_rfl) (fun _ _ _ h => h) (Or.inl ⟨by kernel_rfl, ?_⟩) hHeld ?_
                    · intro w' hSw; go_simp
                    try simp only [Act.put, List.setIfInBounds_toArray, List.set_cons_zero, List.set_cons_succ, List.getElem_toArray, List.getElem_cons_zero]
                    refine wpAnyH_take (i := 1) (v := .slice ((some ⟨go, 0, none⟩)) m co) rfl (by kernel_rfl) (by kernel_rfl) (by kernel_rfl) (fun _ _ _ h => h) (Or.inl ⟨by kernel_rfl, ?_⟩) hHeld ?_
                    · intro w' hSw; go_simp
                    try simp only [Act.put, List.setIfInBounds_toArray, List.set_cons_zero, List.set_cons_succ, List.getElem_toArray, List.getElem_cons_succ, List.getElem_cons_zero]
                    refine wpAnyH_take (i := 2) (v := .int .i64 ((m : Int))) rfl (by kernel_rfl) (by kernel_rfl) (by kernel_rfl) (fun _ _ _ h => h) (Or.inl ⟨by kernel_rfl, ?_⟩) hHeld ?_
                    · intro w' hSw; go_simp
                    try simp only [Act.put, List.setIfInBounds_toArray, List.set_cons_zero, List.set_cons_succ, List.getElem_toArray, List.getElem_cons_succ, List.getElem_cons_zero]
                    refine wpAnyH_take (i := 3) (v := .bool true) rfl (by kernel_rfl) (by kernel_rfl) (by kernel_rfl) (fun _ _ _ h => h) (Or.inl ⟨by kernel_rfl, ?_⟩) hHeld ?_
                    · intro w' hSw; go_simp
                    try simp only [Act.put, List.setIfInBounds_toArray, List.set_cons_zero, List.set_cons_succ, List.getElem_toArray, List.getElem_cons_succ, List.getElem_cons_zero]
                    refine wpAnyH_take (i := 4) (v := .bool true) rfl (by kernel_rfl) (by kernel_rfl) (by kernel_rfl) (fun _ _ _ h => h) (Or.inl ⟨by kernel_rfl, ?_⟩) hHeld ?_
                    · intro w' hSw; go_simp
                    try simp only [Act.put, List.setIfInBounds_toArray, List.set_cons_zero, List.set_cons_succ, List.getElem_toArray, List.getElem_cons_succ, List.getElem_cons_zero]
                    refine wpAnyH_take (i := 5) (v := .slice ((some ⟨go, 0, none⟩)) m co) rfl (by kernel_rfl) (by kernel_rfl) (by kernel_rfl) (fun _ _ _ h => h) (Or.inl ⟨by kernel_rfl, ?_⟩) hHeld ?_
                    · intro w' hSw; go_simp
                    try simp only [Act.put, List.setIfInBounds_toArray, List.set_cons_zero, List.set_cons_succ, List.getElem_toArray, List.getElem_cons_succ, List.getElem_cons_zero]
                    refine wpAnyH_take (i := 6) (v := .int .i64 ((j : Int))) rfl (by kernel_rfl) (by kernel_rfl) (by kernel_rfl) (fun _ _ _ h => h) (Or.inl ⟨by kernel_rfl, ?_⟩) hHeld ?_
                    · intro w' hSw; go_simp
                    try simp only [Act.put, List.setIfInBounds_toArray, List.set_cons_zero, List.set_cons_succ, List.getElem_toArray, List.getElem_cons_succ, List.getElem_cons_zero]
                    refine wpAnyH_take (i := 7) (v := .pointer (some ⟨go, j * 3, none⟩)) rfl (by kernel_rfl) (by kernel_rfl) (by kernel_rfl) (fun _ _ _ h => h) (Or.inl ⟨by kernel_rfl, ?_⟩) hHeld ?_
                    · intro w' hSw; go_simp
                    try simp only [Act.put, List.setIfInBounds_toArray, List.set_cons_zero, List.set_cons_succ, List.getElem_toArray, List.getElem_cons_succ, List.getElem_cons_zero]
                    refine wpAnyH_take (i := 8) (v := .agg #[.int .i64 a0, .int .i64 a1, .int .i64 a2]) rfl (by kernel_rfl) (by kernel_rfl) (by kernel_rfl) (fun _ _ _ h => h) (Or.inl ⟨by kernel_rfl, ?_⟩) hHeld ?_
                    · intro w' hSw; obtain ⟨z0, z1, z2⟩ := CLb.out _ (bk0.trans (Below.mono hSw bk0.size)); go_simp
                    try simp only [Act.put, List.setIfInBounds_toArray, List.set_cons_zero, List.set_cons_succ, List.getElem_toArray, List.getElem_cons_succ, List.getElem_cons_zero]
                    refine wpAnyH_take (i := 9) (v := .agg #[.int .i64 a0, .int .i64 a1, .int .i64 s2]) rfl (by kernel_rfl) (by kernel_rfl) (by kernel_rfl) (fun _ _ _ h => h) (Or.inl ⟨by kernel_rfl, ?_⟩) hHeld ?_
                    · intro w' hSw; obtain ⟨z0, z1, z2, -⟩ := (CLr.out _ (bk0.trans (Below.mono hSw bk0.size))).open3; go_simp
                    try simp only [Act.put, List.setIfInBounds_toArray, List.set_cons_zero, List.set_cons_succ, List.getElem_toArray, List.getElem_cons_succ, List.getElem_cons_zero]
                    refine wpAnyH_take (i := 10) (v := .bool false) rfl (by kernel_rfl) (by kernel_rfl) (by kernel_rfl) (fun _ _ _ h => h) (Or.inl ⟨by kernel_rfl, ?_⟩) hHeld ?_
                    · intro w' hSw; go_simp
                    try simp only [Act.put, List.setIfInBounds_toArray, List.set_cons_zero, List.set_cons_succ, List.getElem_toArray, List.getElem_cons_succ, List.getElem_cons_zero]
                    refine wpAnyH_take (i := 11) (v := .bool false) rfl (by kernel_rfl) (by kernel_rfl) (by kernel_rfl) (fun _ _ _ h => h) (Or.inl ⟨by kernel_rfl, ?_⟩) hHeld ?_
                    · intro w' hSw; go_simp
                    try simp only [Act.put, List.setIfInBounds_toArray, List.set_cons_zero, List.set_cons_succ, List.getElem_toArray, List.getElem_cons_succ, List.getElem_cons_zero]
                    refine wpAnyH_done (by kernel_rfl) ?_ _
                    clear hHeld
                    have bz := hid_of (bk0.trans (Below.mono bu bk0.size))
                    go_wp2_with fail
                    go_meet
                    case rel => exact ⟨rfl, bz⟩
                · obtain rfl : E = false := by
                    cases E
                    · rfl
                    · exact absurd (HE2.out.1 rfl).2.1 c1
                  have c1' : (a1 == s1) = false := by simp [c1]
                  subst c0
                  clear HE2 c1
                  obtain ⟨u0, hu0, bb⟩ : ∃ uu, w7.drew = uu ∧ Below w7.heap.size w7 uu := ⟨_, rfl, (Below.refl _ _).drew⟩
                  have bk0 : Kb w7 u0 := bb
                  clear bb
                  refine wp_region_held_drew (S := Kb u0) (by kernel_rfl) (by rw [hu0]; exact Below.refl _ _) (fun hHeld => ?_)
                  rw [hu0] at hHeld ⊢
                  clear hu0
                  have bu : Kb u0 u0 := Below.refl _ _
                  change wpAnyH _ _ _ _ _ 12 #[false, false, false, false, false, false, false, false, false, false, false, false] _ _
                  refine wpAnyH_take (i := 0) (v := .int .i64 ((j : Int))) rfl (by kernel_rfl) (by kernel_rfl) (by kernel_rfl) (fun _ _ _ h => h) (Or.inl ⟨by kernel_rfl, ?_⟩) hHeld ?_
                  · intro w' hSw; go_simp
                  try simp only [Act.put, List.setIfInBounds_toArray, List.set_cons_zero, List.set_cons_succ, List.getElem_toArray, List.getElem_cons_zero]
                  refine wpAnyH_take (i := 1) (v := .slice ((some ⟨go, 0, none⟩)) m co) rfl (by kernel_rfl) (by kernel_rfl) (by kernel_rfl) (fun _ _ _ h => h) (Or.inl ⟨by kernel_rfl, ?_⟩) hHeld ?_
                  · intro w' hSw; go_simp
                  try simp only [Act.put, List.setIfInBounds_toArray, List.set_cons_zero, List.set_cons_succ, List.getElem_toArray, List.getElem_cons_succ, List.getElem_cons_zero]
                  refine wpAnyH_take (i := 2) (v := .int .i64 ((m : Int))) rfl (by kernel_rfl) (by kernel_rfl) (by kernel_rfl) (fun _ _ _ h => h) (Or.inl ⟨by kernel_rfl, ?_⟩) hHeld ?_
                  · intro w' hSw; go_simp
                  try simp only [Act.put, List.setIfInBounds_toArray, List.set_cons_zero, List.set_cons_succ, List.getElem_toArray, List.getElem_cons_succ, List.getElem_cons_zero]
                  refine wpAnyH_take (i := 3) (v := .bool true) rfl (by kernel_rfl) (by kernel_rfl) (by kernel_rfl) (fun _ _ _ h => h) (Or.inl ⟨by kernel_rfl, ?_⟩) hHeld ?_
                  · intro w' hSw; go_simp
                  try simp only [Act.put, List.setIfInBounds_toArray, List.set_cons_zero, List.set_cons_succ, List.getElem_toArray, List.getElem_cons_succ, List.getElem_cons_zero]
                  refine wpAnyH_take (i := 4) (v := .bool true) rfl (by kernel_rfl) (by kernel_rfl) (by kernel_rfl) (fun _ _ _ h => h) (Or.inl ⟨by kernel_rfl, ?_⟩) hHeld ?_
                  · intro w' hSw; go_simp
                  try simp only [Act.put, List.setIfInBounds_toArray, List.set_cons_zero, List.set_cons_succ, List.getElem_toArray, List.getElem_cons_succ, List.getElem_cons_zero]
                  refine wpAnyH_take (i := 5) (v := .slice ((some ⟨go, 0, none⟩)) m co) rfl (by kernel_rfl) (by kernel_rfl) (by kernel_rfl) (fun _ _ _ h => h) (Or.inl ⟨by kernel_rfl, ?_⟩) hHeld ?_
                  · intro w' hSw; go_simp
                  try simp only [Act.put, List.setIfInBounds_toArray, List.set_cons_zero, List.set_cons_succ, List.getElem_toArray, List.getElem_cons_succ, List.getElem_cons_zero]
                  refine wpAnyH_take (i := 6) (v := .int .i64 ((j : Int))) rfl (by kernel_rfl) (by kernel_rfl) (by kernel_rfl) (fun _ _ _ h => h) (Or.inl ⟨by kernel_rfl, ?_⟩) hHeld ?_
                  · intro w' hSw; go_simp
                  try simp only [Act.put, List.setIfInBounds_toArray, List.set_cons_zero, List.set_cons_succ, List.getElem_toArray, List.getElem_cons_succ, List.getElem_cons_zero]
                  refine wpAnyH_take (i := 7) (v := .pointer (some ⟨go, j * 3, none⟩)) rfl (by kernel_rfl) (by kernel_rfl) (by kernel_rfl) (fun _ _ _ h => h) (Or.inl ⟨by kernel_rfl, ?_⟩) hHeld ?_
                  · intro w' hSw; go_simp
                  try simp only [Act.put, List.setIfInBounds_toArray, List.set_cons_zero, List.set_cons_succ, List.getElem_toArray, List.getElem_cons_succ, List.getElem_cons_zero]
                  refine wpAnyH_take (i := 8) (v := .agg #[.int .i64 a0, .int .i64 a1, .int .i64 a2]) rfl (by kernel_rfl) (by kernel_rfl) (by kernel_rfl) (fun _ _ _ h => h) (Or.inl ⟨by kernel_rfl, ?_⟩) hHeld ?_
                  · intro w' hSw; obtain ⟨z0, z1, z2⟩ := CLb.out _ (bk0.trans (Below.mono hSw bk0.size)); go_simp
                  try simp only [Act.put, List.setIfInBounds_toArray, List.set_cons_zero, List.set_cons_succ, List.getElem_toArray, List.getElem_cons_succ, List.getElem_cons_zero]
                  refine wpAnyH_take (i := 9) (v := .agg #[.int .i64 a0, .int .i64 s1, .int .i64 s2]) rfl (by kernel_rfl) (by kernel_rfl) (by kernel_rfl) (fun _ _ _ h => h) (Or.inl ⟨by kernel_rfl, ?_⟩) hHeld ?_
                  · intro w' hSw; obtain ⟨z0, z1, z2, -⟩ := (CLr.out _ (bk0.trans (Below.mono hSw bk0.size))).open3; go_simp
                  try simp only [Act.put, List.setIfInBounds_toArray, List.set_cons_zero, List.set_cons_succ, List.getElem_toArray, List.getElem_cons_succ, List.getElem_cons_zero]
                  refine wpAnyH_take (i := 10) (v := .bool false) rfl (by kernel_rfl) (by kernel_rfl) (by kernel_rfl) (fun _ _ _ h => h) (Or.inl ⟨by kernel_rfl, ?_⟩) hHeld ?_
                  · intro w' hSw; go_simp
                  try simp only [Act.put, List.setIfInBounds_toArray, List.set_cons_zero, List.set_cons_succ, List.getElem_toArray, List.getElem_cons_succ, List.getElem_cons_zero]
                  refine wpAnyH_take (i := 11) (v := .bool false) rfl (by kernel_rfl) (by kernel_rfl) (by kernel_rfl) (fun _ _ _ h => h) (Or.inl ⟨by kernel_rfl, ?_⟩) hHeld ?_
                  · intro w' hSw; go_simp
                  try simp only [Act.put, List.setIfInBounds_toArray, List.set_cons_zero, List.set_cons_succ, List.getElem_toArray, List.getElem_cons_succ, List.getElem_cons_zero]
                  refine wpAnyH_done (by kernel_rfl) ?_ _
                  clear hHeld
                  have bz := hid_of (bk0.trans (Below.mono bu bk0.size))
                  go_wp2_with fail
                  go_meet
                  case rel => exact ⟨rfl, bz⟩
              · obtain rfl : E = false := by
                  cases E
                  · rfl
                  · exact absurd (HE2.out.1 rfl).1 c0
                have c0' : (a0 == s0) = false := by simp [c0]
                clear HE2 c0
                obtain ⟨u0, hu0, bb⟩ : ∃ uu, w7.drew = uu ∧ Below w7.heap.size w7 uu := ⟨_, rfl, (Below.refl _ _).drew⟩
                have bk0 : Kb w7 u0 := bb
                clear bb
                refine wp_region_held_drew (S := Kb u0) (by kernel_rfl) (by rw [hu0]; exact Below.refl _ _) (fun hHeld => ?_)
                rw [hu0] at hHeld ⊢
                clear hu0
                have bu : Kb u0 u0 := Below.refl _ _
                change wpAnyH _ _ _ _ _ 12 #[false, false, false, false, false, false, false, false, false, false, false, false] _ _
                refine wpAnyH_take (i := 0) (v := .int .i64 ((j : Int))) rfl (by kernel_rfl) (by kernel_rfl) (by kernel_rfl) (fun _ _ _ h => h) (Or.inl ⟨by kernel_rfl, ?_⟩) hHeld ?_
                · intro w' hSw; go_simp
                try simp only [Act.put, List.setIfInBounds_toArray, List.set_cons_zero, List.set_cons_succ, List.getElem_toArray, List.getElem_cons_zero]
                refine wpAnyH_take (i := 1) (v := .slice ((some ⟨go, 0, none⟩)) m co) rfl (by kernel_rfl) (by kernel_rfl) (by kernel_rfl) (fun _ _ _ h => h) (Or.inl ⟨by kernel_rfl, ?_⟩) hHeld ?_
                · intro w' hSw; go_simp
                try simp only [Act.put, List.setIfInBounds_toArray, List.set_cons_zero, List.set_cons_succ, List.getElem_toArray, List.getElem_cons_succ, List.getElem_cons_zero]
                refine wpAnyH_take (i := 2) (v := .int .i64 ((m : Int))) rfl (by kernel_rfl) (by kernel_rfl) (by kernel_rfl) (fun _ _ _ h => h) (Or.inl ⟨by kernel_rfl, ?_⟩) hHeld ?_
                · intro w' hSw; go_simp
                try simp only [Act.put, List.setIfInBounds_toArray, List.set_cons_zero, List.set_cons_succ, List.getElem_toArray, List.getElem_cons_succ, List.getElem_cons_zero]
                refine wpAnyH_take (i := 3) (v := .bool true) rfl (by kernel_rfl) (by kernel_rfl) (by kernel_rfl) (fun _ _ _ h => h) (Or.inl ⟨by kernel_rfl, ?_⟩) hHeld ?_
                · intro w' hSw; go_simp
                try simp only [Act.put, List.setIfInBounds_toArray, List.set_cons_zero, List.set_cons_succ, List.getElem_toArray, List.getElem_cons_succ, List.getElem_cons_zero]
                refine wpAnyH_take (i := 4) (v := .bool true) rfl (by kernel_rfl) (by kernel_rfl) (by kernel_rfl) (fun _ _ _ h => h) (Or.inl ⟨by kernel_rfl, ?_⟩) hHeld ?_
                · intro w' hSw; go_simp
                try simp only [Act.put, List.setIfInBounds_toArray, List.set_cons_zero, List.set_cons_succ, List.getElem_toArray, List.getElem_cons_succ, List.getElem_cons_zero]
                refine wpAnyH_take (i := 5) (v := .slice ((some ⟨go, 0, none⟩)) m co) rfl (by kernel_rfl) (by kernel_rfl) (by kernel_rfl) (fun _ _ _ h => h) (Or.inl ⟨by kernel_rfl, ?_⟩) hHeld ?_
                · intro w' hSw; go_simp
                try simp only [Act.put, List.setIfInBounds_toArray, List.set_cons_zero, List.set_cons_succ, List.getElem_toArray, List.getElem_cons_succ, List.getElem_cons_zero]
                refine wpAnyH_take (i := 6) (v := .int .i64 ((j : Int))) rfl (by kernel_rfl) (by kernel_rfl) (by kernel_rfl) (fun _ _ _ h => h) (Or.inl ⟨by kernel_rfl, ?_⟩) hHeld ?_
                · intro w' hSw; go_simp
                try simp only [Act.put, List.setIfInBounds_toArray, List.set_cons_zero, List.set_cons_succ, List.getElem_toArray, List.getElem_cons_succ, List.getElem_cons_zero]
                refine wpAnyH_take (i := 7) (v := .pointer (some ⟨go, j * 3, none⟩)) rfl (by kernel_rfl) (by kernel_rfl) (by kernel_rfl) (fun _ _ _ h => h) (Or.inl ⟨by kernel_rfl, ?_⟩) hHeld ?_
                · intro w' hSw; go_simp
                try simp only [Act.put, List.setIfInBounds_toArray, List.set_cons_zero, List.set_cons_succ, List.getElem_toArray, List.getElem_cons_succ, List.getElem_cons_zero]
                refine wpAnyH_take (i := 8) (v := .agg #[.int .i64 a0, .int .i64 a1, .int .i64 a2]) rfl (by kernel_rfl) (by kernel_rfl) (by kernel_rfl) (fun _ _ _ h => h) (Or.inl ⟨by kernel_rfl, ?_⟩) hHeld ?_
                · intro w' hSw; obtain ⟨z0, z1, z2⟩ := CLb.out _ (bk0.trans (Below.mono hSw bk0.size)); go_simp
                try simp only [Act.put, List.setIfInBounds_toArray, List.set_cons_zero, List.set_cons_succ, List.getElem_toArray, List.getElem_cons_succ, List.getElem_cons_zero]
                refine wpAnyH_take (i := 9) (v := .agg #[.int .i64 s0, .int .i64 s1, .int .i64 s2]) rfl (by kernel_rfl) (by kernel_rfl) (by kernel_rfl) (fun _ _ _ h => h) (Or.inl ⟨by kernel_rfl, ?_⟩) hHeld ?_
                · intro w' hSw; obtain ⟨z0, z1, z2, -⟩ := (CLr.out _ (bk0.trans (Below.mono hSw bk0.size))).open3; go_simp
                try simp only [Act.put, List.setIfInBounds_toArray, List.set_cons_zero, List.set_cons_succ, List.getElem_toArray, List.getElem_cons_succ, List.getElem_cons_zero]
                refine wpAnyH_take (i := 10) (v := .bool false) rfl (by kernel_rfl) (by kernel_rfl) (by kernel_rfl) (fun _ _ _ h => h) (Or.inl ⟨by kernel_rfl, ?_⟩) hHeld ?_
                · intro w' hSw; go_simp
                try simp only [Act.put, List.setIfInBounds_toArray, List.set_cons_zero, List.set_cons_succ, List.getElem_toArray, List.getElem_cons_succ, List.getElem_cons_zero]
                refine wpAnyH_take (i := 11) (v := .bool false) rfl (by kernel_rfl) (by kernel_rfl) (by kernel_rfl) (fun _ _ _ h => h) (Or.inl ⟨by kernel_rfl, ?_⟩) hHeld ?_
                · intro w' hSw; go_simp
                try simp only [Act.put, List.setIfInBounds_toArray, List.set_cons_zero, List.set_cons_succ, List.getElem_toArray, List.getElem_cons_succ, List.getElem_cons_zero]
                refine wpAnyH_done (by kernel_rfl) ?_ _
                clear hHeld
                have bz := hid_of (bk0.trans (Below.mono bu bk0.size))
                go_wp2_with fail
                go_meet
                case rel => exact ⟨rfl, bz⟩
            · have hjm' : ¬ (j : Int) < (m : Int) := by omega
              obtain rfl : E = false := by
                have := HE.out
                cases E
                · rfl
                · exact absurd (this.1 rfl).1 hjm
              clear HE CLc HFJ HLO HNL HQ
              obtain ⟨u0, hu0, bb⟩ : ∃ uu, w7.drew = uu ∧ Below w7.heap.size w7 uu := ⟨_, rfl, (Below.refl _ _).drew⟩
              have bk0 : Kb w7 u0 := bb
              clear bb
              refine wp_region_held_drew (S := Kb u0) (by kernel_rfl) (by rw [hu0]; exact Below.refl _ _) (fun hHeld => ?_)
              rw [hu0] at hHeld ⊢
              clear hu0
              have bu : Kb u0 u0 := Below.refl _ _
              change wpAnyH _ _ _ _ _ 12 #[false, false, false, false, false, false, false, false, false, false, false, false] _ _
              refine wpAnyH_take (i := 0) (v := .int .i64 ((j : Int))) rfl (by kernel_rfl) (by kernel_rfl) (by kernel_rfl) (fun _ _ _ h => h) (Or.inl ⟨by kernel_rfl, ?_⟩) hHeld ?_
              · intro w' hSw; go_simp
              try simp only [Act.put, List.setIfInBounds_toArray, List.set_cons_zero, List.set_cons_succ, List.getElem_toArray, List.getElem_cons_zero]
              refine wpAnyH_take (i := 1) (v := .slice ((some ⟨go, 0, none⟩)) m co) rfl (by kernel_rfl) (by kernel_rfl) (by kernel_rfl) (fun _ _ _ h => h) (Or.inl ⟨by kernel_rfl, ?_⟩) hHeld ?_
              · intro w' hSw; go_simp
              try simp only [Act.put, List.setIfInBounds_toArray, List.set_cons_zero, List.set_cons_succ, List.getElem_toArray, List.getElem_cons_succ, List.getElem_cons_zero]
              refine wpAnyH_take (i := 2) (v := .int .i64 ((m : Int))) rfl (by kernel_rfl) (by kernel_rfl) (by kernel_rfl) (fun _ _ _ h => h) (Or.inl ⟨by kernel_rfl, ?_⟩) hHeld ?_
              · intro w' hSw; go_simp
              try simp only [Act.put, List.setIfInBounds_toArray, List.set_cons_zero, List.set_cons_succ, List.getElem_toArray, List.getElem_cons_succ, List.getElem_cons_zero]
              refine wpAnyH_take (i := 3) (v := .bool false) rfl (by kernel_rfl) (by kernel_rfl) (by kernel_rfl) (fun _ _ _ h => h) (Or.inl ⟨by kernel_rfl, ?_⟩) hHeld ?_
              · intro w' hSw; go_simp
              try simp only [Act.put, List.setIfInBounds_toArray, List.set_cons_zero, List.set_cons_succ, List.getElem_toArray, List.getElem_cons_succ, List.getElem_cons_zero]
              refine wpAnyH_take (i := 4) (v := .bool false) rfl (by kernel_rfl) (by kernel_rfl) (by kernel_rfl) (fun _ _ _ h => h) (Or.inl ⟨by kernel_rfl, ?_⟩) hHeld ?_
              · intro w' hSw; go_simp
              try simp only [Act.put, List.setIfInBounds_toArray, List.set_cons_zero, List.set_cons_succ, List.getElem_toArray, List.getElem_cons_succ, List.getElem_cons_zero]
              refine wpAnyH_take (i := 5) (v := undef) rfl (by kernel_rfl) (by kernel_rfl) (by kernel_rfl) (fun _ _ _ h => h) (Or.inr ⟨by kernel_rfl, rfl⟩) hHeld ?_
              try simp only [Act.put, List.setIfInBounds_toArray, List.set_cons_zero, List.set_cons_succ, List.getElem_toArray, List.getElem_cons_succ, List.getElem_cons_zero]
              refine wpAnyH_take (i := 6) (v := undef) rfl (by kernel_rfl) (by kernel_rfl) (by kernel_rfl) (fun _ _ _ h => h) (Or.inr ⟨by kernel_rfl, rfl⟩) hHeld ?_
              try simp only [Act.put, List.setIfInBounds_toArray, List.set_cons_zero, List.set_cons_succ, List.getElem_toArray, List.getElem_cons_succ, List.getElem_cons_zero]
              refine wpAnyH_take (i := 7) (v := undef) rfl (by kernel_rfl) (by kernel_rfl) (by kernel_rfl) (fun _ _ _ h => h) (Or.inr ⟨by kernel_rfl, rfl⟩) hHeld ?_
              try simp only [Act.put, List.setIfInBounds_toArray, List.set_cons_zero, List.set_cons_succ, List.getElem_toArray, List.getElem_cons_succ, List.getElem_cons_zero]
              refine wpAnyH_take (i := 8) (v := undef) rfl (by kernel_rfl) (by kernel_rfl) (by kernel_rfl) (fun _ _ _ h => h) (Or.inr ⟨by kernel_rfl, rfl⟩) hHeld ?_
              try simp only [Act.put, List.setIfInBounds_toArray, List.set_cons_zero, List.set_cons_succ, List.getElem_toArray, List.getElem_cons_succ, List.getElem_cons_zero]
              refine wpAnyH_take (i := 9) (v := undef) rfl (by kernel_rfl) (by kernel_rfl) (by kernel_rfl) (fun _ _ _ h => h) (Or.inr ⟨by kernel_rfl, rfl⟩) hHeld ?_
              try simp only [Act.put, List.setIfInBounds_toArray, List.set_cons_zero, List.set_cons_succ, List.getElem_toArray, List.getElem_cons_succ, List.getElem_cons_zero]
              refine wpAnyH_take (i := 10) (v := undef) rfl (by kernel_rfl) (by kernel_rfl) (by kernel_rfl) (fun _ _ _ h => h) (Or.inr ⟨by kernel_rfl, rfl⟩) hHeld ?_
              try simp only [Act.put, List.setIfInBounds_toArray, List.set_cons_zero, List.set_cons_succ, List.getElem_toArray, List.getElem_cons_succ, List.getElem_cons_zero]
              refine wpAnyH_take (i := 11) (v := .bool false) rfl (by kernel_rfl) (by kernel_rfl) (by kernel_rfl) (fun _ _ _ h => h) (Or.inl ⟨by kernel_rfl, ?_⟩) hHeld ?_
              · intro w' hSw; go_simp
              try simp only [Act.put, List.setIfInBounds_toArray, List.set_cons_zero, List.set_cons_succ, List.getElem_toArray, List.getElem_cons_succ, List.getElem_cons_zero]
              refine wpAnyH_done (by kernel_rfl) ?_ _
              clear hHeld
              have bz := hid_of (bk0.trans (Below.mono bu bk0.size))
              go_wp2_with fail
              go_meet
              case rel => exact ⟨rfl, bz⟩
          case rest =>
            obtain ⟨rfl, HW8⟩ := hcut
            rename World => w8
            have HBL3 := hid_of (HBL2.out.trans (HW8.out.mono HBL2.out.size))
            clear HBL2 HW8 CLc CLr
            have own8 := hid_of (own7.out.below HBL3.out)
            have HA8 := hid_of (HA7.out.below HBL3.out)
            have HB8 := hid_of (HB7.out.trans (HBL3.out.mono HB7.out.size))
            have HQ8 := hid_of (HQ7.out.below HBL3.out)
            clear own7 HA7 HB7 HQ7 HBL3
            cases E
            rotate_left
            · have HI2 := hid_of (HI.out.skip (HE.out.1 rfl).1 ((HE.out.1 rfl).2.trans HQ.out.symm))
              have HN2 : Hid ((Value.slice (some ⟨go, 0, none⟩) m co).ownBlock ≠ some q1) := fun e => by
                simp only [Value.ownBlock, Option.some.injEq] at e
                exact hne1 e
              clear HI HE HNL HLO HFJ HQ HQ8
              have HA9 := HA8.out
              have HB9 := HB8.out
              clear HA8 HB8
              go_wp2
              exact ⟨⟨i + 1, m, F, by omega, by go_num, own8, HN2, HI2, HA9, HB9⟩, by simp [intOf]; omega⟩
            have HHI : Hid (j < m → c3 (s0, s1, s2) (F j) < 0) := fun hjm => by
              have h1 := HNL.out hjm
              rcases c3_tri (F j) (s0, s1, s2) with h | h | h
              · omega
              · exact absurd (HE.out.2 ⟨hjm, h⟩) (by decide)
              · exact h
            clear HNL HE HFJ
            obtain ⟨y0, y1, y2, -⟩ := HQ8.out.open3
            obtain ⟨W9, hW9, a9, b9, -⟩ := boxed w8 64 #[.int .i64 s0, .int .i64 s1, .int .i64 s2]
            obtain ⟨p9, hp9⟩ : ∃ p, w8.heap.size = p := ⟨_, rfl⟩
            have hqp : q7 < p9 := by rw [← hp9]; exact HQ8.out.lt
            rw [hp9] at a9
            have row9 := hid_of (own8.out.below b9).row
            have HQ9 := hid_of (HQ8.out.below b9)
            have HA9 := hid_of (HA8.out.below b9)
            have HB9 := hid_of (HB8.out.trans (b9.mono HB8.out.size))
            have hW9s : p9 < W9.heap.size := a9.lt
            have hB9s := HB9.out.size
            have hm1 : m + 1 ≤ maxLen := by unfold maxLen; omega
            have hm2 : (m + 1) * 24 ≤ 140737488355328 := by omega
            have NW := e3_cells (x := (s0, s1, s2)) a9
            clear own8 HA8 HB8 HQ8 b9
            go_wp2_with (at_builtin; refine Hid.out (?_ : Hid _))
            refine (?_ : wpList _ _ _ _ _ _)
            refine wpList_append_own_at _ rfl _ _ _ rfl w.heap.size 64 i0 _ 3 24 Tryz.underlying78 hi0 hz0 hz1 hz2 rfl (by omega) (.slice (some ⟨go, 0, none⟩) m co) m (iCells (fl3 F) (m * 3)) rfl row9.out ⟨p9, 0, none⟩ 1 1 (e3 (s0, s1, s2)) rfl rfl NW (e3_one _) hm1 hm2 hB9s ?_
            intro v10 w10 hown10 hgrow10 hne10 hblk10
            rw [iCells_e3] at hown10
            have own10 : PtG w10 w.heap.size v10 (m + 1) (fun t => if t = m then (s0, s1, s2) else F t) := ⟨hown10, fun e => by have := (hne10.1 e).2; omega⟩
            obtain ⟨g10, c10, cu10, ev10, hlo10, a10, hs10, hmc10, hcm10, hH10⟩ := own10.open
            subst ev10
            have hg10 : g10 = go ∨ q7 < g10 := by
              rcases hblk10 with e | e
              · simp only [Value.ownBlock, Option.some.injEq] at e; exact .inl e
              · simp only [Value.ownBlock, Option.some.injEq] at e; exact .inr (by omega)
            have hgq10 : g10 ≠ q7 := by omega
            have hgq1 : g10 ≠ q1 := by omega
            have HQ10 : Hid (At 64 w10 q7 #[.int .i64 s0, .int .i64 s1, .int .i64 s2]) := (hgrow10.block q7 HQ9.out.lt (fun e => by simp only [Value.ownBlock, Option.some.injEq] at e; omega)).trans HQ9.out
            have HA10 : Hid (At 64 w10 q1 #[.int .i64 x, .int .i64 y, .int .i64 z]) := (hgrow10.block q1 HA9.out.lt (fun e => by simp only [Value.ownBlock, Option.some.injEq] at e; omega)).trans HA9.out
            have HB10 : Hid (Below w.heap.size w w10) := HB9.out.grown hgrow10 HB9.out.size (fun q e => by simp only [Value.ownBlock, Option.some.injEq] at e; omega)
            have HS10 : Hid (Shift3 w10 g10 c10 m m F) := ⟨cu10, a10, hs10, fun t ht => by
              have := hH10 t (by omega)
              rwa [if_neg (by omega)] at this, fun t h1 h2 => by omega⟩
            have hmc10' : m < c10 := by omega
            clear hown10 hgrow10 hne10 hblk10 own10 a10 hs10 hH10 hg10 row9 HQ9 HA9 HB9 NW a9 hW9 hp9 hqp hW9s hB9s hm1 hm2 y0 y1 y2
            go_wp2
            go_loopw [9] (fun s9 wl => ∃ k : Nat, j ≤ k ∧ k ≤ m ∧ s9 = .int .i64 (k : Int) ∧ Hid (Shift3 wl g10 c10 m k F) ∧ Hid (Kept g10 w10 wl)) (fun s9 _ => (intOf s9).toNat)
            case atStart => exact ⟨m, hj, Nat.le_refl _, by go_num, HS10, Kept.refl _ _⟩
            case round =>
              clear HS10
              obtain ⟨k, hjk, hkm, rfl, HS, HK⟩ := hrel
              by_cases hk : j < k
              · have hk' : (j : Int) < (k : Int) := by omega
                obtain ⟨k1, hk1⟩ : ∃ k1, k = k1 + 1 := ⟨k - 1, by omega⟩
                have hw1 : IntKind.i64.wrap ((k : Int) - 1) = (k1 : Int) := (IntWalk.i64_in _ (by omega)).trans (by omega)
                have hkk : (k : Int) - 1 = (k1 : Int) := by omega
                have h1 : (k1 : Int) < (m : Int) + 1 := by omega
                have h2 : (k : Int) < (m : Int) + 1 := by omega
                obtain ⟨f0, f1, f2, hF⟩ : ∃ f0 f1 f2, F k1 = (f0, f1, f2) := ⟨_, _, _, rfl⟩
                have HS2 := HS.out.step hk1 (by omega) hmc10'
                rw [hF] at HS2
                have CE : wr.cell? ⟨g10, k1 * 3, none⟩ = some (.int .i64 f0) ∧ wr.cell? ⟨g10, k1 * 3 + 1, none⟩ = some (.int .i64 f1) ∧ wr.cell? ⟨g10, k1 * 3 + 2, none⟩ = some (.int .i64 f2) := by
                  obtain ⟨cu, a, -, h3, -⟩ := HS.out
                  have := h3_cells a (h3 k1 (by omega))
                  rwa [hF] at this
                obtain ⟨x0, x1, x2⟩ := CE
                obtain ⟨y0, t0⟩ := HS.out.cells (j := k * 3) (by omega)
                obtain ⟨y1, t1⟩ := HS.out.cells (j := k * 3 + 1) (by omega)
                obtain ⟨y2, t2⟩ := HS.out.cells (j := k * 3 + 2) (by omega)
                have HK2 := HK.out.trans (put3L_kept wr g10 k (f0, f1, f2))
                unfold put3L at HS2 HK2
                have HS3 := hid_of HS2
                have HK3 := hid_of HK2
                have HKK := hid_of hk1
                clear HS HK HS2 HK2 hF hk1
                go_wp2
                exact ⟨⟨k1, by have := HKK.out; omega, by have := HKK.out; omega, by go_num, HS3, HK3⟩, by have := HKK.out; simp [intOf]; omega⟩
              · obtain rfl : k = j := by omega
                have hk' : ¬ (k : Int) < (k : Int) := by omega
                have hk2 : (k : Int) < (m : Int) + 1 := by omega
                have PP := HS.out.last (x := (s0, s1, s2)) hkm hmc10' hcm10 hlo10
                obtain ⟨y0, t0⟩ := HS.out.cells (j := k * 3) (by omega)
                obtain ⟨y1, t1⟩ := HS.out.cells (j := k * 3 + 1) (by omega)
                obtain ⟨y2, t2⟩ := HS.out.cells (j := k * 3 + 2) (by omega)
                have HQr : At 64 wr q7 #[.int .i64 s0, .int .i64 s1, .int .i64 s2] := (HK.out.block q7 HQ10.out.lt (by omega)).trans HQ10.out
                obtain ⟨z0, z1, z2, -⟩ := HQr.open3
                have HK2 := HK.out.trans (put3L_kept wr g10 k (s0, s1, s2))
                have HA2 : At 64 (put3L wr g10 k (s0, s1, s2)) q1 #[.int .i64 x, .int .i64 y, .int .i64 z] := (HK2.block q1 HA10.out.lt (by omega)).trans HA10.out
                have HB2 : Below w.heap.size w (put3L wr g10 k (s0, s1, s2)) := HB10.out.trans (HK2.below hlo10 HB10.out.size)
                have HI2 := HI.out.add (c := k) hkm (by rw [HQ.out]; exact HLO.out) (by rw [HQ.out]; exact HHI.out)
                rw [HQ.out] at HI2
                have HI3 := hid_of HI2
                unfold put3L at PP HA2 HB2
                have PP3 := hid_of PP
                have HA3 := hid_of HA2
                have HB3 := hid_of HB2
                have HN3 : Hid ((Value.slice (some ⟨g10, 0, none⟩) (m + 1) c10).ownBlock ≠ some q1) := fun e => by
                  simp only [Value.ownBlock, Option.some.injEq] at e
                  exact hgq1 e
                clear HS HK HK2 HQr HI HI2 HLO HHI HQ PP HA2 HB2 HQ10 HA10 HB10
                go_wp2
                exact ⟨⟨i + 1, m + 1, _, by omega, by go_num, PP3, HN3, HI3, HA3.out, HB3.out⟩, by simp [intOf]; omega⟩
end Go.Proofs.YtgjhbkpocbihbaaGreat
/-
  The library's AppendSeq at points, over whatever iterator tells them: walked.
-/
namespace Go.Proofs.YtgjhbkpocbihbaaGreat
open Go.RowKit Go.Maps Go.Sort Go.Shelf

/-- What AppendSeq tells. -/
def ApP (w : World) (g0 n : Nat) (P : Nat → T3) (e : Ending) (w' : World) : Prop :=
  ∃ v, e = .returned v ∧ w'.ownsRow g0 64 3 v n (lc3 ((List.range n).map P)) ∧ v ≠ .slice none 0 0 ∧ (∀ k, v.ownBlock = some k → k = g0 ∨ w.heap.size ≤ k) ∧ Kept g0 w w'
set_option maxRecDepth 100000 in
set_option maxHeartbeats 2000000 in
theorem appendSeq3_in {w : World} {g0 n : Nat} {cur : Array Value} (P : Nat → T3) (gf : Nat) (lb : Array Value) (eg : ∀ args w, (callFunc gf args).run Tryz.prog w = .ok (.enter gf args) w) (hn : n ≤ 192) (hg : At 64 w g0 cur) (hz : cur.size = 0)
    (hseq : SeqStopsK (α := { x : Nat // x < n }) Fence.wide 1 Tryz.prog gf lb (fun y => #[tV (P y.1)]) (KpB w.heap.size g0) (fun xs => xs = upl n n) (fun _ => True) n w) :
    CallsIn Fence.wide 2 Tryz.prog 76 #[.slice (some ⟨g0, 0, none⟩) 0 0, .func (.func gf) #[] lb] w (ApP w g0 n P) := by
  have hne : (78 : Nat) ≠ 64 := by decide
  have hl0 := hg.lt
  refine callsIn_of_wp_marks Tryz.func76 rfl trivial ?_ rfl
  simp only [Tryz.ntmps76, List.size_toArray, List.length_cons, List.length_nil, Nat.reduceAdd, Nat.reduceSub, Array.replicate_succ, Array.replicate_zero, List.push_toArray, List.append_toArray, List.nil_append, List.cons_append]
  gi_wp2
  refine wpIn_rangeFunc ?_
  intro fn hfn
  obtain ⟨W0, hW0⟩ : ∃ W0, w.alloc (.cells #[.slice (some ⟨g0, 0, none⟩) 0 0] 78) = W0 := ⟨_, rfl⟩
  have hs0 : W0.heap.size = w.heap.size + 1 := by rw [← hW0]; simp
  have hv0 : W0.heap[w.heap.size]? = some (.cells #[.slice (some ⟨g0, 0, none⟩) 0 0] 78 (0, 0)) := by rw [← hW0]; exact World.alloc_heap_new w _
  have hb0 : Below w.heap.size w W0 := by rw [← hW0]; exact (Below.refl _ w).alloc (Nat.le_refl _) _
  rw [hW0]
  obtain ⟨W1, hW1⟩ : ∃ W1, (W0.alloc (.deferred (some []))).alloc (.loop (apRec3 fn (.slice (some ⟨g0, 0, none⟩) 0 0) (.func (.func gf) #[] lb) w.heap.size W0.heap.size .ready none)) = W1 := ⟨_, rfl⟩
  have hold : ∀ k, k < W0.heap.size → W1.heap[k]? = W0.heap[k]? := fun k hk => by
    rw [← hW1]; exact (Below.heap_alloc _ _ k (by simp; omega)).trans (Below.heap_alloc _ _ k hk)
  have hb1 : Below w.heap.size w W1 := by rw [← hW1]; exact (hb0.alloc hb0.size _).alloc (by have := hb0.size; simp; omega) _
  have hs1 : W1.heap.size = W0.heap.size + 2 := by rw [← hW1]; simp
  have hrow0 : W1.ownsRow g0 64 3 (.slice (some ⟨g0, 0, none⟩) 0 0) 0 [] := ⟨rfl, .inr ⟨g0, 0, cur, rfl, Nat.le_refl _, hg.below hb1, Nat.le_refl _, Nat.zero_le _, by rw [hz], by simp⟩⟩
  have hM : ApAt3 w g0 g0 fn (.slice (some ⟨g0, 0, none⟩) 0 0) (.func (.func gf) #[] lb) w.heap.size (W0.heap.size + 1) W0.heap.size [] W1 :=
    ⟨⟨_, (hold w.heap.size (by omega)).trans hv0, hrow0, ne_nil _ _ _, fun k e => by cases e; exact .inl rfl⟩,
     by rw [← hW1]; have := World.alloc_heap_new (W0.alloc (.deferred (some []))) (.loop (apRec3 fn (.slice (some ⟨g0, 0, none⟩) 0 0) (.func (.func gf) #[] lb) w.heap.size W0.heap.size .ready none)); rwa [World.size_alloc] at this,
     by rw [← hW1]; exact (Below.heap_alloc _ _ _ (by simp)).trans (World.alloc_heap_new W0 _), Kept.of_below hb1⟩
  refine ⟨W0.heap.size + 1, [{ target := .collected W0.heap.size, args := #[] }], W1, { target := .fn (.func gf) lb, args := #[.func (.yield (W0.heap.size + 1)) #[] #[]] }, W1, gf,
    #[.func (.yield (W0.heap.size + 1)) #[] #[]] ++ lb, W1, ?_, ?_, ?_, ?_, fun _ => by omega, ?_⟩
  · rw [← hW1]; exact run_enterLoop_outer _ _ _ _ _
  · simp [resolve, go_sem]
  · intro f' hf'; trivial
  · simp [invoke, go_sem, eg]
  · refine (hseq (W0.heap.size + 1) (fun pre W => ApAt3 w g0 g0 fn (.slice (some ⟨g0, 0, none⟩) 0 0) (.func (.func gf) #[] lb) w.heap.size (W0.heap.size + 1) W0.heap.size (pre.map (fun y : { x : Nat // x < n } => P y.1)) W) (fun _ _ => False) W1 hb1 (fun s A B row hs hgr hr => ap_abides3 w g0 g0 fn _ _ _ _ _ W1.heap.size hb1.size (s.map (fun y : { x : Nat // x < n } => P y.1)) A B row hs hgr hr) (fun _ _ _ _ hs _ _ => hs)
      (fun pre y W hJ hl => (apYield3 Fence.wide 0 w g0 g0 fn hfn _ _ w.heap.size (W0.heap.size + 1) W0.heap.size (by omega) (by omega) (by omega) (Nat.le_refl _) (by omega) (by omega) 192 (by unfold maxLen; omega) (by omega) _ (P y.1) W hJ (by rw [List.length_map]; omega)).mono (fun e w' ⟨h1, h2, h3⟩ => .inl ⟨h1, by rw [List.map_append]; exact h2, h3⟩)) hM).mono ?_
    rintro e W2 ⟨⟨v0, rfl⟩, (⟨xs, rfl, h2⟩ | ⟨_, _, h2⟩)⟩
    rotate_left
    · exact h2.elim
    rw [upl_map n P n (Nat.le_refl _)] at h2
    obtain ⟨v, hv, hrow, hnil, hvb⟩ := h2.box
    rw [List.length_map, List.length_range] at hrow
    have hend := run_endLoop (P := Tryz.prog) h2.L (by simp [apRec3])
    obtain ⟨W3, hW3⟩ : ∃ W3, W2.putObj (W0.heap.size + 1) (.loop { apRec3 fn (.slice (some ⟨g0, 0, none⟩) 0 0) (.func (.func gf) #[] lb) w.heap.size W0.heap.size .ready none with state := .exhausted }) = W3 := ⟨_, rfl⟩
    rw [hW3] at hend
    have hg3 : W2.grownBy W3 (some (W0.heap.size + 1)) := by rw [← hW3]; exact grownBy_putObj_a _ _ _
    have hv3 : W3.heap[w.heap.size]? = some (.cells #[v] 78 (0, 0)) := by rw [← hW3]; exact (World.putObj_heap_other (by omega)).trans hv
    have hK3 : W3.heap[W0.heap.size]? = some (.deferred (some [])) := by rw [← hW3]; exact (World.putObj_heap_other (by omega)).trans h2.K
    have hrow3 := hrow.kept hg3 (ownsRow_ne_a hrow h2.L (fun cur e => by first | cases e | exact hne (Obj.cells.inj e).2.1))
    have hb3 : Kept g0 w W3 := h2.kept.grownK hg3 (fun k e => by cases e; exact .inr (by omega))
    obtain ⟨hc3, hf3⟩ := cell_of_box_a hv3
    clear hW3
    refine ⟨none, W3, hend, ?_⟩
    gi_wp2
    rw [← hs0]
    refine ⟨by simp, .inl ⟨_, _, rfl, run_takeDeferred hK3, ?_⟩⟩
    exact ⟨_, results_tmp rfl _ _ _, v, rfl, hrow3.kept (grownBy_putObj_a _ _ _) (ownsRow_ne_a hrow3 hK3 (fun cur e => by first | cases e | exact hne (Obj.cells.inj e).2.1)), hnil, hvb, hb3.grownK (grownBy_putObj_a _ _ _) (fun k e => by cases e; exact .inr (by omega))⟩
end Go.Proofs.YtgjhbkpocbihbaaGreat
/-
  The orbit by the program, and by the specification: walked.
-/
namespace Go.Proofs.YtgjhbkpocbihbaaGreat
open Go.RowKit Go.Lib

/-- What the program's orbit of a list of operators tells. -/
theorem lc3_iCells (P : Nat → T3) (n : Nat) : lc3 ((List.range n).map P) = iCells (fl3 P) (n * 3) := by
  refine iCells_ext (by rw [lc3_len]; simp) (fun j hj => ?_)
  have h : ∀ m, (lc3 ((List.range m).map P))[j]? = if j < m * 3 then some (.int .i64 (fl3 P j)) else none := by
    intro m
    induction m with
    | zero => simp [lc3]
    | succ m ih =>
      rw [List.range_succ, List.map_append, List.map_cons, List.map_nil, lc3_snoc]
      have hl : (lc3 ((List.range m).map P)).length = m * 3 := by rw [lc3_len]; simp
      by_cases e : j < m * 3
      · rw [List.getElem?_append_left (by rw [hl]; exact e), ih, if_pos e, if_pos (by omega)]
      · rw [List.getElem?_append_right (by rw [hl]; omega), hl]
        by_cases e' : j < (m + 1) * 3
        · rw [if_pos e']
          unfold fl3
          have hjm : j / 3 = m := by omega
          rw [hjm]
          rcases (by omega : j = m * 3 ∨ j = m * 3 + 1 ∨ j = m * 3 + 2) with h | h | h
          · rw [h, show m * 3 - m * 3 = 0 by omega, show m * 3 % 3 = 0 by omega]; rfl
          · rw [h, show m * 3 + 1 - m * 3 = 1 by omega, show (m * 3 + 1) % 3 = 1 by omega]; rfl
          · rw [h, show m * 3 + 2 - m * 3 = 2 by omega, show (m * 3 + 2) % 3 = 2 by omega]; rfl
        · rw [if_neg e', List.getElem?_eq_none (by simp [e3]; omega)]
  rw [h n, if_pos hj]
theorem ptG_c3 {w : World} {lo m : Nat} {v : Value} {F : Nat → T3} (h : PtG w lo v m F) : ∃ g c, v = .slice (some ⟨g, 0, none⟩) m c ∧ lo ≤ g ∧ m ≤ c ∧ c ≤ maxLen ∧ C3 w g c ((List.range m).map F).toArray := by
  obtain ⟨g, c, cur, e, hl, a, hs, hm, hc, hH⟩ := h.open
  refine ⟨g, c, e, hl, hm, hc, cur, a, hs, fun i hi => ?_⟩
  have hi' : i < m := by simpa using hi
  have : ((List.range m).map F).toArray[i]! = F i := by rw [getElem!_pos _ i hi]; simp
  rw [this]
  exact hH i hi'
theorem c3_ptG {w : World} {g c m lo : Nat} {l : List T3} (h : C3 w g c l.toArray) (hl : l.length = m) (hm : m ≤ c) (hc : c ≤ maxLen) (hlo : lo ≤ g) : PtG w lo (.slice (some ⟨g, 0, none⟩) m c) m (fun t => l[t]!) := by
  obtain ⟨cur, a, hs, hH⟩ := h
  refine ptG_of a hs hm hc hlo (fun t ht => ?_)
  have := hH t (by simpa [hl] using ht)
  have e : l.toArray[t]! = l[t]! := by
    rw [getElem!_pos _ t (by simpa [hl] using ht), List.getElem!_eq_getElem?_getD, List.getElem?_eq_getElem (by omega)]
    simp
  rw [e] at this
  exact this
set_option maxRecDepth 100000 in
set_option maxHeartbeats 3000000 in
theorem orbitOf_any {w : World} {lo n : Nat} {v : Value} {Q : Nat → Nat} {K : Nat → Nat → Int} {x : T3} (hD : DeedsG w lo v n Q K) (hn : n ≤ 192) (hR : ∀ i, i < n → isR (K i) (kh (K i))) (hp : inP x.1 x.2.1 x.2.2) :
    Calls Tryz.prog 51 #[tV x, v] w (OrbP w n (fun i => tO (actV (K i) (kh (K i)) (p3 x.1 x.2.1 x.2.2)))) := by
  obtain ⟨P, hP⟩ : ∃ P : Nat → T3, (fun i => tO (actV (K i) (kh (K i)) (p3 x.1 x.2.1 x.2.2))) = P := ⟨_, rfl⟩
  have hPi : ∀ i, i < n → P i = tO (actV (K i) (kh (K i)) (p3 x.1 x.2.1 x.2.2)) := fun i _ => by rw [← hP]
  rw [hP]
  clear hP
  have hbs : ∀ w, (Instr.buildSlice 78 0 #[]).run Tryz.prog w = .ok (.slice (some ⟨w.heap.size, 0, none⟩) 0 0) (w.alloc (.cells #[] 64)) := fun _ => by kernel_rfl
  obtain ⟨gd, cd, rfl, hlo, hgd, -, hdl⟩ := hD.open
  obtain ⟨W1, hW1, A1, B1, -⟩ := boxed w 64 #[.int .i64 x.1, .int .i64 x.2.1, .int .i64 x.2.2]
  obtain ⟨q1, hq1⟩ : ∃ q, w.heap.size = q := ⟨_, rfl⟩
  rw [hq1] at A1
  obtain ⟨W2, hW2, A2, B2, -⟩ := boxed W1 64 #[]
  obtain ⟨g0, hg0⟩ : ∃ q, W1.heap.size = q := ⟨_, rfl⟩
  rw [hg0] at A2
  have A12 := A1.below B2
  obtain ⟨d0, d1, d2, -⟩ := A12.open3
  have B := B1.trans (B2.mono B1.size)
  have l10 : q1 < g0 := by rw [← hg0]; exact A1.lt
  have HD0 := hid_of hD
  have HD2 := hid_of (hD.below B)
  have HDL := hid_of hdl
  have HPI := hid_of hPi
  have HR := hid_of hR
  have HP := hid_of hp
  have HA2 := hid_of A2
  have HB := hid_of B
  clear hD hdl A1 B1 hPi hR hp A2 B2 B
  go_enter Tryz.func51, Tryz.ntmps51
  go_wp2_with fail
  refine (pointsFrom_any x gd n cd _).mono ?_
  rintro e w3 ⟨rfl, hw3⟩
  obtain ⟨bp, hbp⟩ : ∃ q, W2.heap.size = q := ⟨_, rfl⟩
  have hz3 : w3.heap.size = bp + 2 := by rw [hw3, ← hbp]; simp
  have b3 : Below W2.heap.size W2 w3 := by rw [hw3]; exact ((Below.refl _ W2).alloc (Nat.le_refl _) _).alloc (by simp) _
  have a3 : At 64 w3 bp #[.int .i64 x.1, .int .i64 x.2.1, .int .i64 x.2.2] := by
    rw [hw3, ← hbp]
    exact (at_new 64 W2 _).below (below_alloc _ _)
  have c3 : At 56 w3 (bp + 1) #[.slice (some ⟨gd, 0, none⟩) n cd] := by
    rw [hw3, ← hbp]
    have := at_new 56 (W2.alloc (.cells #[.int .i64 x.1, .int .i64 x.2.1, .int .i64 x.2.2] 64)) #[.slice (some ⟨gd, 0, none⟩) n cd]
    simpa using this
  have lg0 : g0 < bp := by rw [← hbp]; exact HA2.out.lt
  have HD3 := HD2.out.below b3
  have PTS : PtsAt w3 w3.heap.size g0 (bp + 1) bp gd n cd Q K x := by
    obtain ⟨g', c', e', -, -, -, hc⟩ := HD3.open
    cases e'
    refine ⟨c3.cell 0 rfl, a3, hc, fun i hi => (HD3.bx i hi).2, ⟨by omega, by omega, by omega, by omega, by omega, by omega, Nat.le_refl _⟩, fun i hi => ?_⟩
    have := (HD0.out.bx i hi).2.lt
    exact ⟨by omega, by omega⟩
  have hA3 := HA2.out.below b3
  have HB3 := hid_of (HB.out.trans (b3.mono HB.out.size))
  have eg : ∀ args w, (callFunc 64 args).run Tryz.prog w = .ok (.enter 64 args) w := enters_of Tryz.func64 (by kernel_rfl) rfl
  have AS := (callsIn_wide (n := 2)).1 (appendSeq3_in P 64 #[.pointer (some ⟨bp + 1, 0, none⟩), .pointer (some ⟨bp, 0, none⟩)] eg hn hA3 rfl (points_stops 1 PTS hn HR.out HP.out P HPI.out))
  clear PTS hA3 eg HD3 a3 c3 b3 HD2 HD0 HDL HPI HR HP HA2 HB hw3 d0 d1 d2 A12
  go_wp2_with fail
  refine AS.mono ?_
  rintro e w4 ⟨v4, rfl, hrow4, hnn4, -, hk4⟩
  rw [lc3_iCells] at hrow4
  have hlo4 : w.heap.size ≤ g0 := by omega
  have G4 : PtG w4 w.heap.size v4 n P := ⟨by
    obtain ⟨e0, h1 | ⟨g', c', cur', e', hb', r⟩⟩ := hrow4
    · exact ⟨e0, .inl h1⟩
    · exact ⟨e0, .inr ⟨g', c', cur', e', Nat.le_trans hlo4 hb', r⟩⟩, hnn4⟩
  have HB4 := hid_of (HB3.out.trans (hk4.below hlo4 HB3.out.size))
  obtain ⟨g4, c4, rfl, hl4, hn4, hc4, hC4⟩ := ptG_c3 G4
  have hsz : ((List.range n).map P).toArray.size = n := by simp
  clear AS HB3 hrow4 hnn4 hk4 G4
  go_wp2_with fail
  refine (sortP_any hC4 hsz (by omega) hn4).mono ?_
  rintro e w5 ⟨rfl, ⟨d', hd', hpm, hso, hC5⟩, hk5⟩
  have HB5 := hid_of (HB4.out.trans (hk5.below hl4 HB4.out.size))
  have OC := hid_of (orb_compact (P := P) hsz (fun i hi => by rw [getElem!_pos _ i (by rw [hsz]; exact hi)]; simp) hd' hpm hso)
  have CC := compactP_any (B := w.heap.size) hC5 (by omega) (by omega) hl4
  rw [hd'] at CC
  have HDS := hid_of hd'
  have hC4n : n ≤ c4 := hn4
  clear hC4 hC5 hpm hso hk5 HB4 hsz hd'
  go_wp2_with fail
  refine CC.mono ?_
  rintro e w6 ⟨rfl, hC6, hb6⟩
  rw [HDS.out] at hC6
  obtain ⟨l, hl⟩ : ∃ l, compactUpTo d' n = l := ⟨_, rfl⟩
  rw [hl] at hC6 OC ⊢
  have hlen := OC.out.le
  have G6 : Hid (PtG w6 w.heap.size (.slice (some ⟨g4, 0, none⟩) l.length c4) l.length (fun t => l[t]!)) := c3_ptG hC6 rfl (by omega) hc4 hl4
  have HB6 := hid_of (HB5.out.trans hb6)
  clear CC hC6 hb6 hl HDS HB5
  go_wp2
  go_ret
  exact ⟨⟨_, _, _, rfl, G6.out, OC.out⟩, HB6.out⟩
end Go.Proofs.YtgjhbkpocbihbaaGreat
