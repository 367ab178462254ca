/-
  The iterator over a point's deeds: walked.
-/
import Derived.Test.YtehbpcoiciodhaaGreatO3a
import Derived.Test.YtehbpcoiciodhaaGreatO3c
import Derived.RangeFuncFrom
import Derived.RangeFuncBound
import Derived.TacticsInMore
import Derived.LoopNIn
import Derived.LoopIn
namespace Go.Proofs.YtehbpcoiciodhaaGreat
open Go.RowKit Go.Shelf

/-- The first t numbers below n. -/
def upl (n : Nat) : Nat → List { x : Nat // x < n }
  | 0 => []
  | t + 1 => if h : t < n then upl n t ++ [⟨t, h⟩] else upl n t
theorem upl_next {n t : Nat} (h : t < n) : upl n (t + 1) = upl n t ++ [⟨t, h⟩] := by
  conv => lhs; unfold upl
  rw [dif_pos h]
theorem upl_len (n : Nat) : ∀ t, t ≤ n → (upl n t).length = t
  | 0, _ => rfl
  | t + 1, h => by
    rw [upl_next (show t < n by omega), List.length_append, upl_len n t (by omega)]
    rfl
theorem upl_map {α : Type} (n : Nat) (P : Nat → α) : ∀ t, t ≤ n → (upl n t).map (fun y => P y.1) = (List.range t).map P
  | 0, _ => rfl
  | t + 1, h => by
    rw [upl_next (show t < n by omega), List.map_append, upl_map n P t (by omega), List.range_succ, List.map_append]
    rfl
theorem pointsFrom_any (x : T3) (gd n cd : Nat) (w : World) : Calls Tryz.prog 71 #[tV x, .slice (some ⟨gd, 0, none⟩) n cd] w fun e w' => e = .returned (.func (.func 103) #[] #[.pointer (some ⟨w.heap.size + 1, 0, none⟩), .pointer (some ⟨w.heap.size, 0, none⟩)]) ∧ w' = (w.alloc (.cells #[.int .i64 x.1, .int .i64 x.2.1, .int .i64 x.2.2] 30)).alloc (.cells #[.slice (some ⟨gd, 0, none⟩) n cd] 63) := by
  go_enter Tryz.func71, Tryz.ntmps71
  go_wp2
  go_ret
  exact ⟨rfl, rfl⟩
/-- What the iterator reads. -/
structure PtsAt (W : World) (B g0 bd bp gd n cd : Nat) (Q : Nat → Nat) (K : Nat → Nat → Int) (x : T3) : Prop where
  dc : W.cell? ⟨bd, 0, none⟩ = some (.slice (some ⟨gd, 0, none⟩) n cd)
  pc : At 30 W bp #[.int .i64 x.1, .int .i64 x.2.1, .int .i64 x.2.2]
  dl : ∀ i, i < n → W.cell? ⟨gd, i, none⟩ = some (dV (Q i))
  bx : ∀ i, i < n → At 95 W (Q i) (opA (K i) (kh (K i)))
  lt : bd < B ∧ bp < B ∧ gd < B ∧ bd ≠ g0 ∧ bp ≠ g0 ∧ gd ≠ g0 ∧ B ≤ W.heap.size
  lq : ∀ i, i < n → Q i < B ∧ Q i ≠ g0
theorem PtsAt.kp {W W' : World} {B g0 bd bp gd n cd : Nat} {Q : Nat → Nat} {K : Nat → Nat → Int} {x : T3} (h : PtsAt W B g0 bd bp gd n cd Q K x) (hk : KpB B g0 W W') (hs : B ≤ W'.heap.size) : PtsAt W' B g0 bd bp gd n cd Q K x := by
  obtain ⟨l1, l2, l3, n1, n2, n3, -⟩ := h.lt
  exact ⟨(World.cell?_of_block (hk.2 bd l1 n1)).trans h.dc, (hk.2 bp l2 n2).trans h.pc, fun i hi => (World.cell?_of_block (hk.2 gd l3 n3)).trans (h.dl i hi), fun i hi => (hk.2 _ (h.lq i hi).1 (h.lq i hi).2).trans (h.bx i hi), ⟨l1, l2, l3, n1, n2, n3, hs⟩, h.lq⟩
theorem PtsAt.below {W W' : World} {B g0 bd bp gd n cd : Nat} {Q : Nat → Nat} {K : Nat → Nat → Int} {x : T3} (h : PtsAt W B g0 bd bp gd n cd Q K x) (hb : Below W.heap.size W W') : PtsAt W' B g0 bd bp gd n cd Q K x := by
  have h7 := h.lt.2.2.2.2.2.2
  exact h.kp ⟨hb.size, fun k h1 _ => hb.block k (by omega)⟩ (Nat.le_trans h7 hb.size)
/-- A point's numbers. -/
def tO (v : Nat → Int) : T3 := (v 0, v 1, v 2)
set_option maxRecDepth 100000 in
set_option maxHeartbeats 2000000 in
theorem points_stops (n0 : Nat) {w : World} {g0 bd bp gd n cd : Nat} {Q : Nat → Nat} {K : Nat → Nat → Int} {x : T3} (h : PtsAt w w.heap.size g0 bd bp gd n cd Q K x) (hn : n ≤ 192) (hR : ∀ i, i < n → isR (K i) (kh (K i))) (hp : inP x.1 x.2.1 x.2.2) (P : Nat → T3) (hP : ∀ i, i < n → P i = tO (actV (K i) (kh (K i)) (p3 x.1 x.2.1 x.2.2))) :
    SeqStopsK (α := { x : Nat // x < n }) Fence.wide n0 Tryz.prog 103 #[.pointer (some ⟨bd, 0, none⟩), .pointer (some ⟨bp, 0, none⟩)] (fun y => #[tV (P y.1)]) (KpB w.heap.size g0) (fun xs => xs = upl n n) (fun _ => True) n w := by
  intro l J Jx W bW hJ hJx hY h0
  have hwf : ∀ f, Fence.wide.fn f := fun _ => trivial
  have hwd : Fence.wide.depth.isSome = false := rfl
  have H := hid_of (h.below bW)
  clear h
  have hn' : (n : Int) ≤ 192 := by omega
  have zB := bW.size
  refine callsIn_of_wp Tryz.func103 rfl trivial ?_ rfl
  simp only [Tryz.ntmps103, List.size_toArray, List.length_cons, List.length_nil, Nat.reduceAdd, Nat.reduceSub, Array.replicate_succ, Array.replicate_zero, List.push_toArray, List.append_toArray, List.nil_append, List.cons_append]
  have c0 := H.out.dc
  gi_wp2
  clear c0
  gi_loopw [8] (fun u wr => ∃ t : Nat, t ≤ n ∧ u = .int .i64 (t : Int) ∧ Hid (PtsAt wr w.heap.size g0 bd bp gd n cd Q K x) ∧ J (upl n t) wr ∧ W.heap.size ≤ wr.heap.size) (fun u _ => n - (intOf u).toNat)
  case atStart => exact ⟨0, Nat.zero_le _, rfl, H, h0, Nat.le_refl _⟩
  case round =>
    clear H h0
    obtain ⟨t, ht, rfl, H, hj, zW⟩ := hrel
    by_cases htn : t < n
    · have htn' : (t : Int) < (n : Int) := by omega
      have dc := H.out.dl t htn
      obtain ⟨p0, p1, p2, -⟩ := H.out.pc.open3
      unfold dV at dc
      have CL := deed1_any (hR t htn) hp (H.out.bx t htn)
      have HPt := hP t htn
      unfold tO at HPt
      unfold vA at CL
      obtain ⟨qt, hqt⟩ : ∃ q, Q t = q := ⟨_, rfl⟩
      rw [hqt] at dc CL
      generalize actV (K t) (kh (K t)) (p3 x.1 x.2.1 x.2.2) 0 = s0 at CL HPt
      generalize actV (K t) (kh (K t)) (p3 x.1 x.2.1 x.2.2) 1 = s1 at CL HPt
      generalize actV (K t) (kh (K t)) (p3 x.1 x.2.1 x.2.2) 2 = s2 at CL HPt
      have HPH := hid_of HPt
      clear HPt hqt
      unfold pV at CL
      gi_wp2_with fail
      refine (callsIn_wide.2 CL).mono ?_
      rintro e w2 ⟨rfl, bb⟩
      have H2 := hid_of (H.out.below bb)
      have J2 := hJ _ wr w2 none hj ⟨bb.os, bb.tape, bb.output, bb.size, fun k hk _ => bb.block k hk⟩ (fun r e => by cases e)
      have z2 := Nat.le_trans zW bb.size
      obtain ⟨fn, tmps, assign, body, hy, hRd⟩ := hY (upl n t) ⟨t, htn⟩ w2 J2 (by rw [upl_len n t ht]; exact htn)
      try dsimp only at hy
      rw [HPH.out] at hy
      try dsimp only at hy
      have HN := hid_of (upl_next htn)
      clear CL p0 p1 p2 dc hj bb H
      gi_wp2
      refine hRd.mono ?_
      rintro e W3 (⟨rfl, hJ3, hk3⟩ | ⟨rfl, hJx3⟩)
      · have z3 : W.heap.size ≤ W3.heap.size := Nat.le_trans z2 hk3.1
        have H3 := hid_of (H2.out.kp hk3 (by omega))
        gi_wp2
        exact ⟨⟨t + 1, by omega, by go_num, H3, by rw [HN.out]; exact hJ3, z3⟩, by simp [intOf]; omega⟩
      · gi_wp2
        refine bodyPost_ret (results_none rfl _ _ _) rfl ?_
        exact ⟨⟨_, rfl⟩, .inr ⟨_, trivial, hJx3⟩⟩
    · obtain rfl : t = n := by omega
      have htn' : ¬ (t : Int) < (t : Int) := by omega
      gi_wp2
      go_end0
      exact ⟨⟨_, rfl⟩, .inl hj⟩
end Go.Proofs.YtehbpcoiciodhaaGreat
