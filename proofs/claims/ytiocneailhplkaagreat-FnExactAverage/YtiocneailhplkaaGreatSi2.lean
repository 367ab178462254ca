/-
  The iterators over the cell's points and over a point's deeds, where a round may write blocks of its choice: walked.
-/
import Derived.Test.YtiocneailhplkaaGreatSi1
import Derived.Test.YtiocneailhplkaaGreatO3b
import Derived.RangeFuncNested
namespace Go.Proofs.YtiocneailhplkaaGreat
open Go.RowKit Go.Shelf

/-- What lies below B, but for some blocks, stays as it is. -/
def KpS (B : Nat) (S : Nat → Prop) (W W' : World) : Prop := W.heap.size ≤ W'.heap.size ∧ ∀ k, k < B → ¬ S k → W'.heap[k]? = W.heap[k]?
theorem KpS.t {B : Nat} {S : Nat → Prop} {X Y Z : World} (h : KpS B S X Y) (k : KpS B S Y Z) : KpS B S X Z := ⟨Nat.le_trans h.1 k.1, fun i h1 h2 => (k.2 i h1 h2).trans (h.2 i h1 h2)⟩
theorem KpS.refl (B : Nat) (S : Nat → Prop) (W : World) : KpS B S W W := ⟨Nat.le_refl _, fun _ _ _ => rfl⟩
theorem KpS.below {B : Nat} {S : Nat → Prop} {W W' : World} (h : Below W.heap.size W W') (hB : B ≤ W.heap.size) : KpS B S W W' := ⟨h.size, fun k hk _ => h.block k (by omega)⟩
theorem kpS_b {B : Nat} {S : Nat → Prop} {w : World} (hB : B ≤ w.heap.size) (W : World) (l : Nat) (o o' : Obj) (hl : w.heap.size ≤ l) (h : W.heap[l]? = some o) (_ : o.isCells = false) (_ : o.isWalk = false) : KpS B S W (W.putObj l o') :=
  ⟨(grownBy_putObj' W l o').size, fun k hk _ => (grownBy_putObj' W l o').block k (by have := (Array.getElem?_eq_some_iff.1 h).1; omega) (fun e => by cases e; omega)⟩
theorem KpS.set {B : Nat} {S : Nat → Prop} {W W' : World} (h : KpS B S W W') {p : Nat} (hp : S p) (i : Nat) (v : Value) : KpS B S W (W'.setCell ⟨p, i, none⟩ v) :=
  ⟨Nat.le_trans h.1 (KeepsWalks.setCell W' _ v).size, fun k hk hS => (Below.heap_setCell _ _ _ k (fun e => hS (by rw [e]; exact hp))).trans (h.2 k hk hS)⟩
/-- What the iterator reads. -/
structure PtsS (W : World) (B : Nat) (S : Nat → Prop) (bd bp gd n cd : Nat) (Q : Nat → Nat) (K : Nat → Nat → Int) (x : T3) : Prop where
  dc : W.cell? ⟨bd, 0, none⟩ = some (.slice (some ⟨gd, 0, none⟩) n cd)
  pc : At 54 W bp #[.int .i64 x.1, .int .i64 x.2.1, .int .i64 x.2.2]
  dl : ∀ i, i < n → W.cell? ⟨gd, i, none⟩ = some (dV (Q i))
  bx : ∀ i, i < n → At 90 W (Q i) (opA (K i) (kh (K i)))
  lt : bd < B ∧ bp < B ∧ gd < B ∧ ¬ S bd ∧ ¬ S bp ∧ ¬ S gd ∧ B ≤ W.heap.size
  lq : ∀ i, i < n → Q i < B ∧ ¬ S (Q i)
theorem PtsS.kp {W W' : World} {B bd bp gd n cd : Nat} {S : Nat → Prop} {Q : Nat → Nat} {K : Nat → Nat → Int} {x : T3} (h : PtsS W B S bd bp gd n cd Q K x) (hk : KpS B S W W') : PtsS W' B S bd bp gd n cd Q K x := by
  obtain ⟨l1, l2, l3, n1, n2, n3, h7⟩ := h.lt
  exact ⟨(World.cell?_of_block (hk.2 bd l1 n1)).trans h.dc, (hk.2 bp l2 n2).trans h.pc, fun i hi => (World.cell?_of_block (hk.2 gd l3 n3)).trans (h.dl i hi), fun i hi => (hk.2 _ (h.lq i hi).1 (h.lq i hi).2).trans (h.bx i hi), ⟨l1, l2, l3, n1, n2, n3, Nat.le_trans h7 hk.1⟩, h.lq⟩
theorem PtsS.below {W W' : World} {B bd bp gd n cd : Nat} {S : Nat → Prop} {Q : Nat → Nat} {K : Nat → Nat → Int} {x : T3} (h : PtsS W B S bd bp gd n cd Q K x) (hb : Below W.heap.size W W') : PtsS W' B S bd bp gd n cd Q K x :=
  h.kp (KpS.below hb h.lt.2.2.2.2.2.2)
set_option maxRecDepth 100000 in
set_option maxHeartbeats 2000000 in
theorem pointsS_stops (n0 : Nat) {w : World} {B bd bp gd n cd : Nat} {S : Nat → Prop} {Q : Nat → Nat} {K : Nat → Nat → Int} {x : T3} (h : PtsS w B S bd bp gd n cd Q K x) (hn : n ≤ 192) (hR : ∀ i, i < n → isR (K i) (kh (K i))) (hp : inP x.1 x.2.1 x.2.2) :
    SeqStopsK (α := { x : Nat // x < n }) Fence.wide n0 Tryz.prog 86 #[.pointer (some ⟨bd, 0, none⟩), .pointer (some ⟨bp, 0, none⟩)] (fun y => #[tV (aK (K y.1) x)]) (KpS B S) (fun xs => xs = upl n n) (fun _ => True) n w := by
  intro l J Jx W bW hJ hJx hY h0
  have hwf : ∀ f, Fence.wide.fn f := fun _ => trivial
  have hwd : Fence.wide.depth.isSome = false := rfl
  have H := hid_of (h.below bW)
  clear h
  have hn' : (n : Int) ≤ 192 := by omega
  have zB := bW.size
  refine callsIn_of_wp Tryz.func86 rfl trivial ?_ rfl
  simp only [Tryz.ntmps86, List.size_toArray, List.length_cons, List.length_nil, Nat.reduceAdd, Nat.reduceSub, Array.replicate_succ, Array.replicate_zero, List.push_toArray, List.append_toArray, List.nil_append, List.cons_append]
  have c0 := H.out.dc
  gi_wp2
  clear c0
  gi_loopw [8] (fun u wr => ∃ t : Nat, t ≤ n ∧ u = .int .i64 (t : Int) ∧ Hid (PtsS wr B S bd bp gd n cd Q K x) ∧ J (upl n t) wr ∧ W.heap.size ≤ wr.heap.size) (fun u _ => n - (intOf u).toNat)
  case atStart => exact ⟨0, Nat.zero_le _, rfl, H, h0, Nat.le_refl _⟩
  case round =>
    clear H h0
    obtain ⟨t, ht, rfl, H, hj, zW⟩ := hrel
    by_cases htn : t < n
    · have htn' : (t : Int) < (n : Int) := by omega
      have dc := H.out.dl t htn
      obtain ⟨p0, p1, p2, -⟩ := H.out.pc.open3
      unfold dV at dc
      have CL := deed1_any (hR t htn) hp (H.out.bx t htn)
      have HPt : aK (K t) x = tO (actV (K t) (kh (K t)) (p3 x.1 x.2.1 x.2.2)) := rfl
      unfold tO at HPt
      unfold vA at CL
      obtain ⟨qt, hqt⟩ : ∃ q, Q t = q := ⟨_, rfl⟩
      rw [hqt] at dc CL
      generalize actV (K t) (kh (K t)) (p3 x.1 x.2.1 x.2.2) 0 = s0 at CL HPt
      generalize actV (K t) (kh (K t)) (p3 x.1 x.2.1 x.2.2) 1 = s1 at CL HPt
      generalize actV (K t) (kh (K t)) (p3 x.1 x.2.1 x.2.2) 2 = s2 at CL HPt
      have HPH := hid_of HPt
      clear HPt hqt
      unfold pV at CL
      gi_wp2_with fail
      refine (callsIn_wide.2 CL).mono ?_
      rintro e w2 ⟨rfl, bb⟩
      have H2 := hid_of (H.out.below bb)
      have J2 := hJ _ wr w2 none hj ⟨bb.os, bb.tape, bb.output, bb.size, fun k hk _ => bb.block k hk⟩ (fun r e => by cases e)
      have z2 := Nat.le_trans zW bb.size
      obtain ⟨fn, tmps, assign, body, hy, hRd⟩ := hY (upl n t) ⟨t, htn⟩ w2 J2 (by rw [upl_len n t ht]; exact htn)
      try dsimp only at hy
      rw [HPH.out] at hy
      try dsimp only at hy
      have HN := hid_of (upl_next htn)
      clear CL p0 p1 p2 dc hj bb H
      gi_wp2
      refine hRd.mono ?_
      rintro e W3 (⟨rfl, hJ3, hk3⟩ | ⟨rfl, hJx3⟩)
      · have z3 : W.heap.size ≤ W3.heap.size := Nat.le_trans z2 hk3.1
        have H3 := hid_of (H2.out.kp hk3)
        gi_wp2
        exact ⟨⟨t + 1, by omega, by go_num, H3, by rw [HN.out]; exact hJ3, z3⟩, by simp [intOf]; omega⟩
      · gi_wp2
        refine bodyPost_ret (results_none rfl _ _ _) rfl ?_
        exact ⟨⟨_, rfl⟩, .inr ⟨_, trivial, hJx3⟩⟩
    · obtain rfl : t = n := by omega
      have htn' : ¬ (t : Int) < (t : Int) := by omega
      gi_wp2
      go_end0
      exact ⟨⟨_, rfl⟩, .inl hj⟩
end Go.Proofs.YtiocneailhplkaaGreat
