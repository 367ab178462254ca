/-
  The sum over a group's deeds, from a place on: walked.
-/
import Derived.Test.YtiocneailhplkaaGreatAv2
import Derived.Test.YtiocneailhplkaaGreatOF
import Derived.Test.YtiocneailhplkaaGreatMH
import Derived.RangeFuncNested
import Derived.RangeFuncLeaves
namespace Go.Proofs.YtiocneailhplkaaGreat
open Go.RowKit Go.Shelf

attribute [local go_sem] Oper.semAt_some
/-- What is walked plainly, holds in a round too: an operation. -/
theorem oper_in {l n : Nat} {P : Program} {o : Oper} {a : Act} {w : World} {K K' : Act → World → Prop} {Q : Exit → Act → World → Prop} (hd : ∀ c, o.op ≠ .defer c) (hK : ∀ a w, K a w → K' a w) (h : o.wp P a w K Q) : o.wpIn (Fence.wide.inRound l) n P a w K' Q := by
  refine ⟨fun _ _ => trivial, ?_⟩
  rw [Fence.inRound_round, Oper.semAt_some l _ _ hd]
  unfold Oper.wp at h
  generalize (execOp a.eval o).run P w = r at *
  cases r with
  | ok x w' =>
    cases x <;> simp only [Oper.upon, Oper.uponIn] at h ⊢
    case value v => exact hK _ _ h
    case skip => exact hK _ _ h
    case defer d => exact hK _ _ h
    case enter f args =>
      refine ⟨fun k => by simp [Fence.wide] at k, CallsIn.inRound l (callsIn_wide.2 (Calls.mono h ?_))⟩
      intro e w'' he
      cases e with
      | returned v => exact hK _ _ he
      | panicked c => exact he
      | outgrown => exact he
    case row row args =>
      refine ⟨fun k => by simp [Fence.wide] at k, fun c cs hroom => ?_⟩
      obtain ⟨v, w'', r, s⟩ := h c cs
      exact ⟨v, w'', hK _ _ r, stepsIn_wide.2 s⟩
  | halt x w' =>
    cases x <;> simp only [Oper.upon, Oper.uponIn] at h ⊢
    exact h
theorem any_in {l n : Nat} {P : Program} {md : Region.Mode} {ops : Array Oper} {Q : Exit → Act → World → Prop} (hd : ∀ (i : Nat) o, ops[i]? = some o → ∀ c, o.op ≠ .defer c) (hQ : ¬ LetsOut Q) : ∀ (fuel : Nat) (listed : Array Bool) (a : Act) (w : World), wpAny P md ops Q fuel listed a w → wpAnyIn (Fence.wide.inRound l) n P md ops Q fuel listed a w
  | 0, _, _, _, h => h
  | fuel + 1, listed, a, w, h => by
    refine ⟨h.1, fun i hi => ?_⟩
    have h2 := h.2 i hi
    unfold wpOp at h2
    unfold wpOpIn
    split at h2
    · next e => rw [e]; exact any_in hd hQ fuel _ _ _ h2
    · next o e =>
      rw [e]
      simp only
      split at h2
      · next hw =>
        rw [if_pos hw]
        exact oper_in (hd i o e) (fun a w => any_in hd hQ fuel _ a w) (h2.resolve_right fun k => hQ k.2)
      · next hw =>
        rw [if_neg hw]
        exact ⟨fun _ _ => trivial, any_in hd hQ fuel _ _ _ h2⟩
def noDefer (o : Oper) : Bool := match o.op with | .defer _ => false | _ => true
theorem noDefer_all {ops : Array Oper} (h : ops.all noDefer = true) : ∀ (i : Nat) o, ops[i]? = some o → ∀ c, o.op ≠ .defer c := fun i o e c ec => by
  have h1 := (Array.all_eq_true_iff_forall_mem.1 h) o (Array.mem_of_getElem? e)
  simp [noDefer, ec] at h1
/-- A region that draws its order, in a round. -/
theorem region_held_in {S : World → Prop} {l n : Nat} {P : Program} {ops : Array Oper} {Q : Exit → Act → World → Prop} {id : Nat} {a : Act} {w : World} (hm : P.follows .mixedOrders = true) (hS : S w.drew) (hd : ops.all noDefer = true) (hQ : ¬ LetsOut Q)
    (h : S w.drew → wpAnyH P .any ops Q S ops.size (Array.replicate ops.size false) a w.drew) : (Code.region id ops true).wpIn (Fence.wide.inRound l) n P Q a w :=
  wpIn_region_any hm (any_in (noDefer_all hd) hQ _ _ _ _ (wpAny_of_held _ _ _ _ (h hS)))

theorem keepsF_below {B : Nat} {W W' : World} (h : Below W.heap.size W W') : KeepsFrom B W W' := ⟨h.size, fun k _ _ hk _ => (h.block k (Array.getElem?_eq_some_iff.1 hk).1).trans hk⟩
theorem atKp {t : TypeId} {p q : Nat} {w w' : World} {vs : Array Value} (a : At t w q vs) (h : Kept p w w') (hq : q ≠ p) : At t w' q vs := (h.block q a.lt hq).trans a
/-- How the sum ends. -/
def SmE (w : World) (N : Int) (n : Nat) (A : Nat → OpD) (f : Nat → Int) (k : Nat) (e : Ending) (w' : World) : Prop :=
  ((∀ i, i < n → fitN N (goN N A k i)) ∧ e = .returned (.tuple #[.int .i64 (avL N A f k (List.range n)), .bool true]) ∨ ¬ (∀ i, i < n → fitN N (goN N A k i)) ∧ e = .returned (.tuple #[.int .i64 0, .bool false])) ∧ Below w.heap.size w w'
/-- The memory within the sum. -/
def SuI (w W7 : World) (q8 : Nat) (N : Int) (A : Nat → OpD) (f : Nat → Int) (k : Nat) (js : List Nat) (W : World) : Prop :=
  Below w.heap.size w W ∧ KpS W7.heap.size (fun j => j = q8) W7 W ∧ Boxed W q8 2 (.int .i64 (avL N A f k js)) ∧ ∀ i, i ∈ js → fitN N (goN N A k i)
theorem SuI.own {w W7 : World} {q8 n : Nat} {N : Int} {A : Nat → OpD} {f : Nat → Int} {k : Nat} (h1 : w.heap.size ≤ W7.heap.size) (h2 : q8 < W7.heap.size) : OwnFrom W7.heap.size (fun (pre : List { x : Nat // x < n }) W => SuI w W7 q8 N A f k (pre.map (·.1)) W) := by
  rintro l X Y row ⟨a, b, c, d⟩ hg hr
  have hne : ∀ j, j < W7.heap.size → Y.heap[j]? = X.heap[j]? := fun j hj => hg.block j (Nat.lt_of_lt_of_le hj b.1) (fun e => by have := (hr j e.symm).1; omega)
  exact ⟨a.trans ((Below.refl _ X).grown hg (Nat.le_trans h1 b.1) (fun r e => Nat.le_trans h1 (hr r e).1)), ⟨Nat.le_trans b.1 hg.size, fun j hj hS => (hne j hj).trans (b.2 j hj hS)⟩, (hne _ h2).trans c, d⟩
theorem SuI.below {w W7 W W' : World} {q8 : Nat} {N : Int} {A : Nat → OpD} {f : Nat → Int} {k : Nat} {js : List Nat} (h : SuI w W7 q8 N A f k js W) (h1 : w.heap.size ≤ W7.heap.size) (hb : Below W.heap.size W W') : SuI w W7 q8 N A f k js W' :=
  ⟨h.1.trans (hb.mono (Nat.le_trans h1 h.2.1.1)), h.2.1.t (KpS.below hb h.2.1.1), (hb.block _ h.2.2.1.lt).trans h.2.2.1, h.2.2.2⟩
/-- The way out ahead of the end. -/
def SuX (w W7 : World) (q6 q7 n : Nat) (N : Int) (A : Nat → OpD) (k : Nat) (c : Code) (W : World) : Prop :=
  c = .ret ∧ ¬ (∀ i, i < n → fitN N (goN N A k i)) ∧ Below w.heap.size w W ∧ W7.heap.size ≤ W.heap.size ∧ Boxed W q6 2 (.int .i64 0) ∧ Boxed W q7 4 (.bool false)
theorem SuX.own {w W7 : World} {q6 q7 n : Nat} {N : Int} {A : Nat → OpD} {k : Nat} (c : Code) (h1 : w.heap.size ≤ W7.heap.size) (h6 : q6 < W7.heap.size) (h7 : q7 < W7.heap.size) : OwnFrom W7.heap.size (fun (_ : List { x : Nat // x < n }) W => SuX w W7 q6 q7 n N A k c W) := by
  rintro l X Y row ⟨a, b, d, s, e6, e7⟩ hg hr
  have hne : ∀ j, j < W7.heap.size → Y.heap[j]? = X.heap[j]? := fun j hj => hg.block j (Nat.lt_of_lt_of_le hj s) (fun e => by have := (hr j e.symm).1; omega)
  exact ⟨a, b, d.trans ((Below.refl _ X).grown hg (Nat.le_trans h1 s) (fun r e => Nat.le_trans h1 (hr r e).1)), Nat.le_trans s hg.size, (hne _ h6).trans e6, (hne _ h7).trans e7⟩
set_option maxRecDepth 100000 in
set_option maxHeartbeats 4000000 in
theorem sumOver_any {w : World} {N : Int} {gf len cf lo gd n cd k : Nat} {Q : Nat → Nat} {A : Nat → OpD} {f : Nat → Int} (hN : side N) (hlen : (len : Int) = N * N * N) (hf : ∀ i, i < len → 0 ≤ f i ∧ f i ≤ 12288) (hF : Ints w gf 0 len f) (hgf : gf < w.heap.size) (hD : DeedsG w lo (.slice (some ⟨gd, 0, none⟩) n cd) n Q (fun i => (A i).key)) (hn : n ≤ 192) (hA : ∀ i, i < n → (A i).ok) (hk : k < len) :
    Calls Tryz.prog 35 #[mV N (.slice (some ⟨gf, 0, none⟩) len cf), .slice (some ⟨gd, 0, none⟩) n cd, .agg #[.int .i64 ((k : Int) % N), .int .i64 ((k : Int) / N % N), .int .i64 ((k : Int) / N / N)]] w (SmE w N n A f k) := by
  have hwf : ∀ f, Fence.wide.fn f := fun _ => trivial
  have hwd : Fence.wide.depth.isSome = false := rfl
  have hkN : (k : Int) < N * N * N := by omega
  have hkb : (0 ≤ (k : Int) % N ∧ (k : Int) % N < 12) ∧ (0 ≤ (k : Int) / N % N ∧ (k : Int) / N % N < 12) ∧ (0 ≤ (k : Int) / N / N ∧ (k : Int) / N / N < 12) := by
    rcases hN with rfl | rfl | rfl | rfl | rfl | rfl <;> omega
  have hPI := pnN_in hN hkN
  have hPN : pnN N k = (byN N * ((k : Int) % N), byN N * ((k : Int) / N % N), byN N * ((k : Int) / N / N)) := rfl
  obtain ⟨kx, hkx⟩ : ∃ x, (k : Int) % N = x := ⟨_, rfl⟩
  obtain ⟨ky, hky⟩ : ∃ x, (k : Int) / N % N = x := ⟨_, rfl⟩
  obtain ⟨kz, hkz⟩ : ∃ x, (k : Int) / N / N = x := ⟨_, rfl⟩
  rw [hkx, hky, hkz] at hkb hPN
  rw [hkx, hky, hkz]
  obtain ⟨px, hpx⟩ : ∃ x, byN N * kx = x := ⟨_, rfl⟩
  obtain ⟨py, hpy⟩ : ∃ x, byN N * ky = x := ⟨_, rfl⟩
  obtain ⟨pz, hpz⟩ : ∃ x, byN N * kz = x := ⟨_, rfl⟩
  have CPA : Hid (∀ (v : Value) (w : World), Calls Tryz.prog 68 #[.agg #[.int .i64 N, v], .agg #[.int .i64 kx, .int .i64 ky, .int .i64 kz]] w fun e w' => e = .returned (.agg #[.int .i64 px, .int .i64 py, .int .i64 pz]) ∧ Below w.heap.size w w') := fun v w => by
    have h := pointAt_any v w hN hkb.1 hkb.2.1 hkb.2.2
    rw [hpx, hpy, hpz] at h
    exact h
  rw [hpx, hpy, hpz] at hPN
  rw [hPN] at hPI
  have HPN := hid_of hPN
  have HPI := hid_of hPI
  have HN := hid_of hN
  have HF := hid_of hF
  have HD := hid_of hD
  have HOK := hid_of hA
  have HFB := hid_of hf
  have HLN := hid_of hlen
  clear hkb hPN hPI hkx hky hkz hpx hpy hpz hF hD hA hN hf hlen hkN
  obtain ⟨q3, hq3⟩ : ∃ q, w.heap.size = q := ⟨_, rfl⟩
  obtain ⟨W1, hW1, a1, b1, -⟩ := boxed w 26 #[.int .i64 N, .slice (some ⟨gf, 0, none⟩) len cf]
  rw [hq3] at a1
  obtain ⟨q5, hq5⟩ : ∃ q, W1.heap.size = q := ⟨_, rfl⟩
  obtain ⟨W2, hW2, a2, b2, -⟩ := boxed W1 66 #[.int .i64 kx, .int .i64 ky, .int .i64 kz]
  rw [hq5] at a2
  obtain ⟨q6, hq6⟩ : ∃ q, W2.heap.size = q := ⟨_, rfl⟩
  obtain ⟨W3, hW3, a3, b3, -⟩ := boxed W2 2 #[.int .i64 0]
  rw [hq6] at a3
  obtain ⟨q7, hq7⟩ : ∃ q, W3.heap.size = q := ⟨_, rfl⟩
  obtain ⟨W4, hW4, a4, b4, -⟩ := boxed W3 4 #[.bool false]
  rw [hq7] at a4
  obtain ⟨q8, hq8⟩ : ∃ q, W4.heap.size = q := ⟨_, rfl⟩
  obtain ⟨W5, hW5, a5, b5, -⟩ := boxed W4 2 #[.int .i64 0]
  rw [hq8] at a5
  have l3 : q3 < q5 := by have := a1.lt; omega
  have l5 : q5 < q6 := by have := a2.lt; omega
  have l6 : q6 < q7 := by have := a3.lt; omega
  have l7 : q7 < q8 := by have := a4.lt; omega
  have c45 := b4.trans (b5.mono b4.size)
  have c35 := b3.trans (c45.mono b3.size)
  have c25 := b2.trans (c35.mono b2.size)
  have c15 := b1.trans (c25.mono b1.size)
  have A1 := hid_of (a1.below c25)
  have A2 := hid_of (a2.below c35)
  have A3 := hid_of (a3.below c45)
  have A4 := hid_of (a4.below b5)
  have A5 := hid_of a5
  have B5 := hid_of c15
  have l8 := a5.lt
  obtain ⟨m0, m1, -⟩ := A1.out.open2
  obtain ⟨p0, p1, p2, -⟩ := A2.out.open3
  rw [← hW5] at m0 m1 p0 p1 p2
  have HW5 := hid_of hW5
  clear a1 a2 a3 a4 a5 b1 b2 b3 b4 b5 c45 c35 c25 c15 hW5
  refine (callsIn_wide (n := 9)).1 ?_
  refine callsIn_of_wp_marks Tryz.func35 rfl trivial ?_ rfl
  simp only [Tryz.ntmps35, List.size_toArray, List.length_cons, List.length_nil, Nat.reduceAdd, Nat.reduceSub, Array.replicate_succ, Array.replicate_zero, List.push_toArray, List.append_toArray, List.nil_append, List.cons_append]
  gi_wp2_with fail
  rw [HW5.out]
  clear m0 m1 p0 p1 p2
  refine (callsIn_wide.2 (CPA.out _ _)).mono ?_
  rintro e W6 ⟨rfl, b6⟩
  clear hW1 hW2 hW3 hW4 hq5 hq6 hq7 hq8
  gi_wp2_with fail
  refine (callsIn_wide.2 (pointsFrom_any (px, py, pz) gd n cd W6)).mono ?_
  rintro e W7 ⟨rfl, hW7⟩
  obtain ⟨bp, hbp⟩ : ∃ q, W6.heap.size = q := ⟨_, rfl⟩
  obtain ⟨W7', hW7', aX, aD, bX, hXl⟩ := bx2 W6 54 58 #[.int .i64 px, .int .i64 py, .int .i64 pz] #[.slice (some ⟨gd, 0, none⟩) n cd]
  obtain rfl : W7' = W7 := hW7'.symm.trans hW7.symm
  rw [hbp] at aX aD hXl ⊢
  have B57 : Below W5.heap.size W5 W7' := b6.trans (bX.mono b6.size)
  have z5 := B57.size
  have zb : W5.heap.size ≤ bp := by rw [← hbp]; exact b6.size
  have Bw7 : Below w.heap.size w W7' := B5.out.trans (B57.mono B5.out.size)
  have zw := Bw7.size
  rw [hq3] at zw
  have A17 := hid_of (A1.out.below B57)
  have A37 := hid_of (A3.out.below B57)
  have A47 := hid_of (A4.out.below B57)
  have A57 := hid_of (A5.out.below B57)
  have PS : PtsS W7' W7'.heap.size (fun j => j = q8) (bp + 1) bp gd n cd Q (fun i => (A i).key) (px, py, pz) := by
    have h7 := HD.out.below Bw7
    obtain ⟨gd', cd', e', -, hgl, -, hdl⟩ := HD.out.open
    cases e'
    obtain ⟨gd', cd', e', -, -, -, hdl7⟩ := h7.open
    cases e'
    have hql : ∀ i, i < n → Q i < q3 := fun i hi => by rw [← hq3]; exact (HD.out.bx i hi).2.lt
    rw [hq3] at hgl
    exact ⟨aD.cell 0 rfl, aX, hdl7, fun i hi => (h7.bx i hi).2, ⟨by omega, by omega, by omega, by omega, by omega, by omega, Nat.le_refl _⟩, fun i hi => by have := hql i hi; exact ⟨by omega, by omega⟩⟩
  have PST := pointsS_stops 8 PS hn (fun i hi => key_R (HOK.out i hi)) HPI.out
  have HI0 : Hid (SuI w W7' q8 N A f k [] W7') := ⟨Bw7, KpS.refl _ _ _, A57.out, fun i hi => by cases hi⟩
  have HB7 := hid_of Bw7
  clear PS aX aD hW7 hW7' B57 Bw7 b6 bX hbp
  gi_wp2
  refine wpIn_rangeFunc_ownH rfl (by omega) (gf := 86) (lb := #[.pointer (some ⟨bp + 1, 0, none⟩), .pointer (some ⟨bp, 0, none⟩)]) rfl trivial (enters_of Tryz.func86 (by kernel_rfl) rfl)
    PST KpS.t (kpS_b (Nat.le_refl _)) (Below.refl _ _) (fun _ => rfl)
    (fun pre W => SuI w W7' q8 N A f k (pre.map (·.1)) W) (fun c _ W => SuX w W7' q6 q7 n N A k c W) (SuI.own HB7.out.size (by omega)) (fun c => SuX.own c HB7.out.size (by omega) (by omega)) HI0.out
    (fun y a' W => ∃ By, W7'.heap.size ≤ By ∧ At 54 W By #[.int .i64 (aK (A y.1).key (px, py, pz)).1, .int .i64 (aK (A y.1).key (px, py, pz)).2.1, .int .i64 (aK (A y.1).key (px, py, pz)).2.2] ∧ a' = { tmps := #[.agg #[.int .i64 N, .slice (some ⟨gf, 0, none⟩) len cf], .slice (some ⟨gd, 0, none⟩) n cd, .agg #[.int .i64 kx, .int .i64 ky, .int .i64 kz], .pointer (some ⟨q3, 0, none⟩), undef, .pointer (some ⟨q5, 0, none⟩), .pointer (some ⟨q6, 0, none⟩), .pointer (some ⟨q7, 0, none⟩), .pointer (some ⟨q8, 0, none⟩), .pointer (some ⟨By, 0, none⟩), undef, undef, .agg #[.int .i64 N, .slice (some ⟨gf, 0, none⟩) len cf], .agg #[.int .i64 kx, .int .i64 ky, .int .i64 kz], .agg #[.int .i64 px, .int .i64 py, .int .i64 pz], .slice (some ⟨gd, 0, none⟩) n cd, .func (.func 86) #[] #[.pointer (some ⟨bp + 1, 0, none⟩), .pointer (some ⟨bp, 0, none⟩)], tV (aK (A y.1).key (px, py, pz)), undef, undef, undef, undef, undef, undef, undef, undef, undef, undef, undef, undef, undef, undef, undef, undef, undef, undef], defers := [] })
    (fun y a' _ X Y row hs hg hr => by
      obtain ⟨By, h1, h2, h3⟩ := hs
      exact ⟨By, h1, (hg.block By h2.lt (fun e => by
        obtain ⟨-, o, ho, hc⟩ := hr By e.symm
        rw [show X.heap[By]? = _ from h2] at ho; cases ho; cases hc)).trans h2, h3⟩)
    ?assign ?body ?done ?stop
  case assign =>
    rintro l2 pre y W K hI hK
    have hsz : W7'.heap.size ≤ W.heap.size := hI.2.1.1
    obtain ⟨W8, hW8, a8, b8, -⟩ := boxed W 54 #[.int .i64 (aK (A y.1).key (px, py, pz)).1, .int .i64 (aK (A y.1).key (px, py, pz)).2.1, .int .i64 (aK (A y.1).key (px, py, pz)).2.2]
    gi_wp2
    exact hK _ _ (keepsF_below b8) (KpS.below b8 hsz) (hI.below HB7.out.size b8) ⟨W.heap.size, hsz, a8, rfl⟩
  case body =>
    rintro l pre ⟨j, hj⟩ a' W hl - hI ⟨By, hBy, aQ, rfl⟩ hlt
    have hYT : inT (aK (A j).key (px, py, pz)) := aK_in _ _
    have hgo : goN N A k j = aK (A j).key (px, py, pz) := by unfold goN; rw [HPN.out]
    obtain ⟨y, hy⟩ : ∃ p : T3, aK (A j).key (px, py, pz) = p := ⟨_, rfl⟩
    obtain ⟨y0, y1, y2⟩ := y
    rw [hy] at hYT hgo
    simp only [hy] at aQ ⊢
    obtain ⟨hbw, hk7, hs, hfit⟩ := id hI
    have HIN := hid_of hI
    have HGO := hid_of hgo
    have hYI : inP y0 y1 y2 := hYT
    have HYT := hid_of hYT
    have hsz := hk7.1
    have HSZ := hid_of hsz
    have HBW := hid_of hbw
    have M3 : At 26 W q3 #[.int .i64 N, .slice (some ⟨gf, 0, none⟩) len cf] := (hk7.2 q3 (by omega) (by omega)).trans A17.out
    have M6 : At 2 W q6 #[.int .i64 0] := (hk7.2 q6 (by omega) (by omega)).trans A37.out
    have M7 : At 4 W q7 #[.bool false] := (hk7.2 q7 (by omega) (by omega)).trans A47.out
    obtain ⟨m0, m1, -⟩ := M3.open2
    obtain ⟨g0, g1, g2, -⟩ := aQ.open3
    have HM3 := hid_of M3
    have HS := hid_of hs
    have HK7 := hid_of hk7
    have HFT := hid_of hfit
    clear hI hbw hk7 hs hfit hgo hYT hy M3
    by_cases hft : fitN N (y0, y1, y2)
    rotate_left
    · have CP : ∀ w, Calls Tryz.prog 69 #[.agg #[.int .i64 N, .slice (some ⟨gf, 0, none⟩) len cf], .agg #[.int .i64 y0, .int .i64 y1, .int .i64 y2]] w fun e w' => e = .returned (.tuple #[.agg #[.int .i64 0, .int .i64 0, .int .i64 0], .bool false]) ∧ Below w.heap.size w w' := fun w => placeAt_no N y0 y1 y2 _ w HN.out hYI.1 hYI.2.1 hYI.2.2 hft
      have HFN := hid_of hft
      clear hft
      gi_wp2_with fail
      refine (CallsIn.inRound l (callsIn_wide.2 (CP _))).mono ?_
      rintro e W9 ⟨rfl, b9⟩
      obtain ⟨W10, hW10, a10, b10, -⟩ := boxed W9 66 #[.int .i64 0, .int .i64 0, .int .i64 0]
      have b910 := b9.trans (b10.mono b9.size)
      have M6' := M6.below b910
      have M7' := M7.below b910
      have c6 := M6'.cell 0 rfl
      have f6 := M6'.frozen 0
      have c7 := M7'.cell 0 rfl
      have f7 := M7'.frozen 0
      rw [← hW10] at c6 f6 c7 f7
      have HW10 := hid_of hW10
      have n67 : q6 ≠ q7 := by omega
      have HB := hid_of b910
      have HM6 : Hid (Boxed W10 q6 2 (.int .i64 0)) := M6'
      have HM7 : Hid (Boxed W10 q7 4 (.bool false)) := M7'
      clear hW10 a10 b10 b9 b910 m0 m1 g0 g1 g2 M6 M7 M6' M7'
      gi_wp2
      rw [HW10.out]
      refine ⟨(keepsF_below HB.out).trans (((KeepsOthers.setCell _ _ _).from _).trans ((KeepsOthers.setCell _ _ _).from _)), rfl, fun h => HFN.out (by rw [← HGO.out]; exact h j hj), ?_, ?_, ?_, ?_⟩
      · exact ((HBW.out.trans (HB.out.mono HBW.out.size)).setCell (p := ⟨q6, 0, none⟩) (by show w.heap.size ≤ q6; omega) _).setCell (p := ⟨q7, 0, none⟩) (by show w.heap.size ≤ q7; omega) _
      · exact Nat.le_trans (Nat.le_trans HSZ.out HB.out.size) (Nat.le_trans (KeepsWalks.setCell _ _ _).size (KeepsWalks.setCell _ _ _).size)
      · exact (Below.heap_setCell _ _ _ q6 n67).trans (HM6.out.set _)
      · exact Boxed.set _ ((Below.heap_setCell _ _ _ q7 (fun e => n67 e.symm)).trans HM7.out)
    · have hlt3 := nmN_lt HN.out (p := (y0, y1, y2)) HYT.out
      have CP : ∀ w, Calls Tryz.prog 69 #[.agg #[.int .i64 N, .slice (some ⟨gf, 0, none⟩) len cf], .agg #[.int .i64 y0, .int .i64 y1, .int .i64 y2]] w fun e w' => e = .returned (.tuple #[.agg #[.int .i64 (y0 / byN N), .int .i64 (y1 / byN N), .int .i64 (y2 / byN N)], .bool true]) ∧ Below w.heap.size w w' := fun w => placeAt_yes N y0 y1 y2 _ w HN.out hYI.1 hYI.2.1 hYI.2.2 hft
      have hnm : nmN N (y0, y1, y2) = (y2 / byN N * N + y1 / byN N) * N + y0 / byN N := rfl
      simp only at hlt3
      generalize y0 / byN N = X at CP hlt3 hnm
      generalize y1 / byN N = Y at CP hlt3 hnm
      generalize y2 / byN N = Z at CP hlt3 hnm
      obtain ⟨rX, rY, rZ, n0, n1⟩ := hlt3
      obtain ⟨M, hM⟩ : ∃ M : Nat, (nmN N (y0, y1, y2)).toNat = M := ⟨_, rfl⟩
      have CN : ∀ w, Calls Tryz.prog 70 #[.agg #[.int .i64 N, .slice (some ⟨gf, 0, none⟩) len cf], .agg #[.int .i64 X, .int .i64 Y, .int .i64 Z]] w fun e w' => e = .returned (.int .i64 (M : Int)) ∧ Below w.heap.size w w' := fun w => by
        have h := number_any N X Y Z (.slice (some ⟨gf, 0, none⟩) len cf) w HN.out rX rY rZ
        rw [show (Z * N + Y) * N + X = (M : Int) by omega] at h
        exact h
      have hMl : M < len := by have := HLN.out; omega
      have hMi : (M : Int) < (len : Int) := by omega
      have hfm := HFB.out M hMl
      obtain ⟨S0, hS0⟩ : ∃ s, avL N A f k (pre.map (·.1)) = s := ⟨_, rfl⟩
      have hS0b := avL_le HN.out HLN.out HFB.out (A := A) (k := k) (pre.map (·.1))
      rw [hS0] at hS0b
      rw [List.length_map] at hS0b
      obtain ⟨FM, hFM⟩ : ∃ s, f M = s := ⟨_, rfl⟩
      rw [hFM] at hfm
      have hws : IntKind.i64.wrap (S0 + FM) = S0 + FM := IntWalk.i64_in _ (by omega)
      have HNX : Hid (avL N A f k ((pre ++ [(⟨j, hj⟩ : { x : Nat // x < n })]).map (·.1)) = S0 + FM) := by
        show _ = _
        rw [List.map_append, List.map_cons, List.map_nil, avL_snoc, hS0, HGO.out, hM, hFM]
      have HFY := hid_of hft
      have HSQ : Hid (Boxed W q8 2 (.int .i64 S0)) := by rw [← hS0]; exact HS
      have cF : W.cell? ⟨gf, M, none⟩ = some (.int .i64 FM) := by
        have h := (HBW.out.cell (p := ⟨gf, 0 + M, none⟩) hgf).trans (HF.out M hMl)
        rw [hFM] at h
        simpa using h
      clear hnm hM n0 n1 hfm hft hS0 hFM hS0b
      gi_wp2_with fail
      refine (CallsIn.inRound l (callsIn_wide.2 (CP _))).mono ?_
      rintro e W9 ⟨rfl, b9⟩
      obtain ⟨q10, hq10⟩ : ∃ q, W9.heap.size = q := ⟨_, rfl⟩
      obtain ⟨W10, hW10, a10, b10, -⟩ := boxed W9 66 #[.int .i64 X, .int .i64 Y, .int .i64 Z]
      rw [hq10] at a10
      have b910 := b9.trans (b10.mono b9.size)
      have N3 := HM3.out.below b910
      have Q8 : At 2 W10 q8 #[.int .i64 S0] := (b910.block q8 HSQ.out.lt).trans HSQ.out
      have cF10 : W10.cell? ⟨gf, M, none⟩ = some (.int .i64 FM) := (b910.cell (p := ⟨gf, M, none⟩) (by have := HSZ.out; show gf < W.heap.size; omega)).trans cF
      have hgf10 : gf < W10.heap.size := by have := HSZ.out; have := b910.size; omega
      have n10 : q10 ≠ q8 := by have := HSQ.out.lt; have := b9.size; omega
      have n3 : q3 ≠ q8 := by omega
      have ngf : gf ≠ q8 := by omega
      have HB := hid_of b910
      clear b9 b10 b910 cF m0 m1 g0 g1 g2 M6 M7 CP
      gi_wp2_with fail
      clear hW10 hq10
      obtain ⟨u0, hu0, bb⟩ : ∃ uu, W10.drew = uu ∧ Below W10.heap.size W10 uu := ⟨_, rfl, (Below.refl _ _).drew⟩
      replace N3 := N3.below bb
      replace a10 := a10.below bb
      replace Q8 := Q8.below bb
      have bk0 : Below W10.heap.size W10 u0 := bb
      have bu : Kb u0 u0 := Below.refl _ _
      have CFk : ∀ w', Kept q8 u0 w' → w'.cell? ⟨gf, M, none⟩ = some (.int .i64 FM) := fun w' h => (h.cell ngf (by have := bb.size; omega)).trans ((bb.cell (p := ⟨gf, M, none⟩) hgf10).trans cF10)
      have HC : Hid (∀ w', Below u0.heap.size u0 w' → w'.cell? ⟨q8, 0, none⟩ = some (.int .i64 S0)) := fun w' h => (Q8.below h).cell 0 rfl
      have HFz : Hid (∀ w', Below u0.heap.size u0 w' → w'.frozen? ⟨q8, 0, none⟩ = false) := fun w' h => (Q8.below h).frozen 0
      clear bb
      refine region_held_in (S := Kept q8 u0) (by kernel_rfl) (by rw [hu0]; exact Kept.refl _ _) (by kernel_rfl) (by rintro ⟨_, _, hf⟩; exact hf) (fun hHeld => ?_)
      rw [hu0] at hHeld ⊢
      clear hu0
      change wpAnyH _ _ _ _ _ 10 #[false, false, false, false, false, false, false, false, false, false] _ _
      refine wpAnyH_take (i := 1) (v := .pointer (some ⟨q3, 1, none⟩)) rfl (by kernel_rfl) (by kernel_rfl) (by kernel_rfl) (fun _ _ _ h => h) (Or.inl ⟨by kernel_rfl, ?_⟩) hHeld ?_
      · intro w' hSw; go_simp
      try simp only [Act.put, List.setIfInBounds_toArray, List.set_cons_zero, List.set_cons_succ, List.getElem_toArray, List.getElem_cons_succ, List.getElem_cons_zero]
      refine wpAnyH_take (i := 2) (v := .slice ((some ⟨gf, 0, none⟩)) len cf) rfl (by kernel_rfl) (by kernel_rfl) (by kernel_rfl) (fun _ _ _ h => h) (Or.inl ⟨by kernel_rfl, ?_⟩) hHeld ?_
      · intro w' hSw; obtain ⟨z0, z1, -⟩ := (atKp N3 hSw n3).open2; go_simp
      try simp only [Act.put, List.setIfInBounds_toArray, List.set_cons_zero, List.set_cons_succ, List.getElem_toArray, List.getElem_cons_succ, List.getElem_cons_zero]
      refine wpAnyH_take (i := 3) (v := .agg #[.int .i64 N, .slice (some ⟨gf, 0, none⟩) len cf]) rfl (by kernel_rfl) (by kernel_rfl) (by kernel_rfl) (fun _ _ _ h => h) (Or.inl ⟨by kernel_rfl, ?_⟩) hHeld ?_
      · intro w' hSw; obtain ⟨z0, z1, -⟩ := (atKp N3 hSw n3).open2; go_simp
      try simp only [Act.put, List.setIfInBounds_toArray, List.set_cons_zero, List.set_cons_succ, List.getElem_toArray, List.getElem_cons_succ, List.getElem_cons_zero]
      refine wpAnyH_take (i := 4) (v := .agg #[.int .i64 X, .int .i64 Y, .int .i64 Z]) rfl (by kernel_rfl) (by kernel_rfl) (by kernel_rfl) (fun _ _ _ h => h) (Or.inl ⟨by kernel_rfl, ?_⟩) hHeld ?_
      · intro w' hSw; obtain ⟨z0, z1, z2, -⟩ := (atKp a10 hSw n10).open3; go_simp
      try simp only [Act.put, List.setIfInBounds_toArray, List.set_cons_zero, List.set_cons_succ, List.getElem_toArray, List.getElem_cons_succ, List.getElem_cons_zero]
      refine wpAnyH_ready (rs := [0, 5]) (by kernel_rfl) (by simp) ?_
      refine AllReadyH.cons rfl (fun KK hK' => ?_) (AllReadyH.cons rfl (fun KK hK' => ?_) AllReadyH.nil)
      · have cQ := HC.out _ bu
        go_simp
        clear cQ
        clear hHeld
        refine hK'.out _ _ (Kept.of_below bu) (fun hHeld => ?_)
        clear hK' KK
        try simp only [List.setIfInBounds_toArray, List.set_cons_zero]
        refine wpAnyH_ready (rs := [5]) (by kernel_rfl) (by simp) ?_
        refine AllReadyH.cons rfl (fun KK hK' => ?_) AllReadyH.nil
        go_simp
        refine (CN _).mono ?_
        rintro e u2 ⟨rfl, bb⟩
        replace bu : Kb u0 u2 := bu.trans (bb.mono bu.size)
        clear bb
        try go_wp2_with fail
        clear hHeld
        refine hK'.out _ _ (Kept.of_below bu) (fun hHeld => ?_)
        clear hK' KK
        try simp only [List.setIfInBounds_toArray, List.set_cons_zero, List.set_cons_succ]
        refine wpAnyH_take (i := 6) (v := .pointer (some ⟨gf, M, none⟩)) rfl (by kernel_rfl) (by kernel_rfl) (by kernel_rfl) (fun _ _ _ h => h) (Or.inl ⟨by kernel_rfl, ?_⟩) hHeld ?_
        · intro w' hSw; go_simp
        try simp only [Act.put, List.setIfInBounds_toArray, List.set_cons_zero, List.set_cons_succ, List.getElem_toArray, List.getElem_cons_succ, List.getElem_cons_zero]
        refine wpAnyH_take (i := 7) (v := .int .i64 (FM)) rfl (by kernel_rfl) (by kernel_rfl) (by kernel_rfl) (fun _ _ _ h => h) (Or.inl ⟨by kernel_rfl, ?_⟩) hHeld ?_
        · intro w' hSw; have z0 := CFk _ hSw; go_simp
        try simp only [Act.put, List.setIfInBounds_toArray, List.set_cons_zero, List.set_cons_succ, List.getElem_toArray, List.getElem_cons_succ, List.getElem_cons_zero]
        refine wpAnyH_take (i := 8) (v := .int .i64 (S0 + FM)) rfl (by kernel_rfl) (by kernel_rfl) (by kernel_rfl) (fun _ _ _ h => h) (Or.inl ⟨by kernel_rfl, ?_⟩) hHeld ?_
        · intro w' hSw; go_simp
        try simp only [Act.put, List.setIfInBounds_toArray, List.set_cons_zero, List.set_cons_succ, List.getElem_toArray, List.getElem_cons_succ, List.getElem_cons_zero]
        refine wpAnyH_ready (rs := [9]) (by kernel_rfl) (by simp) ?_
        refine AllReadyH.cons rfl (fun KK hK' => ?_) AllReadyH.nil
        have cQ := HC.out _ bu
        have fQ := HFz.out _ bu
        go_simp
        clear cQ fQ
        clear hHeld
        refine hK'.out _ _ ((Kept.of_below bu).set _) (fun hHeld => ?_)
        clear hK' KK
        try simp only [List.setIfInBounds_toArray, List.set_cons_zero, List.set_cons_succ]
        refine wpAnyH_done (by kernel_rfl) ?_ _
        clear hHeld
        have bz : Below W.heap.size W u2 := HB.out.trans ((bk0.trans (Below.mono bu bk0.size)).mono HB.out.size)
        have cQ := HC.out _ bu
        have hkf : KeepsFrom W7'.heap.size W (u2.setCell ⟨q8, 0, none⟩ (.int .i64 (S0 + FM))) := (keepsF_below bz).trans ((KeepsOthers.setCell _ _ _).from _)
        have hkp : KpS W7'.heap.size (fun j => j = q8) W (u2.setCell ⟨q8, 0, none⟩ (.int .i64 (S0 + FM))) := KpS.set (S := fun j => j = q8) (p := q8) (KpS.below bz HSZ.out) rfl 0 _
        have hbx : Boxed (u2.setCell ⟨q8, 0, none⟩ (.int .i64 (S0 + FM))) q8 2 (.int .i64 (S0 + FM)) := Boxed.set _ ((bz.block q8 HSQ.out.lt).trans HSQ.out)
        have hbb := (HBW.out.trans (bz.mono HBW.out.size)).setCell (p := ⟨q8, 0, none⟩) (by show w.heap.size ≤ q8; omega) (.int .i64 (S0 + FM))
        have FI : Hid (SuI w W7' q8 N A f k ((pre ++ [(⟨j, hj⟩ : { x : Nat // x < n })]).map (·.1)) (u2.setCell ⟨q8, 0, none⟩ (.int .i64 (S0 + FM)))) := ⟨hbb, HK7.out.t hkp, by rw [HNX.out]; exact hbx, fun i hi => by
          rw [List.map_append] at hi
          rcases List.mem_append.1 hi with hi | hi
          · exact HFT.out i hi
          · rw [List.map_cons, List.map_nil, List.mem_singleton] at hi
            subst hi
            rw [HGO.out]; exact HFY.out⟩
        have HKF := hid_of hkf
        have HKP := hid_of hkp
        clear bz cQ hkf hkp hbx hbb bu bk0
        gi_wp2
        exact ⟨HKF.out, HKP.out, FI.out⟩
      · go_simp
        refine (CN _).mono ?_
        rintro e u1 ⟨rfl, bb⟩
        replace bu : Kb u0 u1 := bu.trans (bb.mono bu.size)
        clear bb
        try go_wp2_with fail
        clear hHeld
        refine hK'.out _ _ (Kept.of_below bu) (fun hHeld => ?_)
        clear hK' KK
        try simp only [List.setIfInBounds_toArray, List.set_cons_zero, List.set_cons_succ]
        refine wpAnyH_take (i := 6) (v := .pointer (some ⟨gf, M, none⟩)) rfl (by kernel_rfl) (by kernel_rfl) (by kernel_rfl) (fun _ _ _ h => h) (Or.inl ⟨by kernel_rfl, ?_⟩) hHeld ?_
        · intro w' hSw; go_simp
        try simp only [Act.put, List.setIfInBounds_toArray, List.set_cons_zero, List.set_cons_succ, List.getElem_toArray, List.getElem_cons_succ, List.getElem_cons_zero]
        refine wpAnyH_take (i := 7) (v := .int .i64 (FM)) rfl (by kernel_rfl) (by kernel_rfl) (by kernel_rfl) (fun _ _ _ h => h) (Or.inl ⟨by kernel_rfl, ?_⟩) hHeld ?_
        · intro w' hSw; have z0 := CFk _ hSw; go_simp
        try simp only [Act.put, List.setIfInBounds_toArray, List.set_cons_zero, List.set_cons_succ, List.getElem_toArray, List.getElem_cons_succ, List.getElem_cons_zero]
        refine wpAnyH_ready (rs := [0]) (by kernel_rfl) (by simp) ?_
        refine AllReadyH.cons rfl (fun KK hK' => ?_) AllReadyH.nil
        have cQ := HC.out _ bu
        go_simp
        clear cQ
        clear hHeld
        refine hK'.out _ _ (Kept.of_below bu) (fun hHeld => ?_)
        clear hK' KK
        try simp only [List.setIfInBounds_toArray, List.set_cons_zero]
        refine wpAnyH_take (i := 8) (v := .int .i64 (S0 + FM)) rfl (by kernel_rfl) (by kernel_rfl) (by kernel_rfl) (fun _ _ _ h => h) (Or.inl ⟨by kernel_rfl, ?_⟩) hHeld ?_
        · intro w' hSw; go_simp
        try simp only [Act.put, List.setIfInBounds_toArray, List.set_cons_zero, List.set_cons_succ, List.getElem_toArray, List.getElem_cons_succ, List.getElem_cons_zero]
        refine wpAnyH_ready (rs := [9]) (by kernel_rfl) (by simp) ?_
        refine AllReadyH.cons rfl (fun KK hK' => ?_) AllReadyH.nil
        have cQ := HC.out _ bu
        have fQ := HFz.out _ bu
        go_simp
        clear cQ fQ
        clear hHeld
        refine hK'.out _ _ ((Kept.of_below bu).set _) (fun hHeld => ?_)
        clear hK' KK
        try simp only [List.setIfInBounds_toArray, List.set_cons_zero, List.set_cons_succ]
        refine wpAnyH_done (by kernel_rfl) ?_ _
        clear hHeld
        have bz : Below W.heap.size W u1 := HB.out.trans ((bk0.trans (Below.mono bu bk0.size)).mono HB.out.size)
        have cQ := HC.out _ bu
        have hkf : KeepsFrom W7'.heap.size W (u1.setCell ⟨q8, 0, none⟩ (.int .i64 (S0 + FM))) := (keepsF_below bz).trans ((KeepsOthers.setCell _ _ _).from _)
        have hkp : KpS W7'.heap.size (fun j => j = q8) W (u1.setCell ⟨q8, 0, none⟩ (.int .i64 (S0 + FM))) := KpS.set (S := fun j => j = q8) (p := q8) (KpS.below bz HSZ.out) rfl 0 _
        have hbx : Boxed (u1.setCell ⟨q8, 0, none⟩ (.int .i64 (S0 + FM))) q8 2 (.int .i64 (S0 + FM)) := Boxed.set _ ((bz.block q8 HSQ.out.lt).trans HSQ.out)
        have hbb := (HBW.out.trans (bz.mono HBW.out.size)).setCell (p := ⟨q8, 0, none⟩) (by show w.heap.size ≤ q8; omega) (.int .i64 (S0 + FM))
        have FI : Hid (SuI w W7' q8 N A f k ((pre ++ [(⟨j, hj⟩ : { x : Nat // x < n })]).map (·.1)) (u1.setCell ⟨q8, 0, none⟩ (.int .i64 (S0 + FM)))) := ⟨hbb, HK7.out.t hkp, by rw [HNX.out]; exact hbx, fun i hi => by
          rw [List.map_append] at hi
          rcases List.mem_append.1 hi with hi | hi
          · exact HFT.out i hi
          · rw [List.map_cons, List.map_nil, List.mem_singleton] at hi
            subst hi
            rw [HGO.out]; exact HFY.out⟩
        have HKF := hid_of hkf
        have HKP := hid_of hkp
        clear bz cQ hkf hkp hbx hbb bu bk0
        gi_wp2
        exact ⟨HKF.out, HKP.out, FI.out⟩
  case done =>
    rintro D xs W hD rfl ⟨hw, hk7, hs, hfit⟩ hK
    have hall : ∀ i, i < n → fitN N (goN N A k i) := fun i hi => hfit i (by
      have e : ((upl n n).map (fun y => y.1)) = (List.range n).map (fun x => x) := upl_map n (fun x => x) n (Nat.le_refl _)
      rw [e]; simpa using hi)
    have hav : avL N A f k ((upl n n).map (·.1)) = avL N A f k (List.range n) := by
      have e : ((upl n n).map (fun y => y.1)) = (List.range n).map (fun x => x) := upl_map n (fun x => x) n (Nat.le_refl _)
      rw [e]; simp
    rw [hav] at hs
    obtain ⟨S0, hS0⟩ : ∃ s, avL N A f k (List.range n) = s := ⟨_, rfl⟩
    rw [hS0] at hs
    have M6 : Boxed W q6 2 (.int .i64 0) := (hk7.2 q6 (by omega) (by omega)).trans A37.out
    have M7 : Boxed W q7 4 (.bool false) := (hk7.2 q7 (by omega) (by omega)).trans A47.out
    have cS := hs.cell
    have c6 := M6.cell
    have f6 := M6.frozen
    have c7 := M7.cell
    have f7 := M7.frozen
    have n67 : q6 ≠ q7 := by omega
    gi_wp2
    have hKD : ((W.setCell ⟨q6, 0, none⟩ (.int .i64 S0)).setCell ⟨q7, 0, none⟩ (.bool true)).heap[D]? = some (.deferred (some [])) := ((Below.heap_setCell _ _ _ D (by show D ≠ q7; omega)).trans (Below.heap_setCell _ _ _ D (by show D ≠ q6; omega))).trans hK
    have e6 : Boxed ((W.setCell ⟨q6, 0, none⟩ (.int .i64 S0)).setCell ⟨q7, 0, none⟩ (.bool true)) q6 2 (.int .i64 S0) := (Below.heap_setCell _ _ _ q6 n67).trans (M6.set _)
    have e7 : Boxed ((W.setCell ⟨q6, 0, none⟩ (.int .i64 S0)).setCell ⟨q7, 0, none⟩ (.bool true)) q7 4 (.bool true) := Boxed.set _ ((Below.heap_setCell _ _ _ q7 (fun e => n67 e.symm)).trans M7)
    have hBV : Below w.heap.size w ((W.setCell ⟨q6, 0, none⟩ (.int .i64 S0)).setCell ⟨q7, 0, none⟩ (.bool true)) := (hw.setCell (p := ⟨q6, 0, none⟩) (by show w.heap.size ≤ q6; omega) _).setCell (p := ⟨q7, 0, none⟩) (by show w.heap.size ≤ q7; omega) _
    generalize (W.setCell ⟨q6, 0, none⟩ (.int .i64 S0)).setCell ⟨q7, 0, none⟩ (.bool true) = V at hKD e6 e7 hBV ⊢
    refine ⟨by simp, .inl ⟨_, _, rfl, run_takeDeferred hKD, ?_⟩⟩
    have r6 : ∀ o, (V.putObj D o).cell? ⟨q6, 0, none⟩ = some (.int .i64 S0) := fun o => Boxed.cell (show Boxed (V.putObj D o) q6 2 (.int .i64 S0) from (World.putObj_heap_other (by omega)).trans e6)
    have r7 : ∀ o, (V.putObj D o).cell? ⟨q7, 0, none⟩ = some (.bool true) := fun o => Boxed.cell (show Boxed (V.putObj D o) q7 4 (.bool true) from (World.putObj_heap_other (by omega)).trans e7)
    exact ⟨.tuple #[.int .i64 S0, .bool true], (by simp [results, Tryz.results35, go_sem, r6, r7]), .inl ⟨hall, by rw [hS0]⟩, hBV.trans (belowK_b (w := w) (Nat.le_refl _) V D _ _ (by omega) hKD rfl rfl)⟩
  case stop =>
    rintro D c pre W hD _ ⟨rfl, hno, hw, hz, e6, e7⟩ hK
    gi_wp2
    refine ⟨by simp, .inl ⟨_, _, rfl, run_takeDeferred hK, ?_⟩⟩
    have r6 : ∀ o, (W.putObj D o).cell? ⟨q6, 0, none⟩ = some (.int .i64 0) := fun o => Boxed.cell (show Boxed (W.putObj D o) q6 2 (.int .i64 0) from (World.putObj_heap_other (by omega)).trans e6)
    have r7 : ∀ o, (W.putObj D o).cell? ⟨q7, 0, none⟩ = some (.bool false) := fun o => Boxed.cell (show Boxed (W.putObj D o) q7 4 (.bool false) from (World.putObj_heap_other (by omega)).trans e7)
    exact ⟨.tuple #[.int .i64 0, .bool false], (by simp [results, Tryz.results35, go_sem, r6, r7]), .inr ⟨hno, rfl⟩, hw.trans (belowK_b (w := w) (Nat.le_refl _) W D _ _ (by omega) hK rfl rfl)⟩
end Go.Proofs.YtiocneailhplkaaGreat
