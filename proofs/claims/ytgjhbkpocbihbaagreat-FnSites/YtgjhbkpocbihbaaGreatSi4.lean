/-
  Sites by the program: walked.
-/
import Derived.Test.YtgjhbkpocbihbaaGreatSi2
import Derived.Test.YtgjhbkpocbihbaaGreatSi3
import Derived.Test.YtgjhbkpocbihbaaGreatO3h
import Derived.RangeFuncNested
import Derived.RangeFuncLeaves
namespace Go.Proofs.YtgjhbkpocbihbaaGreat
open Go.RowKit Go.Shelf

attribute [local go_sem] Oper.semAt_some

/-- A cell of a great row that is false. -/
def isF : Value → Bool
  | .bool false => true
  | _ => false
set_option maxRecDepth 1000000 in
theorem zc_all : Tryz.zeroCells60.toList.all isF = true := by kernel_rfl
theorem zc_at {q : Nat} (hq : q < 13824) : Tryz.zeroCells60[q]? = some (.bool false) := by
  have hs := Tryz.zeroCells60_size
  have hq' : q < Tryz.zeroCells60.size := by omega
  rw [Array.getElem?_eq_getElem hq']
  have h1 := List.all_eq_true.1 zc_all _ (Array.mem_toList_iff.2 (Array.getElem_mem hq'))
  revert h1
  generalize Tryz.zeroCells60[q] = v
  intro h1
  cases v <;> simp [isF] at h1
  rename_i b
  cases b
  · rfl
  · simp at h1
theorem keepsF_below {B : Nat} {W W' : World} (h : Below W.heap.size W W') : KeepsFrom B W W' := ⟨h.size, fun k _ _ hk _ => (h.block k (Array.getElem?_eq_some_iff.1 hk).1).trans hk⟩
/-- The marks of the points that have been met. -/
def SeB (W : World) (qS : Nat) (s : Nat → Bool) : Prop := ∃ cur : Array Value, At 60 W qS cur ∧ cur.size = 13824 ∧ ∀ q, q < 13824 → cur[q]? = some (.bool (s q))
theorem SeB.of_block {W W' : World} {qS : Nat} {s : Nat → Bool} (h : SeB W qS s) (e : W'.heap[qS]? = W.heap[qS]?) : SeB W' qS s := by
  obtain ⟨cur, a, h1⟩ := h
  exact ⟨cur, e.trans a, h1⟩
theorem SeB.lt {W : World} {qS : Nat} {s : Nat → Bool} (h : SeB W qS s) : qS < W.heap.size := by
  obtain ⟨cur, a, h1⟩ := h
  exact a.lt
theorem SeB.below {W W' : World} {qS : Nat} {s : Nat → Bool} (h : SeB W qS s) (hb : Below W.heap.size W W') : SeB W' qS s := h.of_block (hb.block _ h.lt)
theorem SeB.cell {W : World} {qS q : Nat} {s : Nat → Bool} (h : SeB W qS s) (hq : q < 13824) : W.cell? ⟨qS, q, none⟩ = some (.bool (s q)) ∧ W.frozen? ⟨qS, q, none⟩ = false := by
  obtain ⟨cur, a, h1, h2⟩ := h
  exact ⟨a.cell _ (h2 q hq), a.frozen _⟩
theorem SeB.set {W : World} {qS q : Nat} {s s' : Nat → Bool} (h : SeB W qS s) (hq : q < 13824) (e : s' q = true) (ho : ∀ r, r < 13824 → r ≠ q → s' r = s r) : SeB (W.setCell ⟨qS, q, none⟩ (.bool true)) qS s' := by
  obtain ⟨cur, a, h1, h2⟩ := h
  refine ⟨_, a.set q _, by simpa using h1, fun r hr => ?_⟩
  rw [Array.getElem?_setIfInBounds]
  by_cases k : q = r
  · subst k
    rw [if_pos rfl, if_pos (by omega), e]
  · rw [if_neg k, h2 r hr, ho r hr (fun x => k x.symm)]
/-- The counts behind some points. -/
def SiM (n : Nat) (A : Nat → OpD) (l : List Nat) (s : Nat → Bool) (ks : List Int) (F : Int → Int) : Prop :=
  (∀ q, q < 13824 → (s q = true ↔ Seen n A l q)) ∧ (∀ r : Nat, F (r : Int) = (cnN n A s r : Nat)) ∧ ∀ y, y ∈ ks ↔ ∃ r, r < 193 ∧ 0 < cnN n A s r ∧ y = ((r : Nat) : Int)
/-- The memory behind some points. -/
def SiI (W5 : World) (N0 qS q5 bm n : Nat) (A : Nat → OpD) (l : List Nat) (W : World) : Prop :=
  Below N0 W5 W ∧ Boxed W q5 61 (.map (some bm)) ∧ ∃ s ks F, SeB W qS s ∧ MapI W bm ks F ∧ SiM n A l s ks F
theorem SiI.kp {W5 W W' : World} {N0 qS q5 bm n : Nat} {A : Nat → OpD} {l : List Nat} (h : SiI W5 N0 qS q5 bm n A l W) (hb : Below N0 W W') (e : ∀ k, k < W.heap.size → k = qS ∨ k = q5 ∨ k = bm → W'.heap[k]? = W.heap[k]?) : SiI W5 N0 qS q5 bm n A l W' := by
  obtain ⟨h1, h2, s, ks, F, h3, h4, h5⟩ := h
  exact ⟨h1.trans hb, (e q5 h2.lt (.inr (.inl rfl))).trans h2, s, ks, F, h3.of_block (e qS h3.lt (.inl rfl)), h4.of_block (e bm h4.lt (.inr (.inr rfl))), h5⟩
theorem SiI.below {W5 W W' : World} {N0 qS q5 bm n : Nat} {A : Nat → OpD} {l : List Nat} (h : SiI W5 N0 qS q5 bm n A l W) (hN : N0 ≤ W.heap.size) (hb : Below W.heap.size W W') : SiI W5 N0 qS q5 bm n A l W' :=
  h.kp (hb.mono hN) (fun k hk _ => hb.block k hk)
theorem SiI.own {W5 : World} {B N0 qS q5 bm n : Nat} {A : Nat → OpD} (h1 : N0 ≤ B) (h5 : N0 ≤ W5.heap.size) (h2 : qS < B) (h3 : q5 < B) (h4 : bm < B) : OwnFrom B (fun (pre : List { x : Nat // x < 13824 }) W => SiI W5 N0 qS q5 bm n A (pre.map (·.1)) W) := fun s X Y row hs hg hr =>
  hs.kp ((Below.refl N0 X).grown hg (Nat.le_trans h5 hs.1.size) (fun r e => Nat.le_trans h1 (hr r e).1)) (fun k hk hq => hg.block k hk (fun e => by have := (hr k e.symm).1; omega))
theorem SiM.skip {n N : Nat} {A : Nat → OpD} {l : List Nat} {s : Nat → Bool} {ks : List Int} {F : Int → Int} (hG : isG n A) (h : SiM n A l s ks F) (hN : N < 13824) (hs : s N = true) : SiM n A (l ++ [N]) s ks F :=
  ⟨fun q hq => (h.1 q hq).trans (Seen.skip hG ((h.1 N hN).1 hs)).symm, h.2⟩
theorem SiM.next {n N : Nat} {A : Nat → OpD} {l : List Nat} {s s' : Nat → Bool} {ks ks' : List Int} {F : Int → Int} {D : List T3} (hG : isG n A) (h : SiM n A l s ks F) (hN : N < 13824) (hs : s N = false) (hD : OrL A (ptN N) n D) (h' : ∀ q, q < 13824 → s' q = (s q || decide (ptN q ∈ D)))
    (hk : ∀ y, y ∈ ks' ↔ y ∈ ks ∨ y = (D.length : Int)) : SiM n A (l ++ [N]) s' ks' (setI F (D.length : Int) (F (D.length : Int) + (D.length : Int))) := by
  obtain ⟨h1, h2, h3⟩ := h
  have hns : ¬ Seen n A l N := fun x => by rw [(h1 N hN).2 x] at hs; cases hs
  have hd : ∀ q, q < 13824 → ptN q ∈ D → s q = false := fun q hq hm => by
    cases c : s q
    · rfl
    · exact absurd ((h1 q hq).1 c) (Seen.none hG hN hns hD hm)
  have hc := fun r => cnN_next hG hD h' hd r
  have hpos : 0 < D.length := by
    obtain ⟨i, hi, ei⟩ := one_idx hG (ptN_in hN)
    exact List.length_pos_of_mem ((hD.2 _).2 ⟨i, hi, ei⟩)
  have hle : D.length ≤ n := hD.len
  have hn : n ≤ 192 := hG.1
  refine ⟨fun q hq => ?_, fun r => ?_, fun y => ?_⟩
  · rw [h' q hq, Bool.or_eq_true, decide_eq_true_eq, h1 q hq, Seen.next hD]
  · rw [hc r]
    unfold setI
    by_cases e : r = D.length
    · subst e
      rw [if_pos rfl, if_pos rfl, h2]
      omega
    · rw [if_neg (show ¬ ((r : Nat) : Int) = (D.length : Int) by omega), if_neg e, h2]
      omega
  · rw [hk y, h3 y]
    constructor
    · rintro (⟨r, a, b, rfl⟩ | rfl)
      · exact ⟨r, a, by rw [hc r]; omega, rfl⟩
      · exact ⟨D.length, by omega, by rw [hc]; rw [if_pos rfl]; omega, rfl⟩
    · rintro ⟨r, a, b, rfl⟩
      by_cases e : r = D.length
      · exact .inr (by rw [e])
      · rw [hc r, if_neg e] at b
        exact .inl ⟨r, a, by omega, rfl⟩
theorem SiM.len {n : Nat} {A : Nat → OpD} {l : List Nat} {s : Nat → Bool} {ks : List Int} {F : Int → Int} (h : SiM n A l s ks F) (nd : ks.Nodup) : ks.length ≤ 193 := by
  have hsub : ks ⊆ (List.range 193).map (fun r : Nat => (r : Int)) := fun y hy => by
    obtain ⟨r, h1, -, rfl⟩ := (h.2.2 y).1 hy
    exact List.mem_map.2 ⟨r, List.mem_range.2 h1, rfl⟩
  have := List.Nodup.length_le_of_subset nd hsub
  simpa only [List.length_map, List.length_range] using this
/-- The memory within a round. -/
def InI (W6 W W3 : World) (qS qR : Nat) (s : Nat → Bool) (A : Nat → OpD) (p : T3) (js : List Nat) (W' : World) : Prop :=
  Below qS W6 W' ∧ KpS W3.heap.size (fun k => k = qS ∨ k = qR) W3 W' ∧ KeepsFrom W6.heap.size W W' ∧ ∃ D s', OrJ A p js D ∧ SeB W' qS s' ∧ (∀ q, q < 13824 → s' q = (s q || decide (ptN q ∈ D))) ∧ Boxed W' qR 2 (.int .i64 (D.length : Int))
theorem InI.step {W6 W W3 W' W'' : World} {qS qR : Nat} {s : Nat → Bool} {A : Nat → OpD} {p : T3} {js js' : List Nat} (h : InI W6 W W3 qS qR s A p js W') (hb : Below qS W' W'') (hk : KpS W3.heap.size (fun k => k = qS ∨ k = qR) W' W'') (hf : KeepsFrom W6.heap.size W' W'')
    (he : ∃ D s', OrJ A p js' D ∧ SeB W'' qS s' ∧ (∀ q, q < 13824 → s' q = (s q || decide (ptN q ∈ D))) ∧ Boxed W'' qR 2 (.int .i64 (D.length : Int))) : InI W6 W W3 qS qR s A p js' W'' :=
  ⟨h.1.trans hb, h.2.1.t hk, h.2.2.1.trans hf, he⟩
theorem InI.below {W6 W W3 W' W'' : World} {qS qR : Nat} {s : Nat → Bool} {A : Nat → OpD} {p : T3} {js : List Nat} (h : InI W6 W W3 qS qR s A p js W') (hq : qS ≤ W3.heap.size) (hb : Below W'.heap.size W' W'') : InI W6 W W3 qS qR s A p js W'' := by
  obtain ⟨a, b, c, D, s', d1, d2, d3, d4⟩ := h
  exact InI.step ⟨a, b, c, D, s', d1, d2, d3, d4⟩ (hb.mono (Nat.le_trans hq b.1)) (KpS.below hb b.1) (keepsF_below hb) ⟨D, s', d1, d2.below hb, d3, (hb.block _ d4.lt).trans d4⟩
theorem InI.own {W6 W W3 : World} {qS qR n : Nat} {s : Nat → Bool} {A : Nat → OpD} {p : T3} (h1 : qS < W3.heap.size) (h2 : qR < W3.heap.size) (h3 : W.heap.size ≤ W3.heap.size) : OwnFrom W3.heap.size (fun (pre : List { x : Nat // x < n }) W' => InI W6 W W3 qS qR s A p (pre.map (·.1)) W') := by
  rintro l X Y row ⟨a, b, c, D, s', d1, d2, d3, d4⟩ hg hr
  have hne : ∀ k, k < W3.heap.size → Y.heap[k]? = X.heap[k]? := fun k hk => hg.block k (Nat.lt_of_lt_of_le hk b.1) (fun e => by have := (hr k e.symm).1; omega)
  refine ⟨a.trans ((Below.refl qS X).grown hg (Nat.le_trans (Nat.le_of_lt h1) b.1) (fun r e => Nat.le_trans (Nat.le_of_lt h1) (hr r e).1)), ⟨Nat.le_trans b.1 hg.size, fun k hk hS => (hne k hk).trans (b.2 k hk hS)⟩, ?_, D, s', d1, d2.of_block (hne _ h1), d3, (hne _ h2).trans d4⟩
  exact ownFrom_keepsFrom (β := Unit) h3 () X Y row c hg hr
set_option maxRecDepth 100000 in
set_option maxHeartbeats 4000000 in
theorem implSites_any {w : World} {g n c : Nat} {A : Nat → OpD} (hL : OpsL w g n A) (hn : n ≤ 1048576) :
    Calls Tryz.prog 9 #[.slice (some ⟨g, 0, none⟩) n c] w (SitE w n A) := by
  have hbs : ∀ w, (Instr.buildSlice 27 0 #[]).run Tryz.prog w = .ok (.slice (some ⟨w.heap.size, 0, none⟩) 0 0) (w.alloc (.cells #[] 31)) := fun _ => by kernel_rfl
  have hwf : ∀ f, Fence.wide.fn f := fun _ => trivial
  have hwd : Fence.wide.depth.isSome = false := rfl
  have HL := hid_of hL
  clear hL
  refine (callsIn_wide (n := 9)).1 ?_
  refine callsIn_of_wp_marks Tryz.func9 rfl trivial ?_ rfl
  simp only [Tryz.ntmps9, List.size_toArray, List.length_cons, List.length_nil, Nat.reduceAdd, Nat.reduceSub, Array.replicate_succ, Array.replicate_zero, List.push_toArray, List.append_toArray, List.nil_append, List.cons_append]
  gi_wp2_with fail
  refine (callsIn_wide.2 (groupOf_any HL.out hn)).mono ?_
  rintro e w1 ⟨⟨v1, rfl, hG⟩, b1⟩
  obtain ⟨g6, m6, c6, rfl, hO, hm6, hmn, hGm⟩ := grp_one hG
  have HO := hid_of hO
  clear hO hG HL
  gi_wp2_with fail
  refine (callsIn_wide.2 (deedsOf_any HO.out hm6)).mono ?_
  rintro e w2 ⟨⟨v2, Q, rfl, hD⟩, b2⟩
  obtain ⟨gd, cd, ev2, -⟩ := hD.open
  subst ev2
  have HD := hid_of hD
  have B2 := b1.trans (b2.mono b1.size)
  clear hD HO b1 b2
  by_cases hg : isG n A
  rotate_left
  · obtain rfl : m6 = 0 := by
      rcases hGm with h | h
      · exact absurd h.1 hg
      · exact h.2
    have HNO := hid_of hg
    obtain ⟨W3, hW3, a3, b3, -⟩ := boxed w2 56 #[.slice (some ⟨gd, 0, none⟩) 0 cd]
    obtain ⟨W4, hW4, a4, b4, -⟩ := boxed W3 31 #[]
    have B3 := B2.trans (b3.mono B2.size)
    have O4 := hid_of (ArK.own (K := 2) (t := 31) (lo := w.heap.size) (n := 0) (c := 0) (f := flS []) ⟨#[], a4, rfl, fun i hi => by omega⟩ B3.size (Nat.le_refl _) (Nat.zero_le _))
    have HB4 := hid_of (B3.trans (b4.mono B3.size))
    have k3 := a3.cell 0 rfl
    clear hGm hg b3 a4 b4 B3 HD a3
    gi_wp2
    exact ⟨_, results_tmp rfl _ _ _, ⟨[], _, _, .inr ⟨HNO.out, rfl⟩, rfl, O4.out⟩, HB4.out⟩
  have e6 : m6 = n := by
    rcases hGm with h | h
    · exact h.2
    · exact absurd hg h.1
  subst e6
  have HG := hid_of hg
  have hpos : 0 < m6 := by obtain ⟨i, hi, -⟩ := hg.one; omega
  have hp0 : ((m6 : Int) == 0) = false := by
    simp; omega
  clear hg hGm hmn
  obtain ⟨q3, hq3⟩ : ∃ q, w2.heap.size = q := ⟨_, rfl⟩
  obtain ⟨W3, hW3, a3, b3, -⟩ := boxed w2 56 #[.slice (some ⟨gd, 0, none⟩) m6 cd]
  rw [hq3] at a3
  obtain ⟨qS, hqS⟩ : ∃ q, W3.heap.size = q := ⟨_, rfl⟩
  obtain ⟨W4, hW4, a4, b4, -⟩ := boxed W3 60 Tryz.zeroCells60
  rw [hqS] at a4
  obtain ⟨bm, hbm⟩ : ∃ q, W4.heap.size = q := ⟨_, rfl⟩
  obtain ⟨W5, hW5⟩ : ∃ W, W4.alloc (.map #[] 0) = W := ⟨_, rfl⟩
  have M5 : MapI W5 bm [] (fun _ => 0) := by rw [← hW5, ← hbm]; exact mapI_new W4
  have b5 : Below W4.heap.size W4 W5 := hW5 ▸ below_alloc _ _
  have hmk := makeMapI W4
  rw [hbm, hW5] at hmk
  obtain ⟨q5, hq5⟩ : ∃ q, W5.heap.size = q := ⟨_, rfl⟩
  obtain ⟨W6, hW6, a6, b6, -⟩ := boxed W5 61 #[.map (some bm)]
  rw [hq5] at a6
  have k3 := a3.cell 0 rfl
  have l3 : q3 < qS := by have := a3.lt; omega
  have lS : qS < bm := by have := a4.lt; omega
  have lm : bm < q5 := by have := M5.lt; omega
  have l6 := a6.lt
  have HW : Hid (w.heap.size ≤ q3) := by have := B2.size; rw [hq3] at this; exact this
  have c34 := b3.trans (b4.mono b3.size)
  have c35 := c34.trans (b5.mono c34.size)
  have c36 := c35.trans (b6.mono c35.size)
  have HC3 : Hid (W6.cell? ⟨q3, 0, none⟩ = some (.slice (some ⟨gd, 0, none⟩) m6 cd)) := by
    have h1 := b4.trans (b5.mono b4.size)
    have h2 := h1.trans (b6.mono h1.size)
    exact (h2.cell (p := ⟨q3, 0, none⟩) a3.lt).trans k3
  have HD6 := hid_of (HD.out.below c36)
  have HDQ : Hid (∀ i, i < m6 → Q i < q3) := fun i hi => by rw [← hq3]; exact (HD.out.bx i hi).2.lt
  have HRK : Hid (∀ i, i < m6 → isR (A i).key (kh (A i).key)) := fun i hi => key_R (HG.out.2.1 i hi)
  have HGD : Hid (gd < q3) := by
    obtain ⟨gd', cd', e, -, h, -⟩ := HD.out.open
    cases e
    rw [← hq3]; exact h
  have HB6 : Hid (Below w.heap.size w W6) := B2.trans (c36.mono B2.size)
  have HI0 : Hid (SiI W6 qS qS q5 bm m6 A [] W6) := by
    have h1 := b5.trans (b6.mono b5.size)
    refine ⟨Below.refl _ _, a6, fun _ => false, [], fun _ => 0, ⟨_, a4.below h1, Tryz.zeroCells60_size, fun q hq => zc_at hq⟩, M5.below b6, fun q hq => ⟨fun h => (by cases h), fun ⟨p, hp, _⟩ => (by cases hp)⟩, fun r => ?_, fun y => ⟨fun h => (by cases h), fun ⟨r, h1, h2, _⟩ => ?_⟩⟩
    · rw [show cnN m6 A (fun _ => false) r = 0 from kN_zero (fun q _ => by simp)]; rfl
    · rw [show cnN m6 A (fun _ => false) r = 0 from kN_zero (fun q _ => by simp)] at h2; omega
  clear a3 a4 a6 b3 b4 b5 b6 c34 c35 c36 M5 HD B2
  gi_wp2
  clear hmk hW3 hW4 hW5 hW6 hq3 hqS hbm hq5 k3
  refine wpIn_rangeFunc_ownH rfl (by omega) (gf := 34) (lb := #[]) rfl trivial (enters_of Tryz.func34 (by kernel_rfl) rfl)
    (cells_stops 8 W6) (fun {_ _ _} _ _ => trivial) (fun _ _ _ _ _ _ _ _ => trivial) (Below.refl _ _) (fun _ => rfl)
    (fun pre W => SiI W6 qS qS q5 bm m6 A (pre.map (·.1)) W) (fun _ _ _ => False) (SiI.own (by omega) (by omega) (by omega) (by omega) (by omega)) (fun _ _ _ _ _ hs _ _ => hs) HI0.out
    (fun x a' W => ∃ Bx, W6.heap.size ≤ Bx ∧ At 64 W Bx #[.int .i64 (ptN x.1).1, .int .i64 (ptN x.1).2.1, .int .i64 (ptN x.1).2.2] ∧ a' = { tmps := #[.slice (some ⟨g, 0, none⟩) m6 c, undef, .slice none 0 0, .pointer (some ⟨q3, 0, none⟩), .pointer (some ⟨qS, 0, none⟩), .pointer (some ⟨q5, 0, none⟩), .pointer (some ⟨Bx, 0, none⟩), undef, undef, .slice (some ⟨g, 0, none⟩) m6 c, .slice (some ⟨g6, 0, none⟩) m6 c6, .slice (some ⟨gd, 0, none⟩) m6 cd, .slice (some ⟨gd, 0, none⟩) m6 cd, .int .i64 (m6 : Int), .bool false, undef, .map (some bm), tV (ptN x.1), undef, undef, undef, undef, undef, undef, undef, undef, undef, undef, undef, undef, undef, undef, undef, undef, undef, undef, undef, undef, undef, undef, undef, undef, undef], defers := [] })
    (fun x a' _ X Y row hs hg hr => by
      obtain ⟨Bx, h1, h2, h3⟩ := hs
      exact ⟨Bx, h1, (hg.block Bx h2.lt (fun e => by
        obtain ⟨-, o, ho, hc⟩ := hr Bx e.symm
        rw [show X.heap[Bx]? = _ from h2] at ho; cases ho; cases hc)).trans h2, h3⟩)
    ?assign ?body ?done ?stop
  case assign =>
    rintro l pre x W K hI hK
    have hsz : W6.heap.size ≤ W.heap.size := hI.1.size
    obtain ⟨W7, hW7, a7, b7, -⟩ := boxed W 64 #[.int .i64 (ptN x.1).1, .int .i64 (ptN x.1).2.1, .int .i64 (ptN x.1).2.2]
    gi_wp2
    exact hK _ _ (keepsF_below b7) trivial (hI.below (by omega) b7) ⟨W.heap.size, hsz, a7, rfl⟩
  case body =>
    rintro l pre ⟨N, hN⟩ a' W hl ⟨r, hr⟩ ⟨hb6, hq5, s, ks, F, hS, hM, hSM⟩ ⟨Bx, hBx, aP, rfl⟩ -
    have hN' : (N : Int) < 13824 := by omega
    obtain ⟨⟨x0, x1, x2⟩, hX⟩ : ∃ p : T3, ptN N = p := ⟨_, rfl⟩
    have CP : ∀ W, Calls Tryz.prog 35 #[.agg #[.int .i64 x0, .int .i64 x1, .int .i64 x2]] W fun e w' => e = .returned (.int .i64 (N : Int)) ∧ Below W.heap.size W w' := fun W => by
      have h := place_any (ptN N) (ptN_in hN) W
      rw [plN_pt, hX] at h
      exact h
    simp only [hX] at aP ⊢
    have HCP := hid_of CP
    have HX := hid_of hX
    have HS := hid_of hS
    have HM := hid_of hM
    have HSM := hid_of hSM
    have HB := hid_of hb6
    have HQ5 := hid_of hq5
    have HR := hid_of hr
    clear CP hS hM hSM hb6 hq5 hr hX
    obtain ⟨p0, p1, p2, -⟩ := aP.open3
    cases hs : s N
    · gi_wp2_with fail
      refine (CallsIn.inRound l (callsIn_wide.2 (HCP.out _))).mono ?_
      rintro e W1 ⟨rfl, bb⟩
      have kS := ((HS.out.below bb).cell hN).1
      rw [hs] at kS
      obtain ⟨qR, hqR⟩ : ∃ q, W1.heap.size = q := ⟨_, rfl⟩
      obtain ⟨W2, hW2, aR, bR, -⟩ := boxed W1 2 #[.int .i64 0]
      rw [hqR] at aR
      have b2 := bb.trans (bR.mono bb.size)
      obtain ⟨r0, r1, r2, -⟩ := (aP.below b2).open3
      have HB2 := hid_of (HB.out.trans (b2.mono (Nat.le_trans (by omega) HB.out.size)))
      have k3 : W2.cell? ⟨q3, 0, none⟩ = some (.slice (some ⟨gd, 0, none⟩) m6 cd) := (HB2.out.cell (p := ⟨q3, 0, none⟩) l3).trans HC3.out
      have HAR := hid_of aR
      have HBb2 := hid_of b2
      have HBb1 := hid_of bb
      rw [← hW2] at r0 r1 r2 k3
      have HW2 := hid_of hW2
      clear bb bR aR p0 p1 p2 hW2
      gi_wp2_with fail
      rw [HW2.out]
      clear r0 r1 r2 k3
      refine (CallsIn.inRound l (callsIn_wide.2 (pointsFrom_any (x0, x1, x2) gd m6 cd W2))).mono ?_
      rintro e W3 ⟨rfl, hW3⟩
      obtain ⟨bp, hbp⟩ : ∃ q, W2.heap.size = q := ⟨_, rfl⟩
      obtain ⟨W3', hW3', aX, aD, bX, hXl⟩ := bx2 W2 64 56 #[.int .i64 x0, .int .i64 x1, .int .i64 x2] #[.slice (some ⟨gd, 0, none⟩) m6 cd]
      obtain rfl : W3' = W3 := hW3'.symm.trans hW3.symm
      rw [hbp] at aX aD hXl ⊢
      have lS2 : qS < W3'.heap.size := by have := HB2.out.size; omega
      have lR : qR < bp := by rw [← hbp]; exact HAR.out.lt
      have hB3 : Below qS W6 W3' := HB2.out.trans (bX.mono (Nat.le_trans (by omega) HB2.out.size))
      have hWR : W.heap.size ≤ qR := by rw [← hqR]; exact HBb1.out.size
      have h6W : W6.heap.size ≤ W.heap.size := HB.out.size
      have PS : PtsS W3' W3'.heap.size (fun k => k = qS ∨ k = qR) (bp + 1) bp gd m6 cd Q (fun i => (A i).key) (x0, x1, x2) := by
        have hgd := HGD.out
        obtain ⟨gd', cd', e', -, -, -, hdl⟩ := HD6.out.open
        cases e'
        refine ⟨aD.cell 0 rfl, aX, fun i hi => (hB3.cell (p := ⟨gd, i, none⟩) (by show gd < qS; omega)).trans (hdl i hi), fun i hi => ?_, ⟨by omega, by omega, by omega, by omega, by omega, by omega, Nat.le_refl _⟩, fun i hi => ?_⟩
        · have := HDQ.out i hi
          exact (hB3.block (Q i) (by omega)).trans (HD6.out.bx i hi).2
        · have := HDQ.out i hi
          exact ⟨by omega, by omega⟩
      have hRR : ∀ i, i < m6 → isR ((fun i => (A i).key) i) (kh ((fun i => (A i).key) i)) := fun i hi => HRK.out i hi
      have hXP : inP x0 x1 x2 := by have h := ptN_in hN; rw [HX.out] at h; exact h
      have hr3 : W3'.heap[l]? = some (.loop r) := by
        have h1 := HBb2.out.trans (bX.mono HBb2.out.size)
        exact (h1.block l (Array.getElem?_eq_some_iff.1 HR.out).1).trans HR.out
      have hKF : KeepsFrom W6.heap.size W W3' := keepsF_below (HBb2.out.trans (bX.mono HBb2.out.size))
      have hIn0 : InI W6 W W3' qS qR s A (ptN N) [] W3' := by
        refine ⟨hB3, KpS.refl _ _ _, hKF, [], s, OrJ.nil _ _, HS.out.below (HBb2.out.trans (bX.mono HBb2.out.size)), fun q hq => by simp, ?_⟩
        exact HAR.out.below bX
      have PST := pointsS_stops 6 PS hm6 hRR hXP
      have HINO := hid_of (InI.own (W6 := W6) (W := W) (W3 := W3') (qS := qS) (qR := qR) (n := m6) (s := s) (A := A) (p := ptN N) lS2 (by omega) (by omega))
      have HIN0 := hid_of hIn0
      have HB13 := hid_of (HBb2.out.trans (bX.mono HBb2.out.size))
      have HSz := hid_of (show W6.heap.size ≤ W3'.heap.size by omega)
      have HBD := hid_of (show W.heap.size ≤ qR ∧ qR < W3'.heap.size ∧ bp + 1 < W3'.heap.size by omega)
      clear hIn0 PS hKF hW3 hW3' aX aD
      gi_wp2
      refine wpIn_rangeFunc_ownN (l₀ := l) (r₀ := r) rfl hr3 (by omega) (gf := 64) (lb := #[.pointer (some ⟨bp + 1, 0, none⟩), .pointer (some ⟨bp, 0, none⟩)]) rfl trivial (enters_of Tryz.func64 (by kernel_rfl) rfl)
        (PST.inRound l) KpS.t (kpS_b (Nat.le_refl _)) (Below.refl _ _) (fun _ => rfl)
        (fun pre' W' => InI W6 W W3' qS qR s A (ptN N) (pre'.map (·.1)) W') (fun _ _ _ => False) HINO.out (fun _ _ _ _ _ hs _ _ => hs) HIN0.out
        (fun y a'' W' => ∃ By, W3'.heap.size ≤ By ∧ At 64 W' By #[.int .i64 (aK (A y.1).key (x0, x1, x2)).1, .int .i64 (aK (A y.1).key (x0, x1, x2)).2.1, .int .i64 (aK (A y.1).key (x0, x1, x2)).2.2] ∧ a'' = { tmps := #[.slice (some ⟨g, 0, none⟩) m6 c, undef, .slice none 0 0, .pointer (some ⟨q3, 0, none⟩), .pointer (some ⟨qS, 0, none⟩), .pointer (some ⟨q5, 0, none⟩), .pointer (some ⟨Bx, 0, none⟩), .pointer (some ⟨qR, 0, none⟩), .pointer (some ⟨By, 0, none⟩), .slice (some ⟨g, 0, none⟩) m6 c, .slice (some ⟨g6, 0, none⟩) m6 c6, .slice (some ⟨gd, 0, none⟩) m6 cd, .slice (some ⟨gd, 0, none⟩) m6 cd, .int .i64 (m6 : Int), .bool false, undef, .map (some bm), tV (x0, x1, x2), tV (x0, x1, x2), .int .i64 (N : Int), .pointer (some ⟨qS, N, none⟩), .bool false, tV (x0, x1, x2), .slice (some ⟨gd, 0, none⟩) m6 cd, .func (.func 64) #[] #[.pointer (some ⟨bp + 1, 0, none⟩), .pointer (some ⟨bp, 0, none⟩)], tV (aK (A y.1).key (x0, x1, x2)), undef, undef, undef, undef, undef, undef, undef, undef, undef, undef, undef, undef, undef, undef, undef, undef, undef], defers := [] })
        (fun y a'' _ X Y row hs hg hr => by
          obtain ⟨By, h1, h2, h3⟩ := hs
          exact ⟨By, h1, (hg.block By h2.lt (fun e => by
            obtain ⟨-, o, ho, hc⟩ := hr By e.symm
            rw [show X.heap[By]? = _ from h2] at ho; cases ho; cases hc)).trans h2, h3⟩)
        ?assign2 ?body2 ?done2 ?stop2
      case assign2 =>
        rintro l2 pre' y W' K hI hK
        have hsz : W3'.heap.size ≤ W'.heap.size := hI.2.1.1
        obtain ⟨W7, hW7, a7, b7, -⟩ := boxed W' 64 #[.int .i64 (aK (A y.1).key (x0, x1, x2)).1, .int .i64 (aK (A y.1).key (x0, x1, x2)).2.1, .int .i64 (aK (A y.1).key (x0, x1, x2)).2.2]
        gi_wp2
        exact hK _ _ (keepsF_below b7) (KpS.below b7 hsz) (hI.below (Nat.le_of_lt lS2) b7) ⟨W'.heap.size, hsz, a7, rfl⟩
      case body2 =>
        rintro l2 pre' ⟨j, hj⟩ a'' W' hl2 - hI ⟨By, hBy, aQ, rfl⟩ hlt2
        have hYT : inT (aK (A j).key (x0, x1, x2)) := aK_in _ _
        obtain ⟨y, hy⟩ : ∃ p : T3, aK (A j).key (x0, x1, x2) = p := ⟨_, rfl⟩
        obtain ⟨y0, y1, y2⟩ := y
        obtain ⟨M, hM'⟩ : ∃ M : Nat, (plN (y0, y1, y2)).toNat = M := ⟨_, rfl⟩
        rw [hy] at hYT
        have hpl := plN_lt hYT
        have hMl : M < 13824 := by omega
        have hMi : (M : Int) < 13824 := by omega
        have hPM : ptN M = (y0, y1, y2) := by rw [← hM']; exact pt_plN hYT
        have CP2 : ∀ W, Calls Tryz.prog 35 #[.agg #[.int .i64 y0, .int .i64 y1, .int .i64 y2]] W fun e w' => e = .returned (.int .i64 (M : Int)) ∧ Below W.heap.size W w' := fun W => by
          have h := place_any (y0, y1, y2) hYT W
          rw [show plN (y0, y1, y2) = (M : Int) by omega] at h
          exact h
        simp only [hy] at aQ ⊢
        obtain ⟨hb6', hkS, hkF, D, s', hOJ, hS', hs', hRk⟩ := id hI
        have HCP2 := hid_of CP2
        have HIN := hid_of hI
        have HOJ := hid_of hOJ
        have HS' := hid_of hS'
        have Hs' := hid_of hs'
        have HRk := hid_of hRk
        have HSz2 := hid_of hkS.1
        have hDl : D.length ≤ pre'.length := by have := hOJ.len; rwa [List.length_map] at this
        obtain ⟨d, hd⟩ : ∃ d, D.length = d := ⟨_, rfl⟩
        have hd192 : (d : Int) ≤ 192 := by omega
        have hwd1 : IntKind.i64.wrap ((d : Int) + 1) = (d : Int) + 1 := IntWalk.i64_in _ (by omega)
        have hns : ¬ Seen m6 A (pre.map (·.1)) N := fun x => by rw [(HSM.out.1 N hN).2 x] at hs; cases hs
        have hYP : aK (A j).key (ptN N) = ptN M := by rw [HX.out, hPM]; exact hy
        have hsM : s M = false := by
          cases c : s M
          · rfl
          · exfalso
            obtain ⟨b, hb, e⟩ := back_idx HG.out (ptN_in hN) hj
            rw [hYP] at e
            exact hns (((HSM.out.1 M hMl).1 c).orbit HG.out hb e)
        have HYP := hid_of hYP
        have HD := hid_of hd
        have HsM := hid_of hsM
        have HPM := hid_of hPM
        rw [hd] at hRk
        obtain ⟨g0, g1, g2, -⟩ := aQ.open3
        clear hI hOJ hS' hs' hRk hb6' hkS hkF CP2 hpl hYT hM' hPM hns hYP hsM hy hd
        cases hsm : s' M
        rotate_left
        · have hmem : Hid (ptN M ∈ D) := hid_of (by
            have h := Hs'.out M hMl
            rw [hsm, HsM.out, Bool.false_or] at h
            exact of_decide_eq_true h.symm)
          gi_wp2_with fail
          refine (CallsIn.inRound l2 (callsIn_wide.2 (HCP2.out _))).mono ?_
          rintro e W9 ⟨rfl, bb⟩
          have kM := ((HS'.out.below bb).cell hMl).1
          rw [hsm] at kM
          have FI : Hid (InI W6 W W3' qS qR s A (ptN N) (((pre' ++ [⟨j, hj⟩] : List { x : Nat // x < m6 })).map (·.1)) W9) := by
            rw [List.map_append]
            refine HIN.out.step (bb.mono (Nat.le_trans (Nat.le_of_lt lS2) HSz2.out)) (KpS.below bb HSz2.out) (keepsF_below bb) ⟨D, s', HOJ.out.old ?_, HS'.out.below bb, Hs'.out, (bb.block _ HRk.out.lt).trans HRk.out⟩
            rw [HYP.out]; exact hmem.out
          have HK := hid_of (keepsF_below (B := W3'.heap.size) bb)
          have HKS := hid_of (KpS.below (S := fun k => k = qS ∨ k = qR) bb HSz2.out)
          clear bb g0 g1 g2
          gi_wp2
          exact ⟨HK.out, HKS.out, FI.out⟩
        · have hmem : Hid (ptN M ∉ D) := hid_of (fun h => by
            have h2 := Hs'.out M hMl
            rw [hsm, HsM.out, Bool.false_or, decide_eq_true h] at h2
            cases h2)
          gi_wp2_with fail
          refine (CallsIn.inRound l2 (callsIn_wide.2 (HCP2.out _))).mono ?_
          rintro e W9 ⟨rfl, bb⟩
          have kM := ((HS'.out.below bb).cell hMl).1
          rw [hsm] at kM
          clear g0 g1 g2
          obtain ⟨g0, g1, g2, -⟩ := (aQ.below bb).open3
          gi_wp2_with fail
          refine (CallsIn.inRound l2 (callsIn_wide.2 (HCP2.out _))).mono ?_
          rintro e W10 ⟨rfl, bb2⟩
          have bb3 := bb.trans (bb2.mono bb.size)
          have hS10 := HS'.out.below bb3
          obtain ⟨kM2, fM2⟩ := hS10.cell hMl
          rw [hsm] at kM2
          have hR10 : Boxed W10 qR 2 (.int .i64 (d : Int)) := (bb3.block _ HRk.out.lt).trans (by rw [← HD.out]; exact HRk.out)
          have cR := hR10.cell
          have fR := hR10.frozen
          have HS10 := hid_of hS10
          have HR10 := hid_of hR10
          have HBB := hid_of bb3
          have hne : qS ≠ qR := by have := HBD.out; have := HB.out.size; omega
          gi_wp2
          have hkp := ((KpS.below (B := W3'.heap.size) (S := fun k => k = qS ∨ k = qR) HBB.out HSz2.out).set (.inl rfl) M (.bool true)).set (.inr rfl) 0 (.int .i64 ((d : Int) + 1))
          have hkf : ∀ B, KeepsFrom B W' ((W10.setCell ⟨qS, M, none⟩ (.bool true)).setCell ⟨qR, 0, none⟩ (.int .i64 ((d : Int) + 1))) := fun B => (keepsF_below HBB.out).trans (((KeepsOthers.setCell _ _ _).from _).trans ((KeepsOthers.setCell _ _ _).from _))
          refine ⟨hkf _, hkp, ?_⟩
          show InI W6 W W3' qS qR s A (ptN N) ((pre' ++ [⟨j, hj⟩] : List { x : Nat // x < m6 }).map (·.1)) _
          rw [List.map_append]
          have hB10 : Below qS W' W10 := HBB.out.mono (Nat.le_trans (Nat.le_of_lt lS2) HSz2.out)
          refine HIN.out.step ((hB10.setCell (p := ⟨qS, M, none⟩) (Nat.le_refl _) _).setCell (p := ⟨qR, 0, none⟩) (by show qS ≤ qR; have := HBD.out; have := HB.out.size; omega) _) hkp (hkf _) ⟨aK (A j).key (ptN N) :: D, fun q => s' q || decide (q = M), HOJ.out.new (by rw [HYP.out]; exact hmem.out), ?_, fun q hq => ?_, ?_⟩
          · exact (HS10.out.set hMl (s' := fun q => s' q || decide (q = M)) (by simp) (fun r _ hr => by simp [hr])).of_block (Below.heap_setCell _ _ _ qS hne)
          · show (s' q || decide (q = M)) = _
            rw [Hs'.out q hq, HYP.out]
            have : ptN q = ptN M ↔ q = M := ⟨fun e => ptN_inj e, fun e => by rw [e]⟩
            simp only [List.mem_cons, this]
            by_cases c1 : q = M <;> simp [c1]
          · have h1 : Boxed (W10.setCell ⟨qS, M, none⟩ (.bool true)) qR 2 (.int .i64 (d : Int)) := (Below.heap_setCell _ _ _ qR (fun e => hne e.symm)).trans HR10.out
            have h2 := h1.set (.int .i64 ((d : Int) + 1))
            rw [show (((aK (A j).key (ptN N) :: D).length : Nat) : Int) = (d : Int) + 1 by rw [List.length_cons, HD.out]; omega]
            exact h2
      case done2 =>
        rintro xs W' rfl ⟨hb6', hkS, hkF, D, s', hOJ, hS', hs', hRk⟩
        have hBD := HBD.out
        have hb6s := HB.out.size
        have hD : OrL A (ptN N) m6 D := hOJ.fin (fun i => by
          have e : ((upl m6 m6).map (fun y => y.1)) = (List.range m6).map (fun x => x) := upl_map m6 (fun x => x) m6 (Nat.le_refl _)
          rw [e]; simp)
        have hle : D.length ≤ 192 := Nat.le_trans hD.len hm6
        have cq5 : Boxed W' q5 61 (.map (some bm)) := (hkS.2 q5 (by omega) (by omega)).trans ((HB13.out.block q5 HQ5.out.lt).trans HQ5.out)
        have hM' : MapI W' bm ks F := (HM.out.below HB13.out).of_block (hkS.2 bm (by omega) (by omega))
        have hks193 := HSM.out.len hM'.nodup
        obtain ⟨d, hd⟩ : ∃ d, D.length = d := ⟨_, rfl⟩
        rw [hd] at hle hRk
        have hcn := cnN_le m6 A s d
        have hF0 := HSM.out.2.1 d
        obtain ⟨n0, hn0⟩ : ∃ x, F (d : Int) = x := ⟨_, rfl⟩
        have hn0b : 0 ≤ n0 ∧ n0 ≤ 13824 := by rw [← hn0, hF0]; omega
        have hsm : smI (d : Int) := by show (-1000000 : Int) ≤ (d : Int) ∧ (d : Int) ≤ 1000000; omega
        have hlk := hM'.look hsm
        rw [hn0] at hlk
        unfold aVI at hlk
        obtain ⟨w9, ks', hput, hM9, hk9, -, hg9, -⟩ := hM'.put (x := (d : Int)) (n := n0 + (d : Int)) hsm (wfI ⟨by omega, by omega⟩) (by unfold maxLen; omega)
        unfold aVI at hput
        have hwr : IntKind.i64.wrap (n0 + (d : Int)) = n0 + (d : Int) := IntWalk.i64_in _ (by omega)
        have FI : Hid (SiI W6 qS qS q5 bm m6 A (((pre ++ [⟨N, hN⟩] : List { x : Nat // x < 13824 })).map (·.1)) w9) := by
          rw [List.map_append]
          refine ⟨hb6'.trans ((Below.refl qS W').grown hg9 (Nat.le_trans (Nat.le_of_lt lS2) hkS.1) (fun k e => by cases e; omega)), (hg9.block q5 cq5.lt (fun e => by cases e; omega)).trans cq5, s', ks', _, hS'.of_block (hg9.block qS hS'.lt (fun e => by cases e; omega)), hM9, ?_⟩
          have h := HSM.out.next HG.out hN hs hD hs' (by rw [hd]; exact hk9)
          rw [hd, hn0] at h
          exact h
        have HKF : Hid (KeepsFrom W6.heap.size W w9) := hkF.trans ⟨hg9.size, fun k o hk hh ho => (hg9.block k (Array.getElem?_eq_some_iff.1 hh).1 (fun e => by cases e; omega)).trans hh⟩
        have c5 := cq5.cell
        have cR := hRk.cell
        clear hb6' hkS hkF hOJ hS' hs' hRk hBD hb6s hD cq5 hM' hM9 hk9 hg9 hcn hF0 hn0 hd
        gi_wp2
        exact ⟨HKF.out, trivial, FI.out⟩
      case stop2 =>
        rintro c' pre' W' _ h
        exact h.elim
    · gi_wp2_with fail
      refine (CallsIn.inRound l (callsIn_wide.2 (HCP.out _))).mono ?_
      rintro e W1 ⟨rfl, bb⟩
      have kS := ((HS.out.below bb).cell hN).1
      rw [hs] at kS
      have FI : Hid (SiI W6 qS qS q5 bm m6 A (((pre ++ [⟨N, hN⟩] : List { x : Nat // x < 13824 })).map (·.1)) W1) := by
        rw [List.map_append]
        exact ⟨HB.out.trans (bb.mono (Nat.le_trans (by omega) HB.out.size)), (bb.block _ HQ5.out.lt).trans HQ5.out, s, ks, F, HS.out.below bb, HM.out.below bb, HSM.out.skip HG.out hN hs⟩
      have HK := hid_of (keepsF_below (B := W6.heap.size) bb)
      clear bb
      gi_wp2
      exact ⟨HK.out, trivial, FI.out⟩
  case done =>
    rintro D xs W hD rfl ⟨hb6, hq5, s, ks, F, hS, hM, hSM⟩ hK
    have hall : ∀ q, q < 13824 → s q = true := fun q hq => (hSM.1 q hq).2 (Seen.self HG.out (by
      have e : ((upl 13824 13824).map (fun y => y.1)) = (List.range 13824).map (fun x => x) := upl_map 13824 (fun x => x) 13824 (Nat.le_refl _)
      rw [e, List.mem_map]
      exact ⟨q, List.mem_range.2 hq, rfl⟩) hq)
    have hF : ∀ r : Nat, F (r : Int) = ckN m6 A r := fun r => by rw [hSM.2.1 r, cnN_all hall]
    have hks : ∀ y, y ∈ ks ↔ ∃ r, r < 193 ∧ 0 < ckN m6 A r ∧ y = ((r : Nat) : Int) := fun y => by
      rw [hSM.2.2 y]
      constructor
      · rintro ⟨r, a, b, e⟩
        exact ⟨r, a, by rwa [cnN_all hall] at b, e⟩
      · rintro ⟨r, a, b, e⟩
        exact ⟨r, a, by rwa [cnN_all hall], e⟩
    have c5 := hq5.cell
    have hwW : w.heap.size ≤ W.heap.size := Nat.le_trans HB6.out.size hb6.size
    have HBW : Hid (Below w.heap.size w W) := HB6.out.trans (hb6.mono (by have := HW.out; omega))
    have HT := hid_of (toldSites_any hM (Nat.le_refl _) hks hF)
    have HKD := hid_of hK
    clear hb6 hq5 hS hM hSM hall hF hks hK HI0
    gi_wp2_with fail
    refine (callsIn_wide.2 HT.out).mono ?_
    rintro e w9 ⟨⟨g9, k9, rfl, hA⟩, b9⟩
    have hDW := (Array.getElem?_eq_some_iff.1 HKD.out).1
    have hK9 := (b9.block D hDW).trans HKD.out
    have HA := hid_of hA
    have HK9 := hid_of hK9
    have HB9 := hid_of (HBW.out.trans (b9.mono hwW))
    clear hA hK9 b9 c5
    gi_wp2
    refine ⟨by simp, .inl ⟨_, _, rfl, run_takeDeferred HK9.out, ?_⟩⟩
    refine ⟨_, results_tmp rfl _ _ _, ⟨_, g9, k9, .inl ⟨HG.out, rfl⟩, rfl, ?_⟩, HB9.out.trans (belowK_b (w := w) (Nat.le_refl _) w9 D _ _ (by have := HB6.out.size; omega) HK9.out rfl rfl)⟩
    obtain ⟨g', c', e', hlo, hlc, hcm, cur, a, hsz, hc⟩ := HA.out.nn (fun h => by cases h)
    cases e'
    have hne : g9 ≠ D := fun e => by
      subst e
      have h := (show w9.heap[g9]? = _ from a).symm.trans HK9.out
      simp at h
    exact ArK.own ⟨cur, (World.putObj_heap_other hne).trans a, hsz, hc⟩ (Nat.le_trans hwW hlo) hlc hcm
  case stop =>
    rintro D c pre W _ _ h _
    exact h.elim
end Go.Proofs.YtgjhbkpocbihbaaGreat
