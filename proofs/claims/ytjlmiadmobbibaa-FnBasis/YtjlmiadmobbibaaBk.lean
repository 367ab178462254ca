/-
  Heaps of votes: put, walked.
-/
import Derived.Test.YtjlmiadmobbibaaBj
namespace Go.Proofs.Ytjlmiadmobbibaa
open Go.RowKit

theorem step_append_at {P : Program} (w : World) {ops : Array Oper} {o : Oper} {a : Act} {K : Act → World → Prop} {Q : Exit → Act → World → Prop} {E : Prop} (hgd : o.guard = none) (s x : Operand) (t : TypeId)
    (ho : o.op = .call { callee := .builtin .append, args := #[s, x], argTypes := #[t, t] })
    (base : Nat) (e : TypeId) (i : TypeInfo) (z : Value) (size bytes : Nat) (ht : P.underlying t = some (.slice e)) (hi : P.info? e = some i) (hz : i.zero = some z)
    (hsize : i.size = size) (hby : i.bytes = bytes) (hzs : z.cells.size = size) (hsz : 0 < size)
    (v : Value) (n : Nat) (xs : List Value) (hs : a.eval s = v) (hown : w.ownsRow base e size v n xs)
    (ad : Addr) (m c : Nat) (news : List Value) (hx : a.eval x = .slice (some ad) m c) (hl : news.length = m * size) (hnews : ∀ j u, news[j]? = some u → w.cell? (ad.add j) = some u) (h1 : ∀ u ∈ news, u.oneCell' = true)
    (h63 : n + m ≤ maxLen) (hbytes : (n + m) * bytes ≤ 140737488355328) (hbase : base ≤ w.heap.size)
    (h : ∀ v' w', w'.ownsRow base e size v' (n + m) (xs ++ news) → w.grownBy w' v.ownBlock → (v' = .slice none 0 0 ↔ v = .slice none 0 0 ∧ m = 0) → (v'.ownBlock = v.ownBlock ∨ v'.ownBlock = some w.heap.size) → K (a.put o.dst v') w') :
    if Region.wanted o (yielded ops a.tmps) = true then Oper.wp P o a w K Q else E := by
  have hw : Region.wanted o (yielded ops a.tmps) = true := by simp [Region.wanted, hgd]
  rw [if_pos hw]
  obtain ⟨v', w', hr, h2, h3, h4, h5⟩ := run_append_own_at (P := P) w base t o.type e i z size bytes ht hi hz hsize hby hzs hsz v n xs hown ad m c news hl hnews h1 h63 hbytes hbase
  unfold Oper.wp execOp
  simp only [ho, resolve, invoke, builtin, Sem.run_bind, Sem.run_pure, Result.andThen_ok, List.map_toArray, List.map_cons, List.map_nil, hs, hx, hr]
  exact h v' w' h2 h3 h4 h5
theorem infoV : (Try.prog.info? 36).map (fun i => (i.zero, i.size, i.bytes)) = some (some (.agg #[.int .i64 0, .int .i64 0, .int .i64 0]), 3, 24) := by kernel_rfl
theorem isEmptyV_any {w : World} {B q n : Nat} {v : Value} {f : Nat → Vt} (h : HvV w B q v n f) (D : Bool) (hD : decide (n = 0) = D) :
    Calls Try.prog 42 #[.pointer (some ⟨q, 0, none⟩)] w fun e w' => e = .returned (.bool D) ∧ w = w' := by
  obtain ⟨a, c, rfl⟩ : ∃ a c, v = .slice a n c := by
    rcases h.own.2 with ⟨h1, h2⟩ | ⟨g, c, cur, e, _⟩
    · exact ⟨none, 0, by rw [h1, h2]⟩
    · exact ⟨some ⟨g, 0, none⟩, c, e⟩
  obtain ⟨c0, c1, -⟩ := h.hd.open2
  subst hD
  by_cases h0 : n = 0
  · subst h0
    go_enter Try.func42, Try.ntmps42
    go_wp2
    go_ret
    exact ⟨rfl, rfl⟩
  · have h0' : ¬ (n : Int) = 0 := by omega
    have e1 : ((n : Int) == 0) = false := by simpa using h0
    rw [decide_eq_false h0]
    go_enter Try.func42, Try.ntmps42
    go_wp2
    go_ret
    exact ⟨by simp, rfl⟩
theorem newsV {w : World} {g : Nat} {x : Vt} (h : At 36 w g #[.int .i64 x.x, .int .i64 x.y, .int .i64 x.c]) : ∀ j u, (vE x)[j]? = some u → w.cell? ((⟨g, 0, none⟩ : Addr).add j) = some u := by
  intro j u hu
  rcases j with _ | _ | _ | j
  · simp [vE] at hu; subst hu; exact h.cell 0 rfl
  · simp [vE] at hu; subst hu; exact h.cell 1 rfl
  · simp [vE] at hu; subst hu; exact h.cell 2 rfl
  · simp [vE] at hu
theorem HvV.top {w : World} {B q n : Nat} {v : Value} {f : Nat → Vt} (h : HvV w B q v n f) (hn : 0 < n) : ∃ g c, v = .slice (some ⟨g, 0, none⟩) n c := by
  rcases h.own.2 with ⟨_, h2⟩ | ⟨g, c, cur, e, _⟩
  · omega
  · exact ⟨g, c, e⟩
/-- What put leaves. -/
def PutPV (w : World) (B q n : Nat) (v : Value) (f : Nat → Vt) (x : Vt) (w' : World) : Prop :=
  ∃ v' f', HvV w' B q v' (n + 1) f' ∧ Hp vlt (n + 1) f' ∧ Rg (n + 1) (upd f n x) f' ∧ MvV q v.ownBlock w w' ∧ (v'.ownBlock = v.ownBlock ∨ ∃ k, v'.ownBlock = some k ∧ w.heap.size ≤ k)
theorem MvV.join {q : Nat} {o o' : Option Nat} {a b c : World} (h : MvV q o a b) (k : MvV q o' b c) (ho : o' = o ∨ ∃ j, o' = some j ∧ a.heap.size ≤ j) : MvV q o a c := by
  refine ⟨k.os.trans h.os, k.tape.trans h.tape, k.output.trans h.output, Nat.le_trans h.size k.size, fun i hi h1 h2 => (k.block i (Nat.lt_of_lt_of_le hi h.size) h1 (fun e => ?_)).trans (h.block i hi h1 h2)⟩
  rcases ho with rfl | ⟨j, rfl, hj⟩
  · exact h2 e
  · cases e; omega
set_option maxRecDepth 100000 in
set_option maxHeartbeats 4000000 in
theorem putV_any {w : World} {B q n : Nat} {v : Value} {f : Nat → Vt} (x : Vt) (h : HvV w B q v n f) (hH : Hp vlt n f) (hn : n ≤ 100000) (hB : B ≤ w.heap.size) :
    Calls Try.prog 40 #[.pointer (some ⟨q, 0, none⟩), vV x] w fun e w' => e = .returned (.tuple #[]) ∧ PutPV w B q n v f x w' := by
  obtain ⟨i0, hi0, hz0, hz1, hz2⟩ := info_parts infoV
  obtain ⟨V, hV, b0, bW, -⟩ := boxed w 36 #[.int .i64 x.x, .int .i64 x.y, .int .i64 x.c]
  obtain ⟨va, vc, rfl⟩ : ∃ a c, v = .slice a n c := by
    rcases h.own.2 with ⟨h1, h2⟩ | ⟨g, c, cur, e, _⟩
    · exact ⟨none, 0, by rw [h1, h2]⟩
    · exact ⟨some ⟨g, 0, none⟩, c, e⟩
  have hn' : (n : Int) ≤ 100000 := by omega
  have hqB := h.qB
  have h1 := h.below bW
  obtain ⟨c0, c1, -⟩ := h1.hd.open2
  go_enter Try.func40, Try.ntmps40
  go_upto_region 2 with (fail)
  clear hV c0 c1
  have hown := h1.own
  have hhd := h1.hd
  have hVs := b0.lt
  have hws : w.heap.size ≤ V.heap.size := bW.size
  have hq : q < w.heap.size := h.hd.lt
  have hvo : ∀ k, (Value.slice va n vc).ownBlock = some k → B ≤ k ∧ k < w.heap.size := fun k hk => own_ge h.own hk
  clear h h1
  obtain ⟨u0, hu0, bb⟩ : ∃ uu, V.drew = uu ∧ Below V.heap.size V uu := ⟨_, rfl, (Below.refl _ _).drew⟩
  replace b0 := b0.below bb
  replace hhd := hhd.below bb
  replace hown := own_bel hown bb
  replace bW := bW.trans (bb.mono bW.size)
  replace hws := Nat.le_trans hws bb.size
  have hVs : w.heap.size < u0.heap.size := Nat.lt_of_lt_of_le hVs bb.size
  clear bb
  refine wp_region_held_drew (S := fun w' => At 36 w' w.heap.size #[.int .i64 x.x, .int .i64 x.y, .int .i64 x.c]) (by kernel_rfl) (by rw [hu0]; exact b0) (fun hHeld => ?_)
  rw [hu0] at hHeld ⊢
  clear hu0
  change wpAnyH _ _ _ _ _ 11 #[false, false, false, false, false, false, false, false, false, false, false] _ _
  refine wpAnyH_take (i := 0) (v := .pointer (some ⟨q, 0, none⟩)) rfl (by kernel_rfl) (by kernel_rfl) (by kernel_rfl) (fun _ _ _ h => h) (Or.inl ⟨by kernel_rfl, ?_⟩) hHeld ?_
  · intro w' hSw; go_simp
  try simp only [Act.put, List.setIfInBounds_toArray, List.set_cons_zero, List.set_cons_succ, List.getElem_toArray, List.getElem_cons_zero]
  refine wpAnyH_take (i := 1) (v := .pointer (some ⟨q, 0, none⟩)) rfl (by kernel_rfl) (by kernel_rfl) (by kernel_rfl) (fun _ _ _ h => h) (Or.inl ⟨by kernel_rfl, ?_⟩) hHeld ?_
  · intro w' hSw; go_simp
  try simp only [Act.put, List.setIfInBounds_toArray, List.set_cons_zero, List.set_cons_succ, List.getElem_toArray, List.getElem_cons_succ, List.getElem_cons_zero]
  refine wpAnyH_take (i := 2) (v := .pointer (some ⟨q, 0, none⟩)) rfl (by kernel_rfl) (by kernel_rfl) (by kernel_rfl) (fun _ _ _ h => h) (Or.inl ⟨by kernel_rfl, ?_⟩) hHeld ?_
  · intro w' hSw; go_simp
  try simp only [Act.put, List.setIfInBounds_toArray, List.set_cons_zero, List.set_cons_succ, List.getElem_toArray, List.getElem_cons_succ, List.getElem_cons_zero]
  refine wpAnyH_take (i := 3) (v := .pointer (some ⟨q, 0, none⟩)) rfl (by kernel_rfl) (by kernel_rfl) (by kernel_rfl) (fun _ _ _ h => h) (Or.inl ⟨by kernel_rfl, ?_⟩) hHeld ?_
  · intro w' hSw; go_simp
  try simp only [Act.put, List.setIfInBounds_toArray, List.set_cons_zero, List.set_cons_succ, List.getElem_toArray, List.getElem_cons_succ, List.getElem_cons_zero]
  refine wpAnyH_take (i := 5) (v := vV (x)) rfl (by kernel_rfl) (by kernel_rfl) (by kernel_rfl) (fun _ _ _ h => h) (Or.inl ⟨by kernel_rfl, ?_⟩) hHeld ?_
  · intro w' hSw; obtain ⟨z0, z1, z2, -⟩ := hSw.open3; go_simp
  try simp only [Act.put, List.setIfInBounds_toArray, List.set_cons_zero, List.set_cons_succ, List.getElem_toArray, List.getElem_cons_succ, List.getElem_cons_zero]
  refine wpAnyH_ready (rs := [4, 6]) (by kernel_rfl) (by simp) ?_
  refine AllReadyH.cons rfl (fun KK hK' => ?_) (AllReadyH.cons rfl (fun KK hK' => ?_) AllReadyH.nil)
  · obtain ⟨y0, y1, -⟩ := hhd.open2
    go_simp
    clear y0 y1
    clear hHeld
    refine hK'.out _ _ (b0) (fun hHeld => ?_)
    clear hK' KK
    try simp only [List.setIfInBounds_toArray, List.set_cons_zero, List.set_cons_succ]
    refine wpAnyH_ready (rs := [6]) (by kernel_rfl) (by simp) ?_
    refine AllReadyH.cons rfl (fun KK hK' => ?_) AllReadyH.nil
    go_simp
    obtain ⟨u2, hV9, A9, bb, -⟩ := boxed u0 36 #[.int .i64 x.x, .int .i64 x.y, .int .i64 x.c]
    rw [hV9]
    clear hV9
    replace b0 := b0.below bb
    replace hown := own_bel hown bb
    replace hhd := hhd.below bb
    replace bW := bW.trans (bb.mono bW.size)
    have hg9 : w.heap.size ≤ u0.heap.size := by omega
    have hu9 := bb.size
    clear bb
    clear hHeld
    refine hK'.out _ _ (b0) (fun hHeld => ?_)
    clear hK' KK
    try simp only [List.setIfInBounds_toArray, List.set_cons_zero, List.set_cons_succ]
    refine wpAnyH_ready (rs := [7]) (by kernel_rfl) (by simp) ?_
    refine AllReadyH.cons rfl (fun KK hK' => ?_) AllReadyH.nil
    refine step_append_at _ (by rfl) _ _ _ (by rfl) B 36 i0 _ 3 24 Try.underlying33 hi0 hz0 hz1 hz2 rfl (by omega) (.slice va n vc) n (hC vE f n) (by rfl) hown ⟨u0.heap.size, 0, none⟩ 1 1 (vE x) (by rfl) (by rfl) (newsV A9) (vE_one x) (by unfold maxLen; omega) (by omega) (by omega) ?_
    intro v2 u3 hown2 hgrow2 hne2 hat2
    obtain ⟨g, c, rfl⟩ : ∃ g c, v2 = .slice (some ⟨g, 0, none⟩) (n + 1) c := by rcases hown2.2 with ⟨_, h2⟩ | ⟨g, c, cur, e, _⟩; omega; exact ⟨g, c, e⟩
    clear A9
    have hb0 : At 36 u3 w.heap.size #[.int .i64 x.x, .int .i64 x.y, .int .i64 x.c] := (hgrow2.block _ b0.lt (fun e => by have := hvo _ e.symm; omega)).trans b0
    have hh0 : At 74 u3 q #[.slice va n vc, .func (.func 38) #[] #[]] := (hgrow2.block _ hhd.lt (fun e => by have := hvo _ e.symm; omega)).trans hhd
    have hm : MvV q (Value.slice va n vc).ownBlock w u3 := (MvV.of_below bW).trans ⟨hgrow2.os, hgrow2.tape, hgrow2.output, hgrow2.size, fun k hk _ h2 => hgrow2.block k hk (fun e => h2 e.symm)⟩
    have hat : some g = (Value.slice va n vc).ownBlock ∨ ∃ k, some g = some k ∧ w.heap.size ≤ k := hat2.imp id fun e => ⟨_, e, by omega⟩
    have hus := hgrow2.size
    clear hown hhd b0 hne2 hat2 bW hgrow2
    have b0 := hb0
    have hhd := hh0
    clear hb0 hh0
    clear hHeld
    refine hK'.out _ _ (b0) (fun hHeld => ?_)
    clear hK' KK
    try simp only [List.setIfInBounds_toArray, List.set_cons_zero, List.set_cons_succ]
    refine wpAnyH_take (i := 8) (v := .pointer (some ⟨q, 0, none⟩)) rfl (by kernel_rfl) (by kernel_rfl) (by kernel_rfl) (fun _ _ _ h => h) (Or.inl ⟨by kernel_rfl, ?_⟩) hHeld ?_
    · intro w' hSw; go_simp
    try simp only [Act.put, List.setIfInBounds_toArray, List.set_cons_zero, List.set_cons_succ, List.getElem_toArray, List.getElem_cons_succ, List.getElem_cons_zero]
    refine wpAnyH_take (i := 9) (v := .pointer (some ⟨q, 0, none⟩)) rfl (by kernel_rfl) (by kernel_rfl) (by kernel_rfl) (fun _ _ _ h => h) (Or.inl ⟨by kernel_rfl, ?_⟩) hHeld ?_
    · intro w' hSw; go_simp
    try simp only [Act.put, List.setIfInBounds_toArray, List.set_cons_zero, List.set_cons_succ, List.getElem_toArray, List.getElem_cons_succ, List.getElem_cons_zero]
    refine wpAnyH_ready (rs := [10]) (by kernel_rfl) (by simp) ?_
    refine AllReadyH.cons rfl (fun KK hK' => ?_) AllReadyH.nil
    obtain ⟨y0, y1, f0, f1⟩ := hhd.open2
    go_simp
    obtain ⟨u4, hU, hh9, ho9, hm9, hb9⟩ : ∃ U, u3.setCell ⟨q, 0, none⟩ (.slice (some ⟨g, 0, none⟩) (n + 1) c) = U ∧ At 74 U q #[.slice (some ⟨g, 0, none⟩) (n + 1) c, .func (.func 38) #[] #[]] ∧ U.ownsRow B 36 3 (.slice (some ⟨g, 0, none⟩) (n + 1) c) (n + 1) (hC vE (upd f n x) (n + 1)) ∧ MvV q (Value.slice va n vc).ownBlock w U ∧ At 36 U w.heap.size #[.int .i64 x.x, .int .i64 x.y, .int .i64 x.c] := ⟨_, rfl, by simpa using hhd.set 0 (.slice (some ⟨g, 0, none⟩) (n + 1) c), own_setO (by rw [hC, upd_at, ← hC_congr (f := f) (fun i hi => (upd_o f x (by omega)).symm)]; exact hown2) (fun e => by have := (own_ge hown2 e).1; omega) _, hm.set _, b0.setOther (by omega) _⟩
    rw [hU]
    clear hU hhd hm hown2 b0 y0 y1 f0 f1
    have b0 := hb9
    clear hb9
    clear hHeld
    refine hK'.out _ _ (b0) (fun hHeld => ?_)
    clear hK' KK
    try simp only [List.setIfInBounds_toArray, List.set_cons_zero, List.set_cons_succ]
    refine wpAnyH_done (by kernel_rfl) ?_ _
    clear hHeld
    have HV : HvV u4 B q (.slice (some ⟨g, 0, none⟩) (n + 1) c) (n + 1) (upd f n x) := ⟨ho9, hh9, hqB⟩
    clear ho9 hh9 b0
    obtain ⟨U, hU⟩ : ∃ U, u4 = U := ⟨_, rfl⟩
    rw [hU] at HV hm9 ⊢
    clear hU
    have U0 := up_put hH x
    go_wp2_with fail
    go_loopw [4] (fun s wr => ∃ (a : Nat) (f' : Nat → Vt), a < n + 1 ∧ s = .int .i64 (a : Int) ∧ HvV wr B q (.slice (some ⟨g, 0, none⟩) (n + 1) c) (n + 1) f' ∧ Up vlt (n + 1) f' a ∧ Rg (n + 1) (upd f n x) f' ∧ MvV q (some g) U wr) (fun s _ => (intOf s).toNat)
    case atStart => exact ⟨n, _, by omega, rfl, HV, U0, Rg.refl _ _, MvV.of_below (Below.refl _ _)⟩
    case round =>
      clear HV U0
      obtain ⟨a, f', ha, rfl, HV, hU, hR, hM⟩ := hrel
      by_cases h0 : a = 0
      · have hF : PutPV w B q n (.slice va n vc) f x wr := ⟨_, f', HV, hU.done (.inl h0), hR, hm9.join hM hat, hat⟩
        subst h0
        clear HV hU hR hM hm9 hat
        go_wp2
        exact ⟨rfl, .tuple #[], by simp [results, Try.results40, go_sem], rfl, hF⟩
      · obtain ⟨p, hp⟩ : ∃ p, (a - 1) / 2 = p := ⟨_, rfl⟩
        have hpa : p < a := by omega
        have h0' : (0 : Int) < (a : Int) := by omega
        have e1 : ((a : Int) - 1).tdiv 2 = (p : Int) := by rw [Int.tdiv_eq_ediv_of_nonneg (by omega)]; omega
        have e2 : ((a : Int) - 1) / 2 = (p : Int) := by omega
        have ha' : (a : Int) ≤ 100000 := by omega
        have HP : Hid ((a - 1) / 2 = p) := hp
        clear hp
        go_wp2_with fail
        refine (swappedV_any HV ha (show p < n + 1 by omega) (by omega)).mono ?_
        rintro e w5 ⟨⟨hl, rfl, HV'⟩ | ⟨hl, rfl, HV'⟩, hM'⟩
        · have hF : PutPV w B q n (.slice va n vc) f x w5 := ⟨_, f', HV', hU.done (.inr (by rw [HP.out]; exact hl)), hR, hm9.join (hM.trans hM') hat, hat⟩
          clear HV HV' hU hR hM hM' hm9 hat
          go_wp2
          exact ⟨rfl, .tuple #[], by simp [results, Try.results40, go_sem], rfl, hF⟩
        · have hU' := hU.step vlt_swo ha (by omega) (by rw [HP.out]; exact hl)
          rw [HP.out] at hU'
          have hR' := hR.trans (rg_sw f' ha (show p < n + 1 by omega))
          replace hM := hM.trans hM'
          have HH : Hid _ := hU'
          clear HV hU hU' hR hM' hl
          go_wp2
          exact ⟨⟨p, _, by omega, rfl, HV', HH.out, hR', hM⟩, by simp [intOf]; omega⟩
  · go_simp
    obtain ⟨u1, hV9, A9, bb, -⟩ := boxed u0 36 #[.int .i64 x.x, .int .i64 x.y, .int .i64 x.c]
    rw [hV9]
    clear hV9
    replace b0 := b0.below bb
    replace hown := own_bel hown bb
    replace hhd := hhd.below bb
    replace bW := bW.trans (bb.mono bW.size)
    have hg9 : w.heap.size ≤ u0.heap.size := by omega
    have hu9 := bb.size
    clear bb
    clear hHeld
    refine hK'.out _ _ (b0) (fun hHeld => ?_)
    clear hK' KK
    try simp only [List.setIfInBounds_toArray, List.set_cons_zero, List.set_cons_succ]
    refine wpAnyH_ready (rs := [4]) (by kernel_rfl) (by simp) ?_
    refine AllReadyH.cons rfl (fun KK hK' => ?_) AllReadyH.nil
    obtain ⟨y0, y1, -⟩ := hhd.open2
    go_simp
    clear y0 y1
    clear hHeld
    refine hK'.out _ _ (b0) (fun hHeld => ?_)
    clear hK' KK
    try simp only [List.setIfInBounds_toArray, List.set_cons_zero, List.set_cons_succ]
    refine wpAnyH_ready (rs := [7]) (by kernel_rfl) (by simp) ?_
    refine AllReadyH.cons rfl (fun KK hK' => ?_) AllReadyH.nil
    refine step_append_at _ (by rfl) _ _ _ (by rfl) B 36 i0 _ 3 24 Try.underlying33 hi0 hz0 hz1 hz2 rfl (by omega) (.slice va n vc) n (hC vE f n) (by rfl) hown ⟨u0.heap.size, 0, none⟩ 1 1 (vE x) (by rfl) (by rfl) (newsV A9) (vE_one x) (by unfold maxLen; omega) (by omega) (by omega) ?_
    intro v2 u3 hown2 hgrow2 hne2 hat2
    obtain ⟨g, c, rfl⟩ : ∃ g c, v2 = .slice (some ⟨g, 0, none⟩) (n + 1) c := by rcases hown2.2 with ⟨_, h2⟩ | ⟨g, c, cur, e, _⟩; omega; exact ⟨g, c, e⟩
    clear A9
    have hb0 : At 36 u3 w.heap.size #[.int .i64 x.x, .int .i64 x.y, .int .i64 x.c] := (hgrow2.block _ b0.lt (fun e => by have := hvo _ e.symm; omega)).trans b0
    have hh0 : At 74 u3 q #[.slice va n vc, .func (.func 38) #[] #[]] := (hgrow2.block _ hhd.lt (fun e => by have := hvo _ e.symm; omega)).trans hhd
    have hm : MvV q (Value.slice va n vc).ownBlock w u3 := (MvV.of_below bW).trans ⟨hgrow2.os, hgrow2.tape, hgrow2.output, hgrow2.size, fun k hk _ h2 => hgrow2.block k hk (fun e => h2 e.symm)⟩
    have hat : some g = (Value.slice va n vc).ownBlock ∨ ∃ k, some g = some k ∧ w.heap.size ≤ k := hat2.imp id fun e => ⟨_, e, by omega⟩
    have hus := hgrow2.size
    clear hown hhd b0 hne2 hat2 bW hgrow2
    have b0 := hb0
    have hhd := hh0
    clear hb0 hh0
    clear hHeld
    refine hK'.out _ _ (b0) (fun hHeld => ?_)
    clear hK' KK
    try simp only [List.setIfInBounds_toArray, List.set_cons_zero, List.set_cons_succ]
    refine wpAnyH_take (i := 8) (v := .pointer (some ⟨q, 0, none⟩)) rfl (by kernel_rfl) (by kernel_rfl) (by kernel_rfl) (fun _ _ _ h => h) (Or.inl ⟨by kernel_rfl, ?_⟩) hHeld ?_
    · intro w' hSw; go_simp
    try simp only [Act.put, List.setIfInBounds_toArray, List.set_cons_zero, List.set_cons_succ, List.getElem_toArray, List.getElem_cons_succ, List.getElem_cons_zero]
    refine wpAnyH_take (i := 9) (v := .pointer (some ⟨q, 0, none⟩)) rfl (by kernel_rfl) (by kernel_rfl) (by kernel_rfl) (fun _ _ _ h => h) (Or.inl ⟨by kernel_rfl, ?_⟩) hHeld ?_
    · intro w' hSw; go_simp
    try simp only [Act.put, List.setIfInBounds_toArray, List.set_cons_zero, List.set_cons_succ, List.getElem_toArray, List.getElem_cons_succ, List.getElem_cons_zero]
    refine wpAnyH_ready (rs := [10]) (by kernel_rfl) (by simp) ?_
    refine AllReadyH.cons rfl (fun KK hK' => ?_) AllReadyH.nil
    obtain ⟨y0, y1, f0, f1⟩ := hhd.open2
    go_simp
    obtain ⟨u4, hU, hh9, ho9, hm9, hb9⟩ : ∃ U, u3.setCell ⟨q, 0, none⟩ (.slice (some ⟨g, 0, none⟩) (n + 1) c) = U ∧ At 74 U q #[.slice (some ⟨g, 0, none⟩) (n + 1) c, .func (.func 38) #[] #[]] ∧ U.ownsRow B 36 3 (.slice (some ⟨g, 0, none⟩) (n + 1) c) (n + 1) (hC vE (upd f n x) (n + 1)) ∧ MvV q (Value.slice va n vc).ownBlock w U ∧ At 36 U w.heap.size #[.int .i64 x.x, .int .i64 x.y, .int .i64 x.c] := ⟨_, rfl, by simpa using hhd.set 0 (.slice (some ⟨g, 0, none⟩) (n + 1) c), own_setO (by rw [hC, upd_at, ← hC_congr (f := f) (fun i hi => (upd_o f x (by omega)).symm)]; exact hown2) (fun e => by have := (own_ge hown2 e).1; omega) _, hm.set _, b0.setOther (by omega) _⟩
    rw [hU]
    clear hU hhd hm hown2 b0 y0 y1 f0 f1
    have b0 := hb9
    clear hb9
    clear hHeld
    refine hK'.out _ _ (b0) (fun hHeld => ?_)
    clear hK' KK
    try simp only [List.setIfInBounds_toArray, List.set_cons_zero, List.set_cons_succ]
    refine wpAnyH_done (by kernel_rfl) ?_ _
    clear hHeld
    have HV : HvV u4 B q (.slice (some ⟨g, 0, none⟩) (n + 1) c) (n + 1) (upd f n x) := ⟨ho9, hh9, hqB⟩
    clear ho9 hh9 b0
    obtain ⟨U, hU⟩ : ∃ U, u4 = U := ⟨_, rfl⟩
    rw [hU] at HV hm9 ⊢
    clear hU
    have U0 := up_put hH x
    go_wp2_with fail
    go_loopw [4] (fun s wr => ∃ (a : Nat) (f' : Nat → Vt), a < n + 1 ∧ s = .int .i64 (a : Int) ∧ HvV wr B q (.slice (some ⟨g, 0, none⟩) (n + 1) c) (n + 1) f' ∧ Up vlt (n + 1) f' a ∧ Rg (n + 1) (upd f n x) f' ∧ MvV q (some g) U wr) (fun s _ => (intOf s).toNat)
    case atStart => exact ⟨n, _, by omega, rfl, HV, U0, Rg.refl _ _, MvV.of_below (Below.refl _ _)⟩
    case round =>
      clear HV U0
      obtain ⟨a, f', ha, rfl, HV, hU, hR, hM⟩ := hrel
      by_cases h0 : a = 0
      · have hF : PutPV w B q n (.slice va n vc) f x wr := ⟨_, f', HV, hU.done (.inl h0), hR, hm9.join hM hat, hat⟩
        subst h0
        clear HV hU hR hM hm9 hat
        go_wp2
        exact ⟨rfl, .tuple #[], by simp [results, Try.results40, go_sem], rfl, hF⟩
      · obtain ⟨p, hp⟩ : ∃ p, (a - 1) / 2 = p := ⟨_, rfl⟩
        have hpa : p < a := by omega
        have h0' : (0 : Int) < (a : Int) := by omega
        have e1 : ((a : Int) - 1).tdiv 2 = (p : Int) := by rw [Int.tdiv_eq_ediv_of_nonneg (by omega)]; omega
        have e2 : ((a : Int) - 1) / 2 = (p : Int) := by omega
        have ha' : (a : Int) ≤ 100000 := by omega
        have HP : Hid ((a - 1) / 2 = p) := hp
        clear hp
        go_wp2_with fail
        refine (swappedV_any HV ha (show p < n + 1 by omega) (by omega)).mono ?_
        rintro e w5 ⟨⟨hl, rfl, HV'⟩ | ⟨hl, rfl, HV'⟩, hM'⟩
        · have hF : PutPV w B q n (.slice va n vc) f x w5 := ⟨_, f', HV', hU.done (.inr (by rw [HP.out]; exact hl)), hR, hm9.join (hM.trans hM') hat, hat⟩
          clear HV HV' hU hR hM hM' hm9 hat
          go_wp2
          exact ⟨rfl, .tuple #[], by simp [results, Try.results40, go_sem], rfl, hF⟩
        · have hU' := hU.step vlt_swo ha (by omega) (by rw [HP.out]; exact hl)
          rw [HP.out] at hU'
          have hR' := hR.trans (rg_sw f' ha (show p < n + 1 by omega))
          replace hM := hM.trans hM'
          have HH : Hid _ := hU'
          clear HV hU hU' hR hM' hl
          go_wp2
          exact ⟨⟨p, _, by omega, rfl, HV', HH.out, hR', hM⟩, by simp [intOf]; omega⟩
end Go.Proofs.Ytjlmiadmobbibaa
