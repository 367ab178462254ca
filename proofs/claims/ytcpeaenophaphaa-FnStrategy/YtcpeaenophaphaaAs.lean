/-
  Heaps of plans: put, walked.
-/
import Derived.Test.YtcpeaenophaphaaAr
namespace Go.Proofs.Ytcpeaenophaphaa
open Go.RowKit

theorem own_atO {w : World} {B n : Nat} {v : Value} {e : TypeId} {k : Nat} {xs : List Value} (h : w.ownsRow B e k v n xs) : ∀ j, v.ownBlock = some j → ∃ cur, At e w j cur := by
  intro j hj
  rcases h.2 with ⟨rfl, _⟩ | ⟨g', c', cur, rfl, hb, hh, hc1, hc2, hsz, ht⟩
  · simp [Value.ownBlock] at hj
  · obtain rfl : g' = j := by simpa [Value.ownBlock] using hj
    exact ⟨cur, hh⟩
theorem ok_mvO {w w' : World} {q n : Nat} {o : Option Nat} {f : Nat → Pl} {hs : Array Value} (h : ∀ i, i < n → Ok w (f i)) (hd : At 59 w q hs) (hg : ∀ j, o = some j → ∃ cur, At 56 w j cur) (hb : ∀ k, k < w.heap.size → k ≠ q → o ≠ some k → w'.heap[k]? = w.heap[k]?) : ∀ i, i < n → Ok w' (f i) := by
  intro i hi
  obtain ⟨cur, hc⟩ := (h i hi).at
  refine ⟨own_keepA (h i hi).1 (fun j hj => ?_), (h i hi).2⟩
  obtain rfl : (f i).g = j := by simpa [Value.ownBlock] using hj
  refine hb _ hc.lt (at_ne hc hd (by decide)) (fun e => ?_)
  obtain ⟨cg, hcg⟩ := hg _ e
  exact at_ne hcg hc (by decide) rfl
theorem ok_upd {w : World} {n : Nat} {f : Nat → Pl} {x : Pl} (h : ∀ i, i < n → Ok w (f i)) (hx : Ok w x) : ∀ i, i < n + 1 → Ok w (upd f n x i) := by
  intro i hi
  by_cases e : i = n
  · subst e; rw [upd_at]; exact hx
  · rw [upd_o f x e]; exact h i (by omega)
theorem infoP : (Try.prog.info? 56).map (fun i => (i.zero, i.size, i.bytes)) = some (some (.agg #[.slice none 0 0, .int .u64 0]), 2, 32) := by kernel_rfl
theorem newsP {w : World} {g : Nat} {x : Pl} (h : At 56 w g #[.slice (some ⟨(x).g, 0, none⟩) (x).l.length (x).c, .int .u64 (x).s]) : ∀ j u, (pE x)[j]? = some u → w.cell? ((⟨g, 0, none⟩ : Addr).add j) = some u := by
  intro j u hu
  rcases j with _ | _ | j
  · simp [pE] at hu; subst hu; exact h.cell 0 rfl
  · simp [pE] at hu; subst hu; exact h.cell 1 rfl
  · simp [pE] at hu
theorem HvP.top {w : World} {B q n : Nat} {v : Value} {f : Nat → Pl} (h : HvP w B q v n f) (hn : 0 < n) : ∃ g c, v = .slice (some ⟨g, 0, none⟩) n c := by
  rcases h.own.2 with ⟨_, h2⟩ | ⟨g, c, cur, e, _⟩
  · omega
  · exact ⟨g, c, e⟩
/-- What put leaves. -/
def PutPP (w : World) (B q n : Nat) (v : Value) (f : Nat → Pl) (x : Pl) (w' : World) : Prop :=
  ∃ v' f', HvP w' B q v' (n + 1) f' ∧ Hp qlt (n + 1) f' ∧ Rg (n + 1) (upd f n x) f' ∧ MvP q v.ownBlock w w' ∧ (v'.ownBlock = v.ownBlock ∨ ∃ k, v'.ownBlock = some k ∧ w.heap.size ≤ k)
theorem MvP.join {q : Nat} {o o' : Option Nat} {a b c : World} (h : MvP q o a b) (k : MvP q o' b c) (ho : o' = o ∨ ∃ j, o' = some j ∧ a.heap.size ≤ j) : MvP q o a c := by
  refine ⟨k.os.trans h.os, k.tape.trans h.tape, k.output.trans h.output, Nat.le_trans h.size k.size, fun i hi h1 h2 => (k.block i (Nat.lt_of_lt_of_le hi h.size) h1 (fun e => ?_)).trans (h.block i hi h1 h2)⟩
  rcases ho with rfl | ⟨j, rfl, hj⟩
  · exact h2 e
  · cases e; omega
set_option maxRecDepth 100000 in
set_option maxHeartbeats 4000000 in
theorem putP_any {w : World} {B q n : Nat} {v : Value} {f : Nat → Pl} (x : Pl) (h : HvP w B q v n f) (hH : Hp qlt n f) (hn : n ≤ 100000) (hB : B ≤ w.heap.size) (hx : Ok w x) :
    Calls Try.prog 41 #[.pointer (some ⟨q, 0, none⟩), pV x] w fun e w' => e = .returned (.tuple #[]) ∧ PutPP w B q n v f x w' := by
  obtain ⟨i0, hi0, hz0, hz1, hz2⟩ := info_parts infoP
  obtain ⟨V, hV, b0, bW, -⟩ := boxed w 56 #[.slice (some ⟨(x).g, 0, none⟩) (x).l.length (x).c, .int .u64 (x).s]
  obtain ⟨va, vc, rfl⟩ : ∃ a c, v = .slice a n c := by
    rcases h.own.2 with ⟨h1, h2⟩ | ⟨g, c, cur, e, _⟩
    · exact ⟨none, 0, by rw [h1, h2]⟩
    · exact ⟨some ⟨g, 0, none⟩, c, e⟩
  have hn' : (n : Int) ≤ 100000 := by omega
  have hqB := h.qB
  have h1 := h.below bW
  obtain ⟨c0, c1, -⟩ := h1.hd.open2
  go_enter Try.func41, Try.ntmps41
  go_upto_region 2 with (fail)
  clear hV c0 c1
  have hown := h1.own
  have hhd := h1.hd
  have hVs := b0.lt
  have hws : w.heap.size ≤ V.heap.size := bW.size
  have hq : q < w.heap.size := h.hd.lt
  have hvo : ∀ k, (Value.slice va n vc).ownBlock = some k → B ≤ k ∧ k < w.heap.size := fun k hk => own_ge h.own hk
  have hok : ∀ i, i < n + 1 → Ok w (upd f n x i) := ok_upd h.ok hx
  have hho := own_atO h.own
  have hhd0 := h.hd
  clear h h1 hx
  obtain ⟨u0, hu0, bb⟩ : ∃ uu, V.drew = uu ∧ Below V.heap.size V uu := ⟨_, rfl, (Below.refl _ _).drew⟩
  replace b0 := b0.below bb
  replace hhd := hhd.below bb
  replace hown := own_bel hown bb
  replace bW := bW.trans (bb.mono bW.size)
  replace hws := Nat.le_trans hws bb.size
  have hVs : w.heap.size < u0.heap.size := Nat.lt_of_lt_of_le hVs bb.size
  clear bb
  refine wp_region_held_drew (S := fun w' => At 56 w' w.heap.size #[.slice (some ⟨(x).g, 0, none⟩) (x).l.length (x).c, .int .u64 (x).s]) (by kernel_rfl) (by rw [hu0]; exact b0) (fun hHeld => ?_)
  rw [hu0] at hHeld ⊢
  clear hu0
  change wpAnyH _ _ _ _ _ 11 #[false, false, false, false, false, false, false, false, false, false, false] _ _
  refine wpAnyH_take (i := 0) (v := .pointer (some ⟨q, 0, none⟩)) rfl (by kernel_rfl) (by kernel_rfl) (by kernel_rfl) (fun _ _ _ h => h) (Or.inl ⟨by kernel_rfl, ?_⟩) hHeld ?_
  · intro w' hSw; go_simp
  try simp only [Act.put, List.setIfInBounds_toArray, List.set_cons_zero, List.set_cons_succ, List.getElem_toArray, List.getElem_cons_zero]
  refine wpAnyH_take (i := 1) (v := .pointer (some ⟨q, 0, none⟩)) rfl (by kernel_rfl) (by kernel_rfl) (by kernel_rfl) (fun _ _ _ h => h) (Or.inl ⟨by kernel_rfl, ?_⟩) hHeld ?_
  · intro w' hSw; go_simp
  try simp only [Act.put, List.setIfInBounds_toArray, List.set_cons_zero, List.set_cons_succ, List.getElem_toArray, List.getElem_cons_succ, List.getElem_cons_zero]
  refine wpAnyH_take (i := 2) (v := .pointer (some ⟨q, 0, none⟩)) rfl (by kernel_rfl) (by kernel_rfl) (by kernel_rfl) (fun _ _ _ h => h) (Or.inl ⟨by kernel_rfl, ?_⟩) hHeld ?_
  · intro w' hSw; go_simp
  try simp only [Act.put, List.setIfInBounds_toArray, List.set_cons_zero, List.set_cons_succ, List.getElem_toArray, List.getElem_cons_succ, List.getElem_cons_zero]
  refine wpAnyH_take (i := 3) (v := .pointer (some ⟨q, 0, none⟩)) rfl (by kernel_rfl) (by kernel_rfl) (by kernel_rfl) (fun _ _ _ h => h) (Or.inl ⟨by kernel_rfl, ?_⟩) hHeld ?_
  · intro w' hSw; go_simp
  try simp only [Act.put, List.setIfInBounds_toArray, List.set_cons_zero, List.set_cons_succ, List.getElem_toArray, List.getElem_cons_succ, List.getElem_cons_zero]
  refine wpAnyH_take (i := 5) (v := pV (x)) rfl (by kernel_rfl) (by kernel_rfl) (by kernel_rfl) (fun _ _ _ h => h) (Or.inl ⟨by kernel_rfl, ?_⟩) hHeld ?_
  · intro w' hSw; obtain ⟨z0, z1, -⟩ := hSw.open2; go_simp
  try simp only [Act.put, List.setIfInBounds_toArray, List.set_cons_zero, List.set_cons_succ, List.getElem_toArray, List.getElem_cons_succ, List.getElem_cons_zero]
  refine wpAnyH_ready (rs := [4, 6]) (by kernel_rfl) (by simp) ?_
  refine AllReadyH.cons rfl (fun KK hK' => ?_) (AllReadyH.cons rfl (fun KK hK' => ?_) AllReadyH.nil)
  · obtain ⟨y0, y1, -⟩ := hhd.open2
    go_simp
    clear y0 y1
    clear hHeld
    refine hK'.out _ _ (b0) (fun hHeld => ?_)
    clear hK' KK
    try simp only [List.setIfInBounds_toArray, List.set_cons_zero, List.set_cons_succ]
    refine wpAnyH_ready (rs := [6]) (by kernel_rfl) (by simp) ?_
    refine AllReadyH.cons rfl (fun KK hK' => ?_) AllReadyH.nil
    go_simp
    obtain ⟨u2, hV9, A9, bb, -⟩ := boxed u0 56 #[.slice (some ⟨(x).g, 0, none⟩) (x).l.length (x).c, .int .u64 (x).s]
    rw [hV9]
    clear hV9
    replace b0 := b0.below bb
    replace hown := own_bel hown bb
    replace hhd := hhd.below bb
    replace bW := bW.trans (bb.mono bW.size)
    have hg9 : w.heap.size ≤ u0.heap.size := by omega
    have hu9 := bb.size
    clear bb
    clear hHeld
    refine hK'.out _ _ (b0) (fun hHeld => ?_)
    clear hK' KK
    try simp only [List.setIfInBounds_toArray, List.set_cons_zero, List.set_cons_succ]
    refine wpAnyH_ready (rs := [7]) (by kernel_rfl) (by simp) ?_
    refine AllReadyH.cons rfl (fun KK hK' => ?_) AllReadyH.nil
    refine step_append_at _ (by rfl) _ _ _ (by rfl) B 56 i0 _ 2 32 Try.underlying57 hi0 hz0 hz1 hz2 rfl (by omega) (.slice va n vc) n (hC pE f n) (by rfl) hown ⟨u0.heap.size, 0, none⟩ 1 1 (pE x) (by rfl) (by rfl) (newsP A9) (pE_one x) (by unfold maxLen; omega) (by omega) (by omega) ?_
    intro v2 u3 hown2 hgrow2 hne2 hat2
    obtain ⟨g, c, rfl⟩ : ∃ g c, v2 = .slice (some ⟨g, 0, none⟩) (n + 1) c := by rcases hown2.2 with ⟨_, h2⟩ | ⟨g, c, cur, e, _⟩; omega; exact ⟨g, c, e⟩
    clear A9
    have hb0 : At 56 u3 w.heap.size #[.slice (some ⟨(x).g, 0, none⟩) (x).l.length (x).c, .int .u64 (x).s] := (hgrow2.block _ b0.lt (fun e => by have := hvo _ e.symm; omega)).trans b0
    have hh0 : At 59 u3 q #[.slice va n vc, .func (.func 39) #[] #[]] := (hgrow2.block _ hhd.lt (fun e => by have := hvo _ e.symm; omega)).trans hhd
    have hm : MvP q (Value.slice va n vc).ownBlock w u3 := (MvP.of_below bW).trans ⟨hgrow2.os, hgrow2.tape, hgrow2.output, hgrow2.size, fun k hk _ h2 => hgrow2.block k hk (fun e => h2 e.symm)⟩
    have hat : some g = (Value.slice va n vc).ownBlock ∨ ∃ k, some g = some k ∧ w.heap.size ≤ k := hat2.imp id fun e => ⟨_, e, by omega⟩
    have hus := hgrow2.size
    clear hown hhd b0 hne2 hat2 bW hgrow2
    have b0 := hb0
    have hhd := hh0
    clear hb0 hh0
    clear hHeld
    refine hK'.out _ _ (b0) (fun hHeld => ?_)
    clear hK' KK
    try simp only [List.setIfInBounds_toArray, List.set_cons_zero, List.set_cons_succ]
    refine wpAnyH_take (i := 8) (v := .pointer (some ⟨q, 0, none⟩)) rfl (by kernel_rfl) (by kernel_rfl) (by kernel_rfl) (fun _ _ _ h => h) (Or.inl ⟨by kernel_rfl, ?_⟩) hHeld ?_
    · intro w' hSw; go_simp
    try simp only [Act.put, List.setIfInBounds_toArray, List.set_cons_zero, List.set_cons_succ, List.getElem_toArray, List.getElem_cons_succ, List.getElem_cons_zero]
    refine wpAnyH_take (i := 9) (v := .pointer (some ⟨q, 0, none⟩)) rfl (by kernel_rfl) (by kernel_rfl) (by kernel_rfl) (fun _ _ _ h => h) (Or.inl ⟨by kernel_rfl, ?_⟩) hHeld ?_
    · intro w' hSw; go_simp
    try simp only [Act.put, List.setIfInBounds_toArray, List.set_cons_zero, List.set_cons_succ, List.getElem_toArray, List.getElem_cons_succ, List.getElem_cons_zero]
    refine wpAnyH_ready (rs := [10]) (by kernel_rfl) (by simp) ?_
    refine AllReadyH.cons rfl (fun KK hK' => ?_) AllReadyH.nil
    obtain ⟨y0, y1, f0, f1⟩ := hhd.open2
    go_simp
    obtain ⟨u4, hU, hh9, ho9, hm9, hb9⟩ : ∃ U, u3.setCell ⟨q, 0, none⟩ (.slice (some ⟨g, 0, none⟩) (n + 1) c) = U ∧ At 59 U q #[.slice (some ⟨g, 0, none⟩) (n + 1) c, .func (.func 39) #[] #[]] ∧ U.ownsRow B 56 2 (.slice (some ⟨g, 0, none⟩) (n + 1) c) (n + 1) (hC pE (upd f n x) (n + 1)) ∧ MvP q (Value.slice va n vc).ownBlock w U ∧ At 56 U w.heap.size #[.slice (some ⟨(x).g, 0, none⟩) (x).l.length (x).c, .int .u64 (x).s] := ⟨_, rfl, by simpa using hhd.set 0 (.slice (some ⟨g, 0, none⟩) (n + 1) c), own_setO (by rw [hC, upd_at, ← hC_congr (f := f) (fun i hi => (upd_o f x (by omega)).symm)]; exact hown2) (fun e => by have := (own_ge hown2 e).1; omega) _, hm.set _, b0.setOther (by omega) _⟩
    rw [hU]
    clear hU hhd hm hown2 b0 y0 y1 f0 f1
    have b0 := hb9
    clear hb9
    clear hHeld
    refine hK'.out _ _ (b0) (fun hHeld => ?_)
    clear hK' KK
    try simp only [List.setIfInBounds_toArray, List.set_cons_zero, List.set_cons_succ]
    refine wpAnyH_done (by kernel_rfl) ?_ _
    clear hHeld
    have HV : HvP u4 B q (.slice (some ⟨g, 0, none⟩) (n + 1) c) (n + 1) (upd f n x) := ⟨ho9, hh9, hqB, ok_mvO hok hhd0 hho hm9.block⟩
    clear ho9 hh9 b0
    obtain ⟨U, hU⟩ : ∃ U, u4 = U := ⟨_, rfl⟩
    rw [hU] at HV hm9 ⊢
    clear hU
    have U0 := up_put hH x
    go_wp2_with fail
    go_loopw [4] (fun s wr => ∃ (a : Nat) (f' : Nat → Pl), a < n + 1 ∧ s = .int .i64 (a : Int) ∧ HvP wr B q (.slice (some ⟨g, 0, none⟩) (n + 1) c) (n + 1) f' ∧ Up qlt (n + 1) f' a ∧ Rg (n + 1) (upd f n x) f' ∧ MvP q (some g) U wr) (fun s _ => (intOf s).toNat)
    case atStart => exact ⟨n, _, by omega, rfl, HV, U0, Rg.refl _ _, MvP.of_below (Below.refl _ _)⟩
    case round =>
      clear HV U0
      obtain ⟨a, f', ha, rfl, HV, hU, hR, hM⟩ := hrel
      by_cases h0 : a = 0
      · have hF : PutPP w B q n (.slice va n vc) f x wr := ⟨_, f', HV, hU.done (.inl h0), hR, hm9.join hM hat, hat⟩
        subst h0
        clear HV hU hR hM hm9 hat
        go_wp2
        exact ⟨rfl, .tuple #[], by simp [results, Try.results41, go_sem], rfl, hF⟩
      · obtain ⟨p, hp⟩ : ∃ p, (a - 1) / 2 = p := ⟨_, rfl⟩
        have hpa : p < a := by omega
        have h0' : (0 : Int) < (a : Int) := by omega
        have e1 : ((a : Int) - 1).tdiv 2 = (p : Int) := by rw [Int.tdiv_eq_ediv_of_nonneg (by omega)]; omega
        have e2 : ((a : Int) - 1) / 2 = (p : Int) := by omega
        have ha' : (a : Int) ≤ 100000 := by omega
        have HP : Hid ((a - 1) / 2 = p) := hp
        clear hp
        go_wp2_with fail
        refine (swappedP_any HV ha (show p < n + 1 by omega) (by omega)).mono ?_
        rintro e w5 ⟨⟨hl, rfl, HV'⟩ | ⟨hl, rfl, HV'⟩, hM'⟩
        · have hF : PutPP w B q n (.slice va n vc) f x w5 := ⟨_, f', HV', hU.done (.inr (by rw [HP.out]; exact hl)), hR, hm9.join (hM.trans hM') hat, hat⟩
          clear HV HV' hU hR hM hM' hm9 hat
          go_wp2
          exact ⟨rfl, .tuple #[], by simp [results, Try.results41, go_sem], rfl, hF⟩
        · have hU' := hU.step qlt_swo ha (by omega) (by rw [HP.out]; exact hl)
          rw [HP.out] at hU'
          have hR' := hR.trans (rg_sw f' ha (show p < n + 1 by omega))
          replace hM := hM.trans hM'
          have HH : Hid _ := hU'
          clear HV hU hU' hR hM' hl
          go_wp2
          exact ⟨⟨p, _, by omega, rfl, HV', HH.out, hR', hM⟩, by simp [intOf]; omega⟩
  · go_simp
    obtain ⟨u1, hV9, A9, bb, -⟩ := boxed u0 56 #[.slice (some ⟨(x).g, 0, none⟩) (x).l.length (x).c, .int .u64 (x).s]
    rw [hV9]
    clear hV9
    replace b0 := b0.below bb
    replace hown := own_bel hown bb
    replace hhd := hhd.below bb
    replace bW := bW.trans (bb.mono bW.size)
    have hg9 : w.heap.size ≤ u0.heap.size := by omega
    have hu9 := bb.size
    clear bb
    clear hHeld
    refine hK'.out _ _ (b0) (fun hHeld => ?_)
    clear hK' KK
    try simp only [List.setIfInBounds_toArray, List.set_cons_zero, List.set_cons_succ]
    refine wpAnyH_ready (rs := [4]) (by kernel_rfl) (by simp) ?_
    refine AllReadyH.cons rfl (fun KK hK' => ?_) AllReadyH.nil
    obtain ⟨y0, y1, -⟩ := hhd.open2
    go_simp
    clear y0 y1
    clear hHeld
    refine hK'.out _ _ (b0) (fun hHeld => ?_)
    clear hK' KK
    try simp only [List.setIfInBounds_toArray, List.set_cons_zero, List.set_cons_succ]
    refine wpAnyH_ready (rs := [7]) (by kernel_rfl) (by simp) ?_
    refine AllReadyH.cons rfl (fun KK hK' => ?_) AllReadyH.nil
    refine step_append_at _ (by rfl) _ _ _ (by rfl) B 56 i0 _ 2 32 Try.underlying57 hi0 hz0 hz1 hz2 rfl (by omega) (.slice va n vc) n (hC pE f n) (by rfl) hown ⟨u0.heap.size, 0, none⟩ 1 1 (pE x) (by rfl) (by rfl) (newsP A9) (pE_one x) (by unfold maxLen; omega) (by omega) (by omega) ?_
    intro v2 u3 hown2 hgrow2 hne2 hat2
    obtain ⟨g, c, rfl⟩ : ∃ g c, v2 = .slice (some ⟨g, 0, none⟩) (n + 1) c := by rcases hown2.2 with ⟨_, h2⟩ | ⟨g, c, cur, e, _⟩; omega; exact ⟨g, c, e⟩
    clear A9
    have hb0 : At 56 u3 w.heap.size #[.slice (some ⟨(x).g, 0, none⟩) (x).l.length (x).c, .int .u64 (x).s] := (hgrow2.block _ b0.lt (fun e => by have := hvo _ e.symm; omega)).trans b0
    have hh0 : At 59 u3 q #[.slice va n vc, .func (.func 39) #[] #[]] := (hgrow2.block _ hhd.lt (fun e => by have := hvo _ e.symm; omega)).trans hhd
    have hm : MvP q (Value.slice va n vc).ownBlock w u3 := (MvP.of_below bW).trans ⟨hgrow2.os, hgrow2.tape, hgrow2.output, hgrow2.size, fun k hk _ h2 => hgrow2.block k hk (fun e => h2 e.symm)⟩
    have hat : some g = (Value.slice va n vc).ownBlock ∨ ∃ k, some g = some k ∧ w.heap.size ≤ k := hat2.imp id fun e => ⟨_, e, by omega⟩
    have hus := hgrow2.size
    clear hown hhd b0 hne2 hat2 bW hgrow2
    have b0 := hb0
    have hhd := hh0
    clear hb0 hh0
    clear hHeld
    refine hK'.out _ _ (b0) (fun hHeld => ?_)
    clear hK' KK
    try simp only [List.setIfInBounds_toArray, List.set_cons_zero, List.set_cons_succ]
    refine wpAnyH_take (i := 8) (v := .pointer (some ⟨q, 0, none⟩)) rfl (by kernel_rfl) (by kernel_rfl) (by kernel_rfl) (fun _ _ _ h => h) (Or.inl ⟨by kernel_rfl, ?_⟩) hHeld ?_
    · intro w' hSw; go_simp
    try simp only [Act.put, List.setIfInBounds_toArray, List.set_cons_zero, List.set_cons_succ, List.getElem_toArray, List.getElem_cons_succ, List.getElem_cons_zero]
    refine wpAnyH_take (i := 9) (v := .pointer (some ⟨q, 0, none⟩)) rfl (by kernel_rfl) (by kernel_rfl) (by kernel_rfl) (fun _ _ _ h => h) (Or.inl ⟨by kernel_rfl, ?_⟩) hHeld ?_
    · intro w' hSw; go_simp
    try simp only [Act.put, List.setIfInBounds_toArray, List.set_cons_zero, List.set_cons_succ, List.getElem_toArray, List.getElem_cons_succ, List.getElem_cons_zero]
    refine wpAnyH_ready (rs := [10]) (by kernel_rfl) (by simp) ?_
    refine AllReadyH.cons rfl (fun KK hK' => ?_) AllReadyH.nil
    obtain ⟨y0, y1, f0, f1⟩ := hhd.open2
    go_simp
    obtain ⟨u4, hU, hh9, ho9, hm9, hb9⟩ : ∃ U, u3.setCell ⟨q, 0, none⟩ (.slice (some ⟨g, 0, none⟩) (n + 1) c) = U ∧ At 59 U q #[.slice (some ⟨g, 0, none⟩) (n + 1) c, .func (.func 39) #[] #[]] ∧ U.ownsRow B 56 2 (.slice (some ⟨g, 0, none⟩) (n + 1) c) (n + 1) (hC pE (upd f n x) (n + 1)) ∧ MvP q (Value.slice va n vc).ownBlock w U ∧ At 56 U w.heap.size #[.slice (some ⟨(x).g, 0, none⟩) (x).l.length (x).c, .int .u64 (x).s] := ⟨_, rfl, by simpa using hhd.set 0 (.slice (some ⟨g, 0, none⟩) (n + 1) c), own_setO (by rw [hC, upd_at, ← hC_congr (f := f) (fun i hi => (upd_o f x (by omega)).symm)]; exact hown2) (fun e => by have := (own_ge hown2 e).1; omega) _, hm.set _, b0.setOther (by omega) _⟩
    rw [hU]
    clear hU hhd hm hown2 b0 y0 y1 f0 f1
    have b0 := hb9
    clear hb9
    clear hHeld
    refine hK'.out _ _ (b0) (fun hHeld => ?_)
    clear hK' KK
    try simp only [List.setIfInBounds_toArray, List.set_cons_zero, List.set_cons_succ]
    refine wpAnyH_done (by kernel_rfl) ?_ _
    clear hHeld
    have HV : HvP u4 B q (.slice (some ⟨g, 0, none⟩) (n + 1) c) (n + 1) (upd f n x) := ⟨ho9, hh9, hqB, ok_mvO hok hhd0 hho hm9.block⟩
    clear ho9 hh9 b0
    obtain ⟨U, hU⟩ : ∃ U, u4 = U := ⟨_, rfl⟩
    rw [hU] at HV hm9 ⊢
    clear hU
    have U0 := up_put hH x
    go_wp2_with fail
    go_loopw [4] (fun s wr => ∃ (a : Nat) (f' : Nat → Pl), a < n + 1 ∧ s = .int .i64 (a : Int) ∧ HvP wr B q (.slice (some ⟨g, 0, none⟩) (n + 1) c) (n + 1) f' ∧ Up qlt (n + 1) f' a ∧ Rg (n + 1) (upd f n x) f' ∧ MvP q (some g) U wr) (fun s _ => (intOf s).toNat)
    case atStart => exact ⟨n, _, by omega, rfl, HV, U0, Rg.refl _ _, MvP.of_below (Below.refl _ _)⟩
    case round =>
      clear HV U0
      obtain ⟨a, f', ha, rfl, HV, hU, hR, hM⟩ := hrel
      by_cases h0 : a = 0
      · have hF : PutPP w B q n (.slice va n vc) f x wr := ⟨_, f', HV, hU.done (.inl h0), hR, hm9.join hM hat, hat⟩
        subst h0
        clear HV hU hR hM hm9 hat
        go_wp2
        exact ⟨rfl, .tuple #[], by simp [results, Try.results41, go_sem], rfl, hF⟩
      · obtain ⟨p, hp⟩ : ∃ p, (a - 1) / 2 = p := ⟨_, rfl⟩
        have hpa : p < a := by omega
        have h0' : (0 : Int) < (a : Int) := by omega
        have e1 : ((a : Int) - 1).tdiv 2 = (p : Int) := by rw [Int.tdiv_eq_ediv_of_nonneg (by omega)]; omega
        have e2 : ((a : Int) - 1) / 2 = (p : Int) := by omega
        have ha' : (a : Int) ≤ 100000 := by omega
        have HP : Hid ((a - 1) / 2 = p) := hp
        clear hp
        go_wp2_with fail
        refine (swappedP_any HV ha (show p < n + 1 by omega) (by omega)).mono ?_
        rintro e w5 ⟨⟨hl, rfl, HV'⟩ | ⟨hl, rfl, HV'⟩, hM'⟩
        · have hF : PutPP w B q n (.slice va n vc) f x w5 := ⟨_, f', HV', hU.done (.inr (by rw [HP.out]; exact hl)), hR, hm9.join (hM.trans hM') hat, hat⟩
          clear HV HV' hU hR hM hM' hm9 hat
          go_wp2
          exact ⟨rfl, .tuple #[], by simp [results, Try.results41, go_sem], rfl, hF⟩
        · have hU' := hU.step qlt_swo ha (by omega) (by rw [HP.out]; exact hl)
          rw [HP.out] at hU'
          have hR' := hR.trans (rg_sw f' ha (show p < n + 1 by omega))
          replace hM := hM.trans hM'
          have HH : Hid _ := hU'
          clear HV hU hU' hR hM' hl
          go_wp2
          exact ⟨⟨p, _, by omega, rfl, HV', HH.out, hR', hM⟩, by simp [intOf]; omega⟩
end Go.Proofs.Ytcpeaenophaphaa
