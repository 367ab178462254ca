/-
  The law FnSqueezed: walked.
-/
import Derived.Test.YtgklbfoeiaknaaaZj
namespace Go.Proofs.Ytgklbfoeiaknaaa
open Go.RowKit

theorem gr_in (m : Nat) (hm : m ≤ 131070) : ∀ x ∈ gr 2 m, 0 ≤ x ∧ x ≤ 255 := by
  intro x hx
  unfold gr at hx
  split at hx
  · simp at hx; omega
  · rcases List.mem_cons.1 hx with rfl | hx
    · omega
    · unfold gr at hx
      split at hx
      · simp at hx; omega
      · rcases List.mem_cons.1 hx with rfl | hx
        · omega
        · simp [gr] at hx; omega
theorem la_in {f : Nat → Int} {M : Nat} (hf : ∀ i, i < M → 0 ≤ f i ∧ f i ≤ 65535) (k : Nat) (hk : k ≤ M) : 0 ≤ la f k ∧ la f k ≤ 65535 := by
  cases k with
  | zero => simp [la]
  | succ k => have := hf k (by omega); simpa [la] using this
theorem sqL_in {f : Nat → Int} {M : Nat} (hf : ∀ i, i < M → 0 ≤ f i ∧ f i ≤ 65535) : ∀ k, k ≤ M → ∀ x ∈ sqL f k, 0 ≤ x ∧ x ≤ 255
  | 0, _, x, hx => by simp [sqL] at hx
  | k + 1, hk, x, hx => by
    have h1 := hf k (by omega)
    have h2 := la_in hf k (by omega)
    rcases List.mem_append.1 (show x ∈ sqL f k ++ gr 2 (fo (f k - la f k)) from hx) with h | h
    · exact sqL_in hf k (by omega) x h
    · exact gr_in _ (fo_le (by omega)) x h
theorem getD_in {L : List Int} (h : ∀ x ∈ L, 0 ≤ x ∧ x ≤ 255) {i : Nat} (hi : i < L.length) : 0 ≤ L.getD i 0 ∧ L.getD i 0 ≤ 255 := by
  have e : L.getD i 0 = L[i] := by simp [hi]
  rw [e]
  exact h _ (List.getElem_mem hi)
theorem newsB1 {w : World} {t : TypeId} {g : Nat} {x : Int} (h : At t w g #[.int .u8 x]) : ∀ j u, (bCl [x])[j]? = some u → w.cell? ((⟨g, 0, none⟩ : Addr).add j) = some u := by
  intro j u hu
  rcases j with _ | j
  · simp [bCl] at hu; subst hu; exact h.cell 0 rfl
  · simp [bCl] at hu
set_option maxRecDepth 100000 in
set_option maxHeartbeats 8000000 in
theorem squeezed_walk {w : World} {a : Option Addr} {len cap : Nat} (hr : Row w w.heap.size a len) :
    Calls Try.prog 3 #[.slice a len cap] w fun e w' => e = .returned (.bool true) ∧ Below w.heap.size w w' := by
  obtain ⟨i0, hi0, hz0, hz1, hz2⟩ := info_parts infoU8
  go_enter Try.func3, Try.ntmps3
  go_wp2_with fail
  refine (big_any a len cap _ hr.1).mono ?_
  rintro e w0 ⟨rfl, rfl⟩
  by_cases hbig : 1048576 < len
  · rw [decide_eq_true hbig]
    go_wp2
    go_ret
    exact ⟨rfl, Below.refl _ _⟩
  rw [decide_eq_false hbig]
  go_wp2_with fail
  refine (drawSq_any hr).mono ?_
  rintro e w2 ⟨W, H, v, P, rfl, hO, hP, bW⟩
  obtain ⟨av, cv9, rfl⟩ : ∃ a c, v = .slice a P.length c := by
    rcases hO.2 with ⟨h1, h2⟩ | ⟨g, c, cur, e, _⟩
    · exact ⟨none, 0, by rw [h1, h2]⟩
    · exact ⟨some ⟨g, 0, none⟩, c, e⟩
  have hs := srcOwn hO
  clear hO hr hbig
  obtain ⟨V3, hV3, b3, bb, -⟩ := boxed w2 26 #[.int .i64 W, .int .i64 H, .slice av P.length cv9]
  replace hs := hs.below bb
  replace bW := bW.trans (bb.mono bW.size)
  clear bb
  obtain ⟨q, hq⟩ : ∃ q, w2.heap.size = q := ⟨_, rfl⟩
  rw [hq] at b3
  obtain ⟨d0, d1, d2, -⟩ := b3.open3
  have hlt3 := b3.lt
  go_wp2_with fail
  refine (specFrameOk_any W H hs (by omega)).mono ?_
  rintro e w4 ⟨rfl, bb⟩
  replace b3 := b3.below bb
  replace hs := hs.below bb
  replace bW := bW.trans (bb.mono bW.size)
  clear bb hV3 hq d0 d1 d2 hlt3
  rcases hfr : frB W H P.length (fun i => P.getD i 0) with _ | _
  · have hno := frB_not hfr
    have hz := sqO_no hno
    obtain ⟨d0, d1, d2, -⟩ := b3.open3
    clear hfr hno
    go_wp2_with fail
    refine (implSqC_any W H hs (by omega)).mono ?_
    rintro e w5 ⟨gq, cur, rfl, hgq, hcu, hsz, hcell, bb⟩
    rw [hz]
    replace bW := bW.trans (bb.mono bW.size)
    clear hsz hcell bb hz
    go_wp2
    go_ret
    exact ⟨rfl, bW⟩
  · have hok := frB_of hfr
    have HQ0 := sqO_yes hok
    obtain ⟨hW, hH, hl, hf⟩ := hok
    have p1 := mul_in (a := W) (b := H) (x := 64) (y := 64) (by omega) (by omega)
    have hl0 : 0 < P.length := by
      have := Int.mul_pos (show (0 : Int) < W by omega) (show (0 : Int) < H by omega)
      omega
    have hl4 : P.length ≤ 4096 := by omega
    obtain ⟨bI, oI, rfl, hbI, hI⟩ : ∃ b o, av = some ⟨b, o, none⟩ ∧ b < w4.heap.size ∧ Ints w4 b o P.length (fun i => P.getD i 0) := by
      rcases hs with h0 | ⟨b, o, rfl, h1, h2⟩
      · omega
      · exact ⟨b, o, rfl, h1, h2⟩
    obtain ⟨f, hff⟩ : ∃ f : Nat → Int, (fun i => P.getD i 0) = f := ⟨_, rfl⟩
    rw [hff] at hs hI HQ0
    have hf' : ∀ i, i < P.length → 0 ≤ f i ∧ f i ≤ 65535 := fun i hi => by rw [← hff]; exact hf i hi
    obtain ⟨S, hS⟩ : ∃ S, sqL f P.length = S := ⟨_, rfl⟩
    have hSl : S.length ≤ 3 * P.length := by rw [← hS]; exact sqL_len f P.length
    have hSin : ∀ x ∈ S, 0 ≤ x ∧ x ≤ 255 := fun x hx => sqL_in hf' P.length (Nat.le_refl _) x (by rw [hS]; exact hx)
    obtain ⟨n, hn⟩ : ∃ n, 2 + S.length = n := ⟨_, rfl⟩
    have HQ : Hid (sqO W H P.length f = W :: H :: S) := by show _ = _; rw [HQ0, hS]
    have HLn : Hid ((W :: H :: S).length = n) := by show _ = _; simp; omega
    have HM : Hid ((W * H).toNat = P.length) := by show _ = _; omega
    have HIN : Hid (∀ x ∈ W :: H :: S, 0 ≤ x ∧ x ≤ 255) := by
      intro x hx
      rcases List.mem_cons.1 hx with rfl | hx
      · omega
      · rcases List.mem_cons.1 hx with rfl | hx
        · omega
        · exact hSin x hx
    have HUB : Hid (UnT (fun i => (W :: H :: S).getD i 0) n W H P.length (fun i => ((List.range P.length).map f).getD i 0) (-1)) := un_back (F := fun i => (W :: H :: S).getD i 0) HM.out ⟨by omega, hW, hH⟩ hf' (by rw [hS]; intro i hi; simp [Nat.add_comm 2 i]) (by rw [hS]; omega)
    have HUM : Hid (UnT (fun i => ((W :: H :: S) ++ [0]).getD i 0) (n + 1) 0 0 0 (fun _ => 0) (n : Int)) := by
      have := un_more (n := n + 1) (F := fun i => ((W :: H :: S) ++ [0]).getD i 0) HM.out ⟨by omega, hW, hH⟩ hf' (by
        rw [hS]
        intro i hi
        simp [Nat.add_comm 2 i, hi, List.getElem?_append_left hi]) (by rw [hS]; omega)
      rw [hS, hn] at this
      exact this
    have HFF : Hid ((fun i => P.getD i 0) = f) := hff
    clear hfr HQ0 hff hS hf hf' hl p1 hSin
    have hn1 : n ≤ 20000 := by omega
    have hn2 : 2 ≤ n := by omega
    clear hn
    obtain ⟨L, hL⟩ : ∃ L, W :: H :: S = L := ⟨_, rfl⟩
    rw [hL] at HQ HLn HIN HUB HUM
    clear hL hSl
    go_wp2_with fail
    obtain ⟨u0, hu0, bb⟩ : ∃ uu, w4.drew = uu ∧ Below w4.heap.size w4 uu := ⟨_, rfl, (Below.refl _ _).drew⟩
    replace b3 := b3.below bb
    replace hs := hs.below bb
    replace bW := bW.trans (bb.mono bW.size)
    replace hI := hI.below hbI bb
    replace hbI := Nat.lt_of_lt_of_le hbI bb.size
    clear bb
    refine wp_region_held_drew (S := fun w' => At 26 w' q #[.int .i64 W, .int .i64 H, .slice (some ⟨bI, oI, none⟩) P.length cv9]) (by kernel_rfl) (by rw [hu0]; exact b3) (fun hHeld => ?_)
    rw [hu0] at hHeld ⊢
    clear hu0
    change wpAnyH _ _ _ _ _ 10 #[false, false, false, false, false, false, false, false, false, false] _ _
    refine wpAnyH_take (i := 0) (v := .pointer (some ⟨q, 0, none⟩)) rfl (by kernel_rfl) (by kernel_rfl) (by kernel_rfl) (fun _ _ _ h => h) (Or.inl ⟨by kernel_rfl, ?_⟩) hHeld ?_
    · intro w' hSw; go_simp
    try simp only [Act.put, List.setIfInBounds_toArray, List.set_cons_zero, List.set_cons_succ, List.getElem_toArray, List.getElem_cons_zero]
    refine wpAnyH_take (i := 1) (v := .int .i64 (W)) rfl (by kernel_rfl) (by kernel_rfl) (by kernel_rfl) (fun _ _ _ h => h) (Or.inl ⟨by kernel_rfl, ?_⟩) hHeld ?_
    · intro w' hSw; obtain ⟨z0, z1, z2, -⟩ := hSw.open3; go_simp
    try simp only [Act.put, List.setIfInBounds_toArray, List.set_cons_zero, List.set_cons_succ, List.getElem_toArray, List.getElem_cons_succ, List.getElem_cons_zero]
    refine wpAnyH_take (i := 2) (v := .pointer (some ⟨q, 1, none⟩)) rfl (by kernel_rfl) (by kernel_rfl) (by kernel_rfl) (fun _ _ _ h => h) (Or.inl ⟨by kernel_rfl, ?_⟩) hHeld ?_
    · intro w' hSw; go_simp
    try simp only [Act.put, List.setIfInBounds_toArray, List.set_cons_zero, List.set_cons_succ, List.getElem_toArray, List.getElem_cons_succ, List.getElem_cons_zero]
    refine wpAnyH_take (i := 3) (v := .int .i64 (H)) rfl (by kernel_rfl) (by kernel_rfl) (by kernel_rfl) (fun _ _ _ h => h) (Or.inl ⟨by kernel_rfl, ?_⟩) hHeld ?_
    · intro w' hSw; obtain ⟨z0, z1, z2, -⟩ := hSw.open3; go_simp
    try simp only [Act.put, List.setIfInBounds_toArray, List.set_cons_zero, List.set_cons_succ, List.getElem_toArray, List.getElem_cons_succ, List.getElem_cons_zero]
    refine wpAnyH_take (i := 4) (v := .pointer (some ⟨q, 2, none⟩)) rfl (by kernel_rfl) (by kernel_rfl) (by kernel_rfl) (fun _ _ _ h => h) (Or.inl ⟨by kernel_rfl, ?_⟩) hHeld ?_
    · intro w' hSw; go_simp
    try simp only [Act.put, List.setIfInBounds_toArray, List.set_cons_zero, List.set_cons_succ, List.getElem_toArray, List.getElem_cons_succ, List.getElem_cons_zero]
    refine wpAnyH_take (i := 5) (v := (.slice (some ⟨bI, oI, none⟩) P.length cv9)) rfl (by kernel_rfl) (by kernel_rfl) (by kernel_rfl) (fun _ _ _ h => h) (Or.inl ⟨by kernel_rfl, ?_⟩) hHeld ?_
    · intro w' hSw; obtain ⟨z0, z1, z2, -⟩ := hSw.open3; go_simp
    try simp only [Act.put, List.setIfInBounds_toArray, List.set_cons_zero, List.set_cons_succ, List.getElem_toArray, List.getElem_cons_succ, List.getElem_cons_zero]
    refine wpAnyH_ready (rs := [6]) (by kernel_rfl) (by simp) ?_
    refine AllReadyH.cons rfl (fun KK hK' => ?_) AllReadyH.nil
    go_simp
    refine (intsC_any hI hbI (by omega)).mono ?_
    rintro e u1 ⟨gp, cq, rfl, hgp, hcq, hM, bb⟩
    replace b3 := b3.below bb
    replace hs := hs.below bb
    replace bW := bW.trans (bb.mono bW.size)
    clear bb hI
    try go_wp2_with fail
    clear hHeld
    refine hK'.out _ _ (b3) (fun hHeld => ?_)
    clear hK' KK
    try simp only [List.setIfInBounds_toArray, List.set_cons_zero, List.set_cons_succ]
    refine wpAnyH_take (i := 7) (v := .agg #[.int .i64 (W), .int .i64 (H), .slice ((some ⟨gp, 0, none⟩)) P.length cq]) rfl (by kernel_rfl) (by kernel_rfl) (by kernel_rfl) (fun _ _ _ h => h) (Or.inl ⟨by kernel_rfl, ?_⟩) hHeld ?_
    · intro w' hSw; go_simp
    try simp only [Act.put, List.setIfInBounds_toArray, List.set_cons_zero, List.set_cons_succ, List.getElem_toArray, List.getElem_cons_succ, List.getElem_cons_zero]
    refine wpAnyH_ready (rs := [8]) (by kernel_rfl) (by simp) ?_
    refine AllReadyH.cons rfl (fun KK hK' => ?_) AllReadyH.nil
    go_simp
    refine (implSqC_any W H (srcMade hM) (by omega)).mono ?_
    rintro e u2 ⟨gq, cur, rfl, hgq, hcu, hsz, hcell, bb⟩
    replace b3 := b3.below bb
    replace hs := hs.below bb
    replace bW := bW.trans (bb.mono bW.size)
    clear bb hM
    rw [HQ.out] at hsz hcell ⊢
    rw [HLn.out] at hsz hcell ⊢
    try go_wp2_with fail
    clear hHeld
    refine hK'.out _ _ (b3) (fun hHeld => ?_)
    clear hK' KK
    try simp only [List.setIfInBounds_toArray, List.set_cons_zero, List.set_cons_succ]
    refine wpAnyH_take (i := 9) (v := .slice ((some ⟨gq, 0, none⟩)) n n) rfl (by kernel_rfl) (by kernel_rfl) (by kernel_rfl) (fun _ _ _ h => h) (Or.inl ⟨by kernel_rfl, ?_⟩) hHeld ?_
    · intro w' hSw; go_simp
    try simp only [Act.put, List.setIfInBounds_toArray, List.set_cons_zero, List.set_cons_succ, List.getElem_toArray, List.getElem_cons_succ, List.getElem_cons_zero]
    refine wpAnyH_done (by kernel_rfl) ?_ _
    clear hHeld
    have hn' : (n : Int) ≤ 20000 := by omega
    have hbs : ∀ w, (Instr.buildSlice 22 0 #[]).run Try.prog w = .ok (.slice (some ⟨w.heap.size, 0, none⟩) 0 0) (w.alloc (.cells #[] 5)) := fun _ => by kernel_rfl
    have HNW : Hid (∀ (w : World), At 5 w gq cur → ∀ j u, (bCl L)[j]? = some u → w.cell? ⟨gq, 0 + j, none⟩ = some u) := fun w hat j u hu => by
      have hj : j < n := by
        rw [← HLn.out, ← bCl_len]
        exact (List.getElem?_eq_some_iff.1 hu).1
      have h1 := hcell j hj
      have hjL : j < L.length := by rw [HLn.out]; exact hj
      have h2 : (bCl L)[j]? = some (.int .u8 (L.getD j 0)) := by simp [bCl, hjL]
      rw [h2] at hu
      cases hu
      rw [Nat.zero_add]
      exact hat.cell j h1
    have HL1 : Hid ((bCl L).length = n * 1) := by show _ = _; rw [bCl_len, HLn.out, Nat.mul_one]
    clear hcell hsz hbI hgp hcq hgq
    obtain ⟨V7, hV7, A7, BU, -⟩ := boxed u2 5 #[]
    obtain ⟨g7, hg7⟩ : ∃ g, u2.heap.size = g := ⟨_, rfl⟩
    have hg7b := A7.lt
    have o7 : V7.ownsRow u2.heap.size 5 1 (.slice (some ⟨u2.heap.size, 0, none⟩) 0 0) 0 [] := ⟨rfl, .inr ⟨_, 0, #[], rfl, Nat.le_refl _, A7, Nat.le_refl _, Nat.zero_le _, rfl, rfl⟩⟩
    rw [hg7] at o7 hg7b
    have hcu7 := hcu.below BU
    go_wp2_with (at_builtin; refine wpList_append_own_at _ rfl _ _ _ rfl g7 5 i0 _ 1 1 Try.underlying22 hi0 hz0 hz1 hz2 rfl (by omega) (.slice (some ⟨g7, 0, none⟩) 0 0) 0 [] rfl o7 ⟨gq, 0, none⟩ n n (bCl L) rfl HL1.out (fun j u hu => by have := HNW.out V7 hcu7 j u hu; rw [Nat.zero_add] at this; simpa [Addr.add_lit] using this) (bCl_one _) (by unfold maxLen; omega) (by omega) (by omega) ?_; intro v8 w8 hown8 hgrow8 hne8 hat8; refine Hid.out (?_ : Hid _))
    obtain ⟨g8, c8, rfl⟩ : ∃ g c, v8 = .slice (some ⟨g, 0, none⟩) n c := by
      rcases hown8.2 with ⟨e1, -⟩ | ⟨gg, cd, cur, e1, -⟩
      · exact absurd (hne8.1 e1).1 (fun h => by cases h)
      · exact ⟨gg, cd, by rw [e1, Nat.zero_add]⟩
    rw [Nat.zero_add, List.nil_append] at hown8
    obtain ⟨hc8, hm8, hs8⟩ := ownB_src hown8
    have BU8 : Below u2.heap.size u2 w8 := Below.grown BU hgrow8 (by rw [hg7]; omega) (fun j hj => by cases hj; rw [hg7]; exact Nat.le_refl _)
    have hF8 : ∀ i, i < n → 0 ≤ L.getD i 0 ∧ L.getD i 0 ≤ 255 := fun i hi => getD_in HIN.out (by rw [HLn.out]; exact hi)
    have UN8 := implUn_any hs8 (by omega) hc8 hm8 hF8
    have HU8 : Hid (Calls Try.prog 14 #[.slice (some ⟨g8, 0, none⟩) n c8] w8 (UnP (fun i => L.getD i 0) n w8)) := UN8
    clear hown8 hgrow8 hne8 hat8 hc8 hm8 hs8 UN8 hF8 o7 hg7b hcu7 A7 BU hV7 hg7
    refine (?_ : wpList _ _ _ _ _ _)
    go_wp2_with fail
    refine HU8.out.mono ?_
    rintro e w9 ⟨m9, W9, H9, l9, f9, r9, rfl, hU9, ⟨v9, rfl, A9⟩, bb⟩
    obtain ⟨rfl, rfl, rfl, rfl, rfl⟩ := hU9.same HUB.out
    obtain ⟨a9, c9, rfl, s9⟩ := A9.src
    have BU9 := BU8.trans (bb.mono BU8.size)
    clear HU8 hU9 A9 bb BU8
    obtain ⟨V10, hV10, b10, bb, -⟩ := boxed w9 26 #[.int .i64 W, .int .i64 H, .slice a9 P.length c9]
    replace s9 := s9.below bb
    have BU10 := BU9.trans (bb.mono BU9.size)
    have b310 := b3.below BU10
    have hs10 := hs.below BU10
    obtain ⟨q5, hq5⟩ : ∃ q, w9.heap.size = q := ⟨_, rfl⟩
    rw [hq5] at b10
    obtain ⟨d0, d1, d2, -⟩ := b310.open3
    obtain ⟨e0, e1, e2, -⟩ := b10.open3
    have lt10 := b10.lt
    have lt310 := b310.lt
    have n1 : ((-1 : Int) != -1) = false := rfl
    have n2 : (W != W) = false := bne_self_eq_false _
    have n3 : (H != H) = false := bne_self_eq_false _
    clear bb BU9
    go_wp2_with fail
    refine (sameSrc_true s9 hs10 (fun i hi => back_at f hi) (by omega)).mono ?_
    rintro e w11 ⟨rfl, bb⟩
    have BU11 := BU10.trans (bb.mono BU10.size)
    clear bb d0 d1 d2 e0 e1 e2 lt10 lt310 b10 b310 hs10 s9 hV10 BU10 hq5 n1 n2 n3
    have hb1 : ∀ w, (Instr.buildSlice 22 1 #[(0, .int .u8 0)]).run Try.prog w = .ok (.slice (some ⟨w.heap.size, 0, none⟩) 1 1) (w.alloc (.cells #[.int .u8 0] 5)) := fun _ => by kernel_rfl
    obtain ⟨V12, hV12, A12, bb, -⟩ := boxed w11 5 #[.int .u8 0]
    have BU12 := BU11.trans (bb.mono BU11.size)
    have hcu12 := hcu.below BU12
    obtain ⟨g12, hg12⟩ : ∃ g, w11.heap.size = g := ⟨_, rfl⟩
    rw [hg12] at A12
    clear bb BU11
    go_wp2_with (at_builtin; refine wpList_append_arg _ rfl _ _ _ rfl 5 i0 _ 1 1 Try.underlying22 hi0 hz0 hz1 hz2 rfl (by omega) gq 0 n n (bCl L) rfl HL1.out (HNW.out _ hcu12) ⟨g12, 0, none⟩ 1 1 (bCl [0]) rfl rfl (newsB1 A12) (bCl_one _) (fun h => absurd h (by omega)) (by unfold maxLen; omega) (by omega) (fun h => absurd h (by omega)) ?_; intro _ v13 w13 hown13 hgrow13; refine Hid.out (?_ : Hid _))
    obtain ⟨g13, c13, rfl⟩ : ∃ g c, v13 = .slice (some ⟨g, 0, none⟩) (n + 1) c := by
      rcases hown13.2 with ⟨e1, e2⟩ | ⟨gg, cd, cur, e1, -⟩
      · omega
      · exact ⟨gg, cd, e1⟩
    rw [bCl_app] at hown13
    obtain ⟨hc13, hm13, hs13⟩ := ownB_src hown13
    have BU13 : Below u2.heap.size u2 w13 := Below.grown BU12 hgrow13 BU12.size (fun j hj => by cases hj)
    have hF13 : ∀ i, i < n + 1 → 0 ≤ (L ++ [0]).getD i 0 ∧ (L ++ [0]).getD i 0 ≤ 255 := fun i hi => getD_in (L := L ++ [0]) (fun x hx => by
      rcases List.mem_append.1 hx with h | h
      · exact HIN.out x h
      · simp at h; omega) (by simp; have := HLn.out; omega)
    have UN13 := implUn_any hs13 (by omega) hc13 hm13 hF13
    have HU13 : Hid (Calls Try.prog 14 #[.slice (some ⟨g13, 0, none⟩) (n + 1) c13] w13 (UnP (fun i => (L ++ [0]).getD i 0) (n + 1) w13)) := UN13
    clear hown13 hgrow13 hc13 hm13 hs13 UN13 hF13 hcu12 A12 hV12 hg12 BU12
    refine (?_ : wpList _ _ _ _ _ _)
    go_wp2_with fail
    refine HU13.out.mono ?_
    rintro e w14 ⟨m14, W14, H14, l14, f14, r14, rfl, hU14, ⟨v14, rfl, A14⟩, bb⟩
    obtain ⟨rfl, rfl, rfl, rfl, rfl⟩ := hU14.same HUM.out
    have BU14 := BU13.trans (bb.mono BU13.size)
    clear HU13 hU14 bb
    have n4 : ((n : Int) == (n : Int)) = true := beq_self_eq_true _
    obtain ⟨a14, c14, rfl, -⟩ := A14.src
    go_wp2
    go_ret
    exact ⟨rfl, bW.trans (BU14.mono bW.size)⟩
end Go.Proofs.Ytgklbfoeiaknaaa
