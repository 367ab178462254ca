/-
  Signed by the program: walked.
-/
import Derived.Test.YtohboecnhneolaaSg1
import Derived.Test.YtohboecnhneolaaSg2
import Derived.Deep.CutRange
namespace Go.Proofs.Ytohboecnhneolaa
open Go.RowKit

theorem hid_of {p : Prop} (h : p) : Hid p := h
set_option maxRecDepth 100000 in
set_option maxHeartbeats 2000000 in
theorem opposite_any (x y z f : Int) (hx : rtA (x, y, z, f)) (w : World) :
    Calls Try.prog 13 #[cV x y z f] w fun e w' => e = .returned (cV ((-x) % 12) ((-y) % 12) ((-z) % 12) f) ∧ Below w.heap.size w w' := by
  obtain ⟨⟨x0, x1⟩, ⟨y0, y1⟩, ⟨z0, z1⟩, ⟨f0, f1⟩⟩ := hx
  simp only at x0 x1 y0 y1 z0 z1 f0 f1
  have hwx : IntKind.i64.wrap (-x) = -x := IntWalk.i64_in _ (by omega)
  have hwy : IntKind.i64.wrap (-y) = -y := IntWalk.i64_in _ (by omega)
  have hwz : IntKind.i64.wrap (-z) = -z := IntWalk.i64_in _ (by omega)
  obtain ⟨W2, hW2, A1, A2, bW, hsz⟩ := boxed2 w 30 30 #[.int .i64 x, .int .i64 y, .int .i64 z, .int .i64 f] #[.int .i64 0, .int .i64 0, .int .i64 0, .int .i64 0]
  obtain ⟨q1, hq1⟩ : ∃ q, w.heap.size = q := ⟨_, rfl⟩
  obtain ⟨q2, hq2'⟩ : ∃ q, w.heap.size + 1 = q := ⟨_, rfl⟩
  have hq2 : w.heap.size ≤ q2 := by omega
  have h12 : q1 ≠ q2 := by omega
  rw [hq1] at A1
  rw [hq2'] at A2
  have HQ1 := hid_of hq1
  have HQ2 := hid_of hq2'
  clear hsz hq1 hq2'
  go_enter Try.func13, Try.ntmps13
  go_wp2_with fail
  rw [HQ2.out, HQ1.out]
  clear hW2 HQ1 HQ2
  obtain ⟨u0, hu0, bb⟩ : ∃ uu, W2.drew = uu ∧ Below W2.heap.size W2 uu := ⟨_, rfl, (Below.refl _ _).drew⟩
  replace A1 := A1.below bb
  replace A2 := A2.below bb
  replace bW := bW.trans (bb.mono bW.size)
  clear bb
  refine wp_region_held_drew (S := fun w' => At 30 w' q1 #[.int .i64 x, .int .i64 y, .int .i64 z, .int .i64 f]) (by kernel_rfl) (by rw [hu0]; exact A1) (fun hHeld => ?_)
  rw [hu0] at hHeld ⊢
  clear hu0
  change wpAnyH _ _ _ _ _ 16 #[false, false, false, false, false, false, false, false, false, false, false, false, false, false, false, false] _ _
  refine wpAnyH_take (i := 0) (v := .pointer (some ⟨q1, 0, none⟩)) rfl (by kernel_rfl) (by kernel_rfl) (by kernel_rfl) (fun _ _ _ h => h) (Or.inl ⟨by kernel_rfl, ?_⟩) hHeld ?_
  · intro w' hSw; go_simp
  try simp only [Act.put, List.setIfInBounds_toArray, List.set_cons_zero, List.set_cons_succ, List.getElem_toArray, List.getElem_cons_zero]
  refine wpAnyH_take (i := 1) (v := .int .i64 (x)) rfl (by kernel_rfl) (by kernel_rfl) (by kernel_rfl) (fun _ _ _ h => h) (Or.inl ⟨by kernel_rfl, ?_⟩) hHeld ?_
  · intro w' hSw; obtain ⟨z0, z1, z2, z3, -⟩ := At.open4 hSw; go_simp
  try simp only [Act.put, List.setIfInBounds_toArray, List.set_cons_zero, List.set_cons_succ, List.getElem_toArray, List.getElem_cons_succ, List.getElem_cons_zero]
  refine wpAnyH_take (i := 2) (v := .int .i64 (-x)) rfl (by kernel_rfl) (by kernel_rfl) (by kernel_rfl) (fun _ _ _ h => h) (Or.inl ⟨by kernel_rfl, ?_⟩) hHeld ?_
  · intro w' hSw; go_simp
  try simp only [Act.put, List.setIfInBounds_toArray, List.set_cons_zero, List.set_cons_succ, List.getElem_toArray, List.getElem_cons_succ, List.getElem_cons_zero]
  refine wpAnyH_take (i := 4) (v := .pointer (some ⟨q1, 1, none⟩)) rfl (by kernel_rfl) (by kernel_rfl) (by kernel_rfl) (fun _ _ _ h => h) (Or.inl ⟨by kernel_rfl, ?_⟩) hHeld ?_
  · intro w' hSw; go_simp
  try simp only [Act.put, List.setIfInBounds_toArray, List.set_cons_zero, List.set_cons_succ, List.getElem_toArray, List.getElem_cons_succ, List.getElem_cons_zero]
  refine wpAnyH_take (i := 5) (v := .int .i64 (y)) rfl (by kernel_rfl) (by kernel_rfl) (by kernel_rfl) (fun _ _ _ h => h) (Or.inl ⟨by kernel_rfl, ?_⟩) hHeld ?_
  · intro w' hSw; obtain ⟨z0, z1, z2, z3, -⟩ := At.open4 hSw; go_simp
  try simp only [Act.put, List.setIfInBounds_toArray, List.set_cons_zero, List.set_cons_succ, List.getElem_toArray, List.getElem_cons_succ, List.getElem_cons_zero]
  refine wpAnyH_take (i := 6) (v := .int .i64 (-y)) rfl (by kernel_rfl) (by kernel_rfl) (by kernel_rfl) (fun _ _ _ h => h) (Or.inl ⟨by kernel_rfl, ?_⟩) hHeld ?_
  · intro w' hSw; go_simp
  try simp only [Act.put, List.setIfInBounds_toArray, List.set_cons_zero, List.set_cons_succ, List.getElem_toArray, List.getElem_cons_succ, List.getElem_cons_zero]
  refine wpAnyH_take (i := 8) (v := .pointer (some ⟨q1, 2, none⟩)) rfl (by kernel_rfl) (by kernel_rfl) (by kernel_rfl) (fun _ _ _ h => h) (Or.inl ⟨by kernel_rfl, ?_⟩) hHeld ?_
  · intro w' hSw; go_simp
  try simp only [Act.put, List.setIfInBounds_toArray, List.set_cons_zero, List.set_cons_succ, List.getElem_toArray, List.getElem_cons_succ, List.getElem_cons_zero]
  refine wpAnyH_take (i := 9) (v := .int .i64 (z)) rfl (by kernel_rfl) (by kernel_rfl) (by kernel_rfl) (fun _ _ _ h => h) (Or.inl ⟨by kernel_rfl, ?_⟩) hHeld ?_
  · intro w' hSw; obtain ⟨z0, z1, z2, z3, -⟩ := At.open4 hSw; go_simp
  try simp only [Act.put, List.setIfInBounds_toArray, List.set_cons_zero, List.set_cons_succ, List.getElem_toArray, List.getElem_cons_succ, List.getElem_cons_zero]
  refine wpAnyH_take (i := 10) (v := .int .i64 (-z)) rfl (by kernel_rfl) (by kernel_rfl) (by kernel_rfl) (fun _ _ _ h => h) (Or.inl ⟨by kernel_rfl, ?_⟩) hHeld ?_
  · intro w' hSw; go_simp
  try simp only [Act.put, List.setIfInBounds_toArray, List.set_cons_zero, List.set_cons_succ, List.getElem_toArray, List.getElem_cons_succ, List.getElem_cons_zero]
  refine wpAnyH_take (i := 12) (v := .pointer (some ⟨q1, 3, none⟩)) rfl (by kernel_rfl) (by kernel_rfl) (by kernel_rfl) (fun _ _ _ h => h) (Or.inl ⟨by kernel_rfl, ?_⟩) hHeld ?_
  · intro w' hSw; go_simp
  try simp only [Act.put, List.setIfInBounds_toArray, List.set_cons_zero, List.set_cons_succ, List.getElem_toArray, List.getElem_cons_succ, List.getElem_cons_zero]
  refine wpAnyH_take (i := 13) (v := .int .i64 (f)) rfl (by kernel_rfl) (by kernel_rfl) (by kernel_rfl) (fun _ _ _ h => h) (Or.inl ⟨by kernel_rfl, ?_⟩) hHeld ?_
  · intro w' hSw; obtain ⟨z0, z1, z2, z3, -⟩ := At.open4 hSw; go_simp
  try simp only [Act.put, List.setIfInBounds_toArray, List.set_cons_zero, List.set_cons_succ, List.getElem_toArray, List.getElem_cons_succ, List.getElem_cons_zero]
  refine wpAnyH_ready (rs := [3]) (by kernel_rfl) (by simp) ?_
  refine AllReadyH.cons rfl (fun KK hK' => ?_) AllReadyH.nil
  go_simp
  refine (modulo_any (-x) 12 _ ⟨by omega, by omega⟩ (by omega)).mono ?_
  rintro e u1 ⟨rfl, rfl⟩
  try go_wp2_with fail
  clear hHeld
  refine hK'.out _ _ (A1) (fun hHeld => ?_)
  clear hK' KK
  try simp only [List.setIfInBounds_toArray, List.set_cons_zero, List.set_cons_succ]
  refine wpAnyH_ready (rs := [7]) (by kernel_rfl) (by simp) ?_
  refine AllReadyH.cons rfl (fun KK hK' => ?_) AllReadyH.nil
  go_simp
  refine (modulo_any (-y) 12 _ ⟨by omega, by omega⟩ (by omega)).mono ?_
  rintro e u2 ⟨rfl, rfl⟩
  try go_wp2_with fail
  clear hHeld
  refine hK'.out _ _ (A1) (fun hHeld => ?_)
  clear hK' KK
  try simp only [List.setIfInBounds_toArray, List.set_cons_zero, List.set_cons_succ]
  refine wpAnyH_ready (rs := [11]) (by kernel_rfl) (by simp) ?_
  refine AllReadyH.cons rfl (fun KK hK' => ?_) AllReadyH.nil
  go_simp
  refine (modulo_any (-z) 12 _ ⟨by omega, by omega⟩ (by omega)).mono ?_
  rintro e u3 ⟨rfl, rfl⟩
  try go_wp2_with fail
  clear hHeld
  refine hK'.out _ _ (A1) (fun hHeld => ?_)
  clear hK' KK
  try simp only [List.setIfInBounds_toArray, List.set_cons_zero, List.set_cons_succ]
  refine wpAnyH_take (i := 14) (v := cV ((-x) % 12) ((-y) % 12) ((-z) % 12) f) rfl (by kernel_rfl) (by kernel_rfl) (by kernel_rfl) (fun _ _ _ h => h) (Or.inl ⟨by kernel_rfl, ?_⟩) hHeld ?_
  · intro w' hSw; go_simp
  try simp only [Act.put, List.setIfInBounds_toArray, List.set_cons_zero, List.set_cons_succ, List.getElem_toArray, List.getElem_cons_succ, List.getElem_cons_zero]
  refine wpAnyH_ready (rs := [15]) (by kernel_rfl) (by simp) ?_
  refine AllReadyH.cons rfl (fun KK hK' => ?_) AllReadyH.nil
  obtain ⟨y0, y1, y2, y3, y4, y5, y6, y7⟩ := A2.open4
  go_simp
  have A3 := put4_at A2 (.int .i64 ((-x) % 12)) (.int .i64 ((-y) % 12)) (.int .i64 ((-z) % 12)) (.int .i64 f)
  replace A1 := (((A1.setOther h12 (.int .i64 ((-x) % 12)) (i := 0)).setOther h12 (.int .i64 ((-y) % 12)) (i := 1)).setOther h12 (.int .i64 ((-z) % 12)) (i := 2)).setOther h12 (.int .i64 f) (i := 3)
  replace bW := below_put4 bW hq2 (.int .i64 ((-x) % 12)) (.int .i64 ((-y) % 12)) (.int .i64 ((-z) % 12)) (.int .i64 f)
  obtain ⟨u4, hv⟩ : ∃ V, ((((u0.setCell ⟨q2, 0, none⟩ (.int .i64 ((-x) % 12))).setCell ⟨q2, 1, none⟩ (.int .i64 ((-y) % 12))).setCell ⟨q2, 2, none⟩ (.int .i64 ((-z) % 12))).setCell ⟨q2, 3, none⟩ (.int .i64 f)) = V := ⟨_, rfl⟩
  rw [hv] at A1 A3 bW ⊢
  clear hv A2 y0 y1 y2 y3 y4 y5 y6 y7
  clear hHeld
  refine hK'.out _ _ (A1) (fun hHeld => ?_)
  clear hK' KK
  try simp only [List.setIfInBounds_toArray, List.set_cons_zero, List.set_cons_succ]
  refine wpAnyH_done (by kernel_rfl) ?_ _
  clear hHeld
  obtain ⟨y0, y1, y2, y3, -⟩ := A3.open4
  go_wp2
  exact bodyPost_ret (v := cV ((-x) % 12) ((-y) % 12) ((-z) % 12) f) (by simp [results, Try.results13, go_sem, y0, y1, y2, y3]) rfl ⟨rfl, bW⟩
/-- How many are left in a range over a map. -/
def lfA (w : World) (r : Nat) : Nat :=
  match w.heap[r]? with
  | some (.mapIter (some b) _ seen _) => match w.heap[b]? with
    | some (.map es _) => (leftOf es seen).size
    | _ => 0
  | _ => 0
theorem lfA_is {w : World} {b r : Nat} {ks left : List Q4A} {F : Q4A → Int} (h : ItA w b r ks F left) : lfA w r = left.length := by
  obtain ⟨es, clock, since, seen, c0, h1, h2, -, -, -, -, -, -, h8⟩ := h
  have := congrArg List.length h8
  simp only [List.length_map, Array.length_toList] at this
  simp only [lfA, h2, h1, this]
/-- Behind a number's raise. -/
def CutA (w wc : World) (q5 bm : Nat) (ks : List Q4A) (G : Q4A → Int) (x k : Q4A) : Prop :=
  ∃ ks2, MapA wc bm ks2 G ∧ (∀ y, y ∈ ks2 ↔ y ∈ ks ∨ y = k) ∧ ks2.length ≤ ks.length + 1 ∧ At 30 wc q5 #[.int .i64 x.1, .int .i64 x.2.1, .int .i64 x.2.2.1, .int .i64 x.2.2.2] ∧ Below w.heap.size w wc
/-- The map behind k atoms. -/
def SgI (wr : World) (bm k : Nat) (f : Nat → Int) : Prop :=
  ∃ ks F, MapA wr bm ks F ∧ (∀ x, F x = sur f k x) ∧ (∀ y, y ∈ ks ↔ ∃ i, i < k ∧ (y = qA f i ∨ y = opA (qA f i))) ∧ ks.length ≤ 2 * k
theorem SgI.below {w w' : World} {bm k : Nat} {f : Nat → Int} (h : SgI w bm k f) (hb : Below w.heap.size w w') : SgI w' bm k f := by
  obtain ⟨ks, F, h1, h2⟩ := h
  exact ⟨ks, F, h1.below hb, h2⟩
theorem not_sg {n : Nat} {f : Nat → Int} {b : Bool} (hb : b = true ↔ SgT n f) {x : Q4A} (hx : ∃ i, i < n ∧ (x = qA f i ∨ x = opA (qA f i))) (h : sur f n x ≠ 0) : b = false := by
  rw [Bool.eq_false_iff]
  intro e
  exact h ((hb.1 e).all hx)
set_option maxRecDepth 100000 in
set_option maxHeartbeats 4000000 in
theorem implSigned_any {w : World} {g n c : Nat} {f : Nat → Int} (h : Quads w g n f) (hn : n ≤ 1048576) (b : Bool) (hb : b = true ↔ SgT n f) :
    Calls Try.prog 7 #[.slice (some ⟨g, 0, none⟩) n c] w fun e w' => e = .returned (.bool b) ∧ Below w.heap.size w w' := by
  obtain ⟨ao, hao⟩ : ∃ b : Bool, b = true ↔ AOk n f := by
    by_cases h : AOk n f
    · exact ⟨true, by simp [h]⟩
    · exact ⟨false, by simp [h]⟩
  have HBb := hid_of hb
  have hmk := makeMapA
  clear hb
  go_enter Try.func7, Try.ntmps7
  go_wp2_with fail
  refine (implAtoms_any h hn ao hao).mono ?_
  rintro e w1 ⟨rfl, b1⟩
  cases ao
  · have eb : b = false := by
      rw [Bool.eq_false_iff]
      intro e
      exact absurd (hao.2 (HBb.out.1 e).1) (by decide)
    have HE := hid_of eb
    clear hao eb HBb
    go_wp2
    go_ret
    exact ⟨by rw [HE.out]; rfl, b1⟩
  have HOK := hid_of (hao.1 rfl)
  have hn2 : n ≤ 200 := HOK.out.1
  have hn' : (n : Int) ≤ 200 := by omega
  clear hao hn
  have h1 := hid_of (h.below b1)
  obtain ⟨W2, hW2⟩ : ∃ W, w1.alloc (.map #[] 0) = W := ⟨_, rfl⟩
  obtain ⟨bm, hbm⟩ : ∃ q, w1.heap.size = q := ⟨_, rfl⟩
  have bb : Below w1.heap.size w1 W2 := hW2 ▸ below_alloc _ _
  have B2 := b1.trans (bb.mono b1.size)
  have hbw : w.heap.size ≤ bm := by have := b1.size; omega
  have M2 : Hid (SgI W2 bm 0 f) := by
    refine ⟨[], fun _ => 0, ?_, fun _ => rfl, fun y => ⟨fun h => (by cases h), fun ⟨i, hi, _⟩ => (by omega)⟩, by simp⟩
    rw [← hbm, ← hW2]; exact mapA_new w1
  have HQ0 := hid_of h
  clear h1 bb b1 h
  go_wp2
  clear hW2 hbm
  go_loopw [14] (fun s wr => ∃ k : Nat, k ≤ n ∧ s = .int .i64 (k : Int) ∧ Hid (SgI wr bm k f) ∧ Below w.heap.size w wr) (fun s _ => n - (intOf s).toNat)
  case atStart => exact ⟨0, Nat.zero_le _, rfl, M2, B2⟩
  case round =>
    clear M2 B2
    obtain ⟨k, hk, rfl, MI, B⟩ := hrel
    by_cases hlt : k < n
    · have hlt' : (k : Int) < (n : Int) := by omega
      obtain ⟨c0, c1, c2, c3⟩ := (HQ0.out.below B).open k hlt
      have HRT := hid_of (qA_rt HOK.out hlt)
      obtain ⟨xa, hxa⟩ : ∃ x, f (k * 4) = x := ⟨_, rfl⟩
      obtain ⟨xb, hxb⟩ : ∃ x, f (k * 4 + 1) = x := ⟨_, rfl⟩
      obtain ⟨xc, hxc⟩ : ∃ x, f (k * 4 + 2) = x := ⟨_, rfl⟩
      obtain ⟨xd, hxd⟩ : ∃ x, f (k * 4 + 3) = x := ⟨_, rfl⟩
      have HQA : Hid (qA f k = (xa, xb, xc, xd)) := by unfold qA; rw [hxa, hxb, hxc, hxd]; exact rfl
      rw [HQA.out] at HRT
      rw [hxa] at c0
      rw [hxb] at c1
      rw [hxc] at c2
      rw [hxd] at c3
      clear hxa hxb hxc hxd
      obtain ⟨W3, hW3, A5, bb, -⟩ := boxed wr 30 #[.int .i64 xa, .int .i64 xb, .int .i64 xc, .int .i64 xd]
      obtain ⟨q5, hq5⟩ : ∃ q, wr.heap.size = q := ⟨_, rfl⟩
      rw [hq5] at A5
      replace B := B.trans (bb.mono B.size)
      replace MI := hid_of (MI.out.below bb)
      clear bb
      go_wp2_with fail
      try rw [hq5]
      clear hW3 hq5 c0 c1 c2 c3
      obtain ⟨ks, F, hM, hF, hks, hle⟩ := MI.out
      have M := hid_of hM
      have hqm : q5 ≠ bm := hM.ne_at A5
      have hroom : ks.length < maxLen := by unfold maxLen; omega
      have hsm : smA (xa, xb, xc, xd) := rtA_sm HRT.out
      obtain ⟨n0, hn0⟩ : ∃ x, F (xa, xb, xc, xd) = x := ⟨_, rfl⟩
      have hbd := sur_le f (xa, xb, xc, xd) k
      rw [← hF, hn0] at hbd
      obtain ⟨n1, hn1⟩ : ∃ x, x = n0 + 1 := ⟨_, rfl⟩
      have hw : IntKind.i64.wrap (n0 + 1) = n1 := by rw [hn1]; exact IntWalk.i64_in _ (by omega)
      have hwf : (Lit.int .i64 n1).wf = true := wfA ⟨by omega, by omega⟩
      have HN := hid_of hn1
      have HF := hid_of hF
      have HKS := hid_of hks
      have HBD := hid_of hbd
      clear MI hM hn1 hF hks hbd
      go_cut [] from 18 to 23 (fun wc => CutA w wc q5 bm ks (setA F (xa, xb, xc, xd) n1) (xa, xb, xc, xd) (xa, xb, xc, xd))
      case first =>
        obtain ⟨u0, hu0, bb⟩ : ∃ uu, W3.drew = uu ∧ Below W3.heap.size W3 uu := ⟨_, rfl, (Below.refl _ _).drew⟩
        replace A5 := A5.below bb
        replace B := B.trans (bb.mono B.size)
        replace M := hid_of (M.out.below bb)
        clear bb
        refine wp_region_held_drew (S := fun w' => At 30 w' q5 #[.int .i64 xa, .int .i64 xb, .int .i64 xc, .int .i64 xd]) (by kernel_rfl) (by rw [hu0]; exact A5) (fun hHeld => ?_)
        rw [hu0] at hHeld ⊢
        clear hu0
        change wpAnyH _ _ _ _ _ 7 #[false, false, false, false, false, false, false] _ _
        refine wpAnyH_take (i := 0) (v := .map (some bm)) rfl (by kernel_rfl) (by kernel_rfl) (by kernel_rfl) (fun _ _ _ h => h) (Or.inl ⟨by kernel_rfl, ?_⟩) hHeld ?_
        · intro w' hSw; go_simp
        try simp only [Act.put, List.setIfInBounds_toArray, List.set_cons_zero, List.set_cons_succ, List.getElem_toArray, List.getElem_cons_zero]
        refine wpAnyH_take (i := 1) (v := .agg #[.int .i64 xa, .int .i64 xb, .int .i64 xc, .int .i64 xd]) rfl (by kernel_rfl) (by kernel_rfl) (by kernel_rfl) (fun _ _ _ h => h) (Or.inl ⟨by kernel_rfl, ?_⟩) hHeld ?_
        · intro w' hSw; obtain ⟨z0, z1, z2, z3, -⟩ := At.open4 hSw; go_simp
        try simp only [Act.put, List.setIfInBounds_toArray, List.set_cons_zero, List.set_cons_succ, List.getElem_toArray, List.getElem_cons_succ, List.getElem_cons_zero]
        refine wpAnyH_ready (rs := [2, 4]) (by kernel_rfl) (by simp) ?_
        refine AllReadyH.cons rfl (fun KK hK' => ?_) (AllReadyH.cons rfl (fun KK hK' => ?_) AllReadyH.nil)
        · have hlk : (Instr.lookup 34 (.map (some bm)) (.agg #[.int .i64 xa, .int .i64 xb, .int .i64 xc, .int .i64 xd]) false).run Try.prog u0 = .ok (.int .i64 n0) u0 := by rw [← hn0]; exact M.out.look (x := (xa, xb, xc, xd)) hsm
          go_simp
          clear hlk
          clear hHeld
          refine hK'.out _ _ (A5) (fun hHeld => ?_)
          clear hK' KK
          try simp only [List.setIfInBounds_toArray, List.set_cons_zero, List.set_cons_succ]
          refine wpAnyH_take (i := 3) (v := .int .i64 (n1)) rfl (by kernel_rfl) (by kernel_rfl) (by kernel_rfl) (fun _ _ _ h => h) (Or.inl ⟨by kernel_rfl, ?_⟩) hHeld ?_
          · intro w' hSw; go_simp
          try simp only [Act.put, List.setIfInBounds_toArray, List.set_cons_zero, List.set_cons_succ, List.getElem_toArray, List.getElem_cons_succ, List.getElem_cons_zero]
          refine wpAnyH_ready (rs := [4]) (by kernel_rfl) (by simp) ?_
          refine AllReadyH.cons rfl (fun KK hK' => ?_) AllReadyH.nil
          obtain ⟨v0, st, u2, he, hg1, hs1, hlk2, hst⟩ := M.out.bump (x := (xa, xb, xc, xd)) hsm hroom
          replace he : (Instr.mapEntry 34 (.map (some bm)) (.agg #[.int .i64 xa, .int .i64 xb, .int .i64 xc, .int .i64 xd])).run Try.prog u0 = .ok (.tuple #[v0, .int .i64 (st : Int)]) u2 := he
          replace hlk2 : (Instr.lookup 34 (.map (some bm)) (.agg #[.int .i64 xa, .int .i64 xb, .int .i64 xc, .int .i64 xd]) false).run Try.prog u2 = .ok (.int .i64 n0) u2 := by rw [← hn0]; exact hlk2
          go_simp
          have A5o := A5
          replace A5 : At 30 u2 q5 #[.int .i64 xa, .int .i64 xb, .int .i64 xc, .int .i64 xd] := (hg1.block q5 A5.lt (fun e => hqm (by injection e))).trans A5
          clear he
          clear hHeld
          refine hK'.out _ _ (A5) (fun hHeld => ?_)
          clear hK' KK
          try simp only [List.setIfInBounds_toArray, List.set_cons_zero, List.set_cons_succ]
          refine wpAnyH_take (i := 5) (v := .int .i64 ((st : Int))) rfl (by kernel_rfl) (by kernel_rfl) (by kernel_rfl) (fun _ _ _ h => h) (Or.inl ⟨by kernel_rfl, ?_⟩) hHeld ?_
          · intro w' hSw; go_simp
          try simp only [Act.put, List.setIfInBounds_toArray, List.set_cons_zero, List.set_cons_succ, List.getElem_toArray, List.getElem_cons_succ, List.getElem_cons_zero]
          refine wpAnyH_ready (rs := [6]) (by kernel_rfl) (by simp) ?_
          refine AllReadyH.cons rfl (fun KK hK' => ?_) AllReadyH.nil
          obtain ⟨u3, ks2, he, M2, hks2, hle2, hg2, hs2⟩ := hst n1 hwf
          go_simp
          replace A5 : At 30 u3 q5 #[.int .i64 xa, .int .i64 xb, .int .i64 xc, .int .i64 xd] := (hg2.block q5 A5o.lt (fun e => hqm (by injection e))).trans A5o
          clear he hst hg1 hs1 A5o
          clear hHeld
          refine hK'.out _ _ (A5) (fun hHeld => ?_)
          clear hK' KK
          try simp only [List.setIfInBounds_toArray, List.set_cons_zero, List.set_cons_succ]
          refine wpAnyH_done (by kernel_rfl) ?_ _
          clear hHeld
          replace B : Below w.heap.size w u3 := B.grown hg2 B.size (fun q hq => by simp only [Option.some.injEq] at hq; omega)
          go_wp2_with fail
          go_meet
          case rel => exact ⟨ks2, M2, hks2, hle2, A5, B⟩
        · obtain ⟨v0, st, u1, he, hg1, hs1, hlk2, hst⟩ := M.out.bump (x := (xa, xb, xc, xd)) hsm hroom
          replace he : (Instr.mapEntry 34 (.map (some bm)) (.agg #[.int .i64 xa, .int .i64 xb, .int .i64 xc, .int .i64 xd])).run Try.prog u0 = .ok (.tuple #[v0, .int .i64 (st : Int)]) u1 := he
          replace hlk2 : (Instr.lookup 34 (.map (some bm)) (.agg #[.int .i64 xa, .int .i64 xb, .int .i64 xc, .int .i64 xd]) false).run Try.prog u1 = .ok (.int .i64 n0) u1 := by rw [← hn0]; exact hlk2
          go_simp
          have A5o := A5
          replace A5 : At 30 u1 q5 #[.int .i64 xa, .int .i64 xb, .int .i64 xc, .int .i64 xd] := (hg1.block q5 A5.lt (fun e => hqm (by injection e))).trans A5
          clear he
          clear hHeld
          refine hK'.out _ _ (A5) (fun hHeld => ?_)
          clear hK' KK
          try simp only [List.setIfInBounds_toArray, List.set_cons_zero, List.set_cons_succ]
          refine wpAnyH_take (i := 5) (v := .int .i64 ((st : Int))) rfl (by kernel_rfl) (by kernel_rfl) (by kernel_rfl) (fun _ _ _ h => h) (Or.inl ⟨by kernel_rfl, ?_⟩) hHeld ?_
          · intro w' hSw; go_simp
          try simp only [Act.put, List.setIfInBounds_toArray, List.set_cons_zero, List.set_cons_succ, List.getElem_toArray, List.getElem_cons_succ, List.getElem_cons_zero]
          refine wpAnyH_ready (rs := [2]) (by kernel_rfl) (by simp) ?_
          refine AllReadyH.cons rfl (fun KK hK' => ?_) AllReadyH.nil
          go_simp
          clear hlk2
          clear hHeld
          refine hK'.out _ _ (A5) (fun hHeld => ?_)
          clear hK' KK
          try simp only [List.setIfInBounds_toArray, List.set_cons_zero, List.set_cons_succ]
          refine wpAnyH_take (i := 3) (v := .int .i64 (n1)) rfl (by kernel_rfl) (by kernel_rfl) (by kernel_rfl) (fun _ _ _ h => h) (Or.inl ⟨by kernel_rfl, ?_⟩) hHeld ?_
          · intro w' hSw; go_simp
          try simp only [Act.put, List.setIfInBounds_toArray, List.set_cons_zero, List.set_cons_succ, List.getElem_toArray, List.getElem_cons_succ, List.getElem_cons_zero]
          refine wpAnyH_ready (rs := [6]) (by kernel_rfl) (by simp) ?_
          refine AllReadyH.cons rfl (fun KK hK' => ?_) AllReadyH.nil
          obtain ⟨u3, ks2, he, M2, hks2, hle2, hg2, hs2⟩ := hst n1 hwf
          go_simp
          replace A5 : At 30 u3 q5 #[.int .i64 xa, .int .i64 xb, .int .i64 xc, .int .i64 xd] := (hg2.block q5 A5o.lt (fun e => hqm (by injection e))).trans A5o
          clear he hst hg1 hs1 A5o
          clear hHeld
          refine hK'.out _ _ (A5) (fun hHeld => ?_)
          clear hK' KK
          try simp only [List.setIfInBounds_toArray, List.set_cons_zero, List.set_cons_succ]
          refine wpAnyH_done (by kernel_rfl) ?_ _
          clear hHeld
          replace B : Below w.heap.size w u3 := B.grown hg2 B.size (fun q hq => by simp only [Option.some.injEq] at hq; omega)
          go_wp2_with fail
          go_meet
          case rel => exact ⟨ks2, M2, hks2, hle2, A5, B⟩
      case rest =>
      rename World => W4
      clear A5 B M
      obtain ⟨ks2, M2, hks2, hle2, A5, B⟩ := hcut
      have hn0' := hid_of hn0
      have HK2 := hid_of hks2
      obtain ⟨F1, hF1⟩ : ∃ G, setA F (xa, xb, xc, xd) n1 = G := ⟨_, rfl⟩
      rw [hF1] at M2
      have M := hid_of M2
      have HF1 := hid_of hF1
      clear hw hwf hn0 hks2 M2 hF1 hroom hsm
      obtain ⟨ya, hya⟩ : ∃ x, (-xa) % 12 = x := ⟨_, rfl⟩
      obtain ⟨yb, hyb⟩ : ∃ x, (-xb) % 12 = x := ⟨_, rfl⟩
      obtain ⟨yc, hyc⟩ : ∃ x, (-xc) % 12 = x := ⟨_, rfl⟩
      have HOP : Hid (opA (xa, xb, xc, xd) = (ya, yb, yc, xd)) := hid_of (by rw [← hya, ← hyb, ← hyc]; rfl)
      have hsm : smA (ya, yb, yc, xd) := by rw [← HOP.out]; exact rtA_sm (opA_rt HRT.out)
      have hroom : ks2.length < maxLen := by unfold maxLen; omega
      obtain ⟨m0, hm0⟩ : ∃ x, F1 (ya, yb, yc, xd) = x := ⟨_, rfl⟩
      have hbd2 : -1000 ≤ m0 ∧ m0 ≤ 1000 := by
        rw [← hm0, ← HF1.out]
        have h1 := sur_le f (ya, yb, yc, xd) k
        rw [← HF.out] at h1
        have h2 := HBD.out
        have h3 := HN.out
        unfold setA
        split <;> omega
      obtain ⟨m1, hm1⟩ : ∃ x, x = m0 - 1 := ⟨_, rfl⟩
      have hw : IntKind.i64.wrap (m0 - 1) = m1 := by rw [hm1]; exact IntWalk.i64_in _ (by omega)
      have hwf : (Lit.int .i64 m1).wf = true := wfA ⟨by omega, by omega⟩
      have HM1 := hid_of hm1
      have HLE := hid_of hle2
      clear hm1 hbd2 hle2
      go_wp2_with fail
      obtain ⟨u0, hu0, bb⟩ : ∃ uu, W4.drew = uu ∧ Below W4.heap.size W4 uu := ⟨_, rfl, (Below.refl _ _).drew⟩
      replace A5 := A5.below bb
      replace B := B.trans (bb.mono B.size)
      replace M := hid_of (M.out.below bb)
      clear bb
      refine wp_region_held_drew (S := fun w' => At 30 w' q5 #[.int .i64 xa, .int .i64 xb, .int .i64 xc, .int .i64 xd]) (by kernel_rfl) (by rw [hu0]; exact A5) (fun hHeld => ?_)
      rw [hu0] at hHeld ⊢
      clear hu0
      change wpAnyH _ _ _ _ _ 8 #[false, false, false, false, false, false, false, false] _ _
      refine wpAnyH_take (i := 0) (v := .map (some bm)) rfl (by kernel_rfl) (by kernel_rfl) (by kernel_rfl) (fun _ _ _ h => h) (Or.inl ⟨by kernel_rfl, ?_⟩) hHeld ?_
      · intro w' hSw; go_simp
      try simp only [Act.put, List.setIfInBounds_toArray, List.set_cons_zero, List.set_cons_succ, List.getElem_toArray, List.getElem_cons_zero]
      refine wpAnyH_take (i := 1) (v := .agg #[.int .i64 xa, .int .i64 xb, .int .i64 xc, .int .i64 xd]) rfl (by kernel_rfl) (by kernel_rfl) (by kernel_rfl) (fun _ _ _ h => h) (Or.inl ⟨by kernel_rfl, ?_⟩) hHeld ?_
      · intro w' hSw; obtain ⟨z0, z1, z2, z3, -⟩ := At.open4 hSw; go_simp
      try simp only [Act.put, List.setIfInBounds_toArray, List.set_cons_zero, List.set_cons_succ, List.getElem_toArray, List.getElem_cons_succ, List.getElem_cons_zero]
      refine wpAnyH_ready (rs := [2]) (by kernel_rfl) (by simp) ?_
      refine AllReadyH.cons rfl (fun KK hK' => ?_) AllReadyH.nil
      go_simp
      refine (opposite_any _ _ _ _ HRT.out _).mono ?_
      rintro e u1 ⟨rfl, bb⟩
      rw [hya, hyb, hyc]
      replace A5 := A5.below bb
      replace M := hid_of (M.out.below bb)
      replace B := B.trans (bb.mono B.size)
      clear bb
      try go_wp2_with fail
      clear hHeld
      refine hK'.out _ _ (A5) (fun hHeld => ?_)
      clear hK' KK
      try simp only [List.setIfInBounds_toArray, List.set_cons_zero, List.set_cons_succ]
      refine wpAnyH_ready (rs := [3, 5]) (by kernel_rfl) (by simp) ?_
      refine AllReadyH.cons rfl (fun KK hK' => ?_) (AllReadyH.cons rfl (fun KK hK' => ?_) AllReadyH.nil)
      · have hlk : (Instr.lookup 34 (.map (some bm)) (.agg #[.int .i64 ya, .int .i64 yb, .int .i64 yc, .int .i64 xd]) false).run Try.prog u1 = .ok (.int .i64 m0) u1 := by rw [← hm0]; exact M.out.look (x := (ya, yb, yc, xd)) hsm
        go_simp
        clear hlk
        clear hHeld
        refine hK'.out _ _ (A5) (fun hHeld => ?_)
        clear hK' KK
        try simp only [List.setIfInBounds_toArray, List.set_cons_zero, List.set_cons_succ]
        refine wpAnyH_take (i := 4) (v := .int .i64 (m1)) rfl (by kernel_rfl) (by kernel_rfl) (by kernel_rfl) (fun _ _ _ h => h) (Or.inl ⟨by kernel_rfl, ?_⟩) hHeld ?_
        · intro w' hSw; go_simp
        try simp only [Act.put, List.setIfInBounds_toArray, List.set_cons_zero, List.set_cons_succ, List.getElem_toArray, List.getElem_cons_succ, List.getElem_cons_zero]
        refine wpAnyH_ready (rs := [5]) (by kernel_rfl) (by simp) ?_
        refine AllReadyH.cons rfl (fun KK hK' => ?_) AllReadyH.nil
        obtain ⟨v0, st, u3, he, hg1, hs1, hlk2, hst⟩ := M.out.bump (x := (ya, yb, yc, xd)) hsm hroom
        replace he : (Instr.mapEntry 34 (.map (some bm)) (.agg #[.int .i64 ya, .int .i64 yb, .int .i64 yc, .int .i64 xd])).run Try.prog u1 = .ok (.tuple #[v0, .int .i64 (st : Int)]) u3 := he
        replace hlk2 : (Instr.lookup 34 (.map (some bm)) (.agg #[.int .i64 ya, .int .i64 yb, .int .i64 yc, .int .i64 xd]) false).run Try.prog u3 = .ok (.int .i64 m0) u3 := by rw [← hm0]; exact hlk2
        go_simp
        have A5o := A5
        replace A5 : At 30 u3 q5 #[.int .i64 xa, .int .i64 xb, .int .i64 xc, .int .i64 xd] := (hg1.block q5 A5.lt (fun e => hqm (by injection e))).trans A5
        clear he
        clear hHeld
        refine hK'.out _ _ (A5) (fun hHeld => ?_)
        clear hK' KK
        try simp only [List.setIfInBounds_toArray, List.set_cons_zero, List.set_cons_succ]
        refine wpAnyH_take (i := 6) (v := .int .i64 ((st : Int))) rfl (by kernel_rfl) (by kernel_rfl) (by kernel_rfl) (fun _ _ _ h => h) (Or.inl ⟨by kernel_rfl, ?_⟩) hHeld ?_
        · intro w' hSw; go_simp
        try simp only [Act.put, List.setIfInBounds_toArray, List.set_cons_zero, List.set_cons_succ, List.getElem_toArray, List.getElem_cons_succ, List.getElem_cons_zero]
        refine wpAnyH_ready (rs := [7]) (by kernel_rfl) (by simp) ?_
        refine AllReadyH.cons rfl (fun KK hK' => ?_) AllReadyH.nil
        obtain ⟨u4, ks3, he, M2, hks2, hle2, hg2, hs2⟩ := hst m1 hwf
        go_simp
        replace A5 : At 30 u4 q5 #[.int .i64 xa, .int .i64 xb, .int .i64 xc, .int .i64 xd] := (hg2.block q5 A5o.lt (fun e => hqm (by injection e))).trans A5o
        clear he hst hg1 hs1 A5o
        clear hHeld
        refine hK'.out _ _ (A5) (fun hHeld => ?_)
        clear hK' KK
        try simp only [List.setIfInBounds_toArray, List.set_cons_zero, List.set_cons_succ]
        refine wpAnyH_done (by kernel_rfl) ?_ _
        clear hHeld
        replace B : Below w.heap.size w u4 := B.grown hg2 B.size (fun q hq => by simp only [Option.some.injEq] at hq; omega)
        have HI : Hid (SgI u4 bm (k + 1) f) := by
          refine ⟨ks3, _, M2, fun x => ?_, fun y => ?_, ?_⟩
          · have e := sur_set HF.out x
            rw [HQA.out, HOP.out] at e
            rw [← HF1.out, HM1.out, ← hm0, ← HF1.out, HN.out, ← hn0'.out]
            exact e
          · rw [hks2, HK2.out, HKS.out]
            constructor
            · rintro ((⟨i, hi, h⟩ | h) | h)
              · exact ⟨i, by omega, h⟩
              · exact ⟨k, by omega, .inl (by rw [HQA.out]; exact h)⟩
              · exact ⟨k, by omega, .inr (by rw [HQA.out, HOP.out]; exact h)⟩
            · rintro ⟨i, hi, h⟩
              by_cases e : i = k
              · subst e
                rw [HQA.out, HOP.out] at h
                rcases h with h | h
                · exact .inl (.inr h)
                · exact .inr h
              · exact .inl (.inl ⟨i, by omega, h⟩)
          · have := HLE.out
            omega
        clear A5 hks2 hle2 M2 HF HF1 HM1 HN HKS HK2 hn0' hm0 HBD HRT HQA HOP hya hyb hyc hsm hroom hw hwf hqm
        go_wp2
        exact ⟨⟨k + 1, by omega, by go_num, HI, B⟩, by simp [intOf]; omega⟩
      · obtain ⟨v0, st, u2, he, hg1, hs1, hlk2, hst⟩ := M.out.bump (x := (ya, yb, yc, xd)) hsm hroom
        replace he : (Instr.mapEntry 34 (.map (some bm)) (.agg #[.int .i64 ya, .int .i64 yb, .int .i64 yc, .int .i64 xd])).run Try.prog u1 = .ok (.tuple #[v0, .int .i64 (st : Int)]) u2 := he
        replace hlk2 : (Instr.lookup 34 (.map (some bm)) (.agg #[.int .i64 ya, .int .i64 yb, .int .i64 yc, .int .i64 xd]) false).run Try.prog u2 = .ok (.int .i64 m0) u2 := by rw [← hm0]; exact hlk2
        go_simp
        have A5o := A5
        replace A5 : At 30 u2 q5 #[.int .i64 xa, .int .i64 xb, .int .i64 xc, .int .i64 xd] := (hg1.block q5 A5.lt (fun e => hqm (by injection e))).trans A5
        clear he
        clear hHeld
        refine hK'.out _ _ (A5) (fun hHeld => ?_)
        clear hK' KK
        try simp only [List.setIfInBounds_toArray, List.set_cons_zero, List.set_cons_succ]
        refine wpAnyH_take (i := 6) (v := .int .i64 ((st : Int))) rfl (by kernel_rfl) (by kernel_rfl) (by kernel_rfl) (fun _ _ _ h => h) (Or.inl ⟨by kernel_rfl, ?_⟩) hHeld ?_
        · intro w' hSw; go_simp
        try simp only [Act.put, List.setIfInBounds_toArray, List.set_cons_zero, List.set_cons_succ, List.getElem_toArray, List.getElem_cons_succ, List.getElem_cons_zero]
        refine wpAnyH_ready (rs := [3]) (by kernel_rfl) (by simp) ?_
        refine AllReadyH.cons rfl (fun KK hK' => ?_) AllReadyH.nil
        go_simp
        clear hlk2
        clear hHeld
        refine hK'.out _ _ (A5) (fun hHeld => ?_)
        clear hK' KK
        try simp only [List.setIfInBounds_toArray, List.set_cons_zero, List.set_cons_succ]
        refine wpAnyH_take (i := 4) (v := .int .i64 (m1)) rfl (by kernel_rfl) (by kernel_rfl) (by kernel_rfl) (fun _ _ _ h => h) (Or.inl ⟨by kernel_rfl, ?_⟩) hHeld ?_
        · intro w' hSw; go_simp
        try simp only [Act.put, List.setIfInBounds_toArray, List.set_cons_zero, List.set_cons_succ, List.getElem_toArray, List.getElem_cons_succ, List.getElem_cons_zero]
        refine wpAnyH_ready (rs := [7]) (by kernel_rfl) (by simp) ?_
        refine AllReadyH.cons rfl (fun KK hK' => ?_) AllReadyH.nil
        obtain ⟨u4, ks3, he, M2, hks2, hle2, hg2, hs2⟩ := hst m1 hwf
        go_simp
        replace A5 : At 30 u4 q5 #[.int .i64 xa, .int .i64 xb, .int .i64 xc, .int .i64 xd] := (hg2.block q5 A5o.lt (fun e => hqm (by injection e))).trans A5o
        clear he hst hg1 hs1 A5o
        clear hHeld
        refine hK'.out _ _ (A5) (fun hHeld => ?_)
        clear hK' KK
        try simp only [List.setIfInBounds_toArray, List.set_cons_zero, List.set_cons_succ]
        refine wpAnyH_done (by kernel_rfl) ?_ _
        clear hHeld
        replace B : Below w.heap.size w u4 := B.grown hg2 B.size (fun q hq => by simp only [Option.some.injEq] at hq; omega)
        have HI : Hid (SgI u4 bm (k + 1) f) := by
          refine ⟨ks3, _, M2, fun x => ?_, fun y => ?_, ?_⟩
          · have e := sur_set HF.out x
            rw [HQA.out, HOP.out] at e
            rw [← HF1.out, HM1.out, ← hm0, ← HF1.out, HN.out, ← hn0'.out]
            exact e
          · rw [hks2, HK2.out, HKS.out]
            constructor
            · rintro ((⟨i, hi, h⟩ | h) | h)
              · exact ⟨i, by omega, h⟩
              · exact ⟨k, by omega, .inl (by rw [HQA.out]; exact h)⟩
              · exact ⟨k, by omega, .inr (by rw [HQA.out, HOP.out]; exact h)⟩
            · rintro ⟨i, hi, h⟩
              by_cases e : i = k
              · subst e
                rw [HQA.out, HOP.out] at h
                rcases h with h | h
                · exact .inl (.inr h)
                · exact .inr h
              · exact .inl (.inl ⟨i, by omega, h⟩)
          · have := HLE.out
            omega
        clear A5 hks2 hle2 M2 HF HF1 HM1 HN HKS HK2 hn0' hm0 HBD HRT HQA HOP hya hyb hyc hsm hroom hw hwf hqm
        go_wp2
        exact ⟨⟨k + 1, by omega, by go_num, HI, B⟩, by simp [intOf]; omega⟩
    · have hlt' : ¬ (k : Int) < (n : Int) := by omega
      obtain rfl : k = n := by omega
      obtain ⟨ks, F, M, hF, hks, hle⟩ := MI.out
      obtain ⟨W5, hW5, I5, b5, -⟩ := M.range
      obtain ⟨r5, hr5⟩ : ∃ q, wr.heap.size = q := ⟨_, rfl⟩
      rw [hr5] at I5 hW5
      have HBb := hid_of HBb.out
      have HF := hid_of hF
      have HKS := hid_of hks
      have HI := hid_of I5
      have HD : Hid (∀ x, x ∈ ks → x ∉ ks → sur f k x = 0) := fun x h1 h2 => absurd h1 h2
      have hrw : w.heap.size ≤ r5 := by have := B.size; omega
      have B5 := B.trans (b5.mono B.size)
      clear hF hks hle hr5 M MI I5 b5 B
      go_wp2
      clear hW5
      go_loopw [35] (fun _ wr => ∃ left, Hid (ItA wr bm r5 ks F left) ∧ Hid (∀ x, x ∈ ks → x ∉ left → sur f k x = 0) ∧ Hid (Hid (∀ x, x ∈ left → x ∈ ks)) ∧ Below w.heap.size w wr) (fun _ wr => lfA wr r5)
      case atStart => exact ⟨ks, HI, HD, hid_of (hid_of (fun x h => h)), B5⟩
      case round =>
        clear HI HD B5
        obtain ⟨left, I, D, HSUB, B⟩ := hrel
        rename World => wz
        have HLF := hid_of (lfA_is I.out)
        rcases I.out.next 0 with ⟨rfl, hrun⟩ | ⟨x, w', left', hrun, hent, I2, hx, hlf, hlt2, hgr, -⟩
        · have eb : b = true := HBb.out.2 ⟨‹Hid (AOk k f)›.out, fun i hi => D.out _ ((HKS.out _).2 ⟨i, hi, .inl rfl⟩) (by simp)⟩
          have HE := hid_of eb
          clear I D HLF
          go_wp2
          go_ret
          exact ⟨by rw [HE.out]; rfl, B⟩
        · obtain ⟨X, hX⟩ : ∃ v, aVA x = v := ⟨_, rfl⟩
          obtain ⟨y, hy⟩ : ∃ v, F x = v := ⟨_, rfl⟩
          rw [hX, hy] at hrun hent
          have BF : Below w.heap.size w w' := B.grown hgr B.size (fun q hq => by simp only [Option.some.injEq] at hq; omega)
          have HX : Hid (x ∈ ks) := HSUB.out.out x hx
          have HY : Hid (sur f k x = y) := by rw [← HF.out]; exact hy
          have HI2 := hid_of I2
          have HLT : Hid (lfA w' r5 < lfA wz r5) := by rw [lfA_is I2, HLF.out]; exact hlt2
          have HLX : Hid (∀ z, z ∈ ks → z ∉ left' → z = x ∨ sur f k z = 0) := fun z h1 h2 => by
            by_cases e : z = x
            · exact .inl e
            · exact .inr (D.out z h1 (fun h => h2 ((hlf z).2 ⟨h, e⟩)))
          have HSB : Hid (∀ z, z ∈ left' → z ∈ ks) := fun z h => HSUB.out.out z ((hlf z).1 h).1
          clear I D HLF hx hlf hlt2 hgr I2 hX hy B HSUB
          by_cases hy0 : y = 0
          · have HD2 : Hid (∀ z, z ∈ ks → z ∉ left' → sur f k z = 0) := fun z h1 h2 => by
              rcases HLX.out z h1 h2 with e | e
              · rw [e, HY.out]; exact hy0
              · exact e
            clear HLX HY
            subst hy0
            go_wp2
            exact ⟨⟨left', HI2, HD2, hid_of HSB, BF⟩, HLT.out⟩
          · have eb : b = false := not_sg HBb.out ((HKS.out x).1 HX.out) (by rw [HY.out]; exact hy0)
            have HE := hid_of eb
            clear HLX HY
            go_wp2
            go_ret
            exact ⟨by rw [HE.out]; rfl, BF⟩
end Go.Proofs.Ytohboecnhneolaa
