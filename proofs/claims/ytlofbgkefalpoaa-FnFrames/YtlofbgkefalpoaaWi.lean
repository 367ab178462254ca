/-
  The law FnFrames: walked.
-/
import Derived.Test.YtlofbgkefalpoaaWh
namespace Go.Proofs.Ytlofbgkefalpoaa
open Go.RowKit

theorem fN_le {L : List FrD} (h : ∀ x ∈ L, x.2.2.2.length ≤ 5000) {i : Nat} (hi : i < L.length) : fN L i ≤ 5000 := by
  have e : L.getD i dF = L[i] := by simp [hi]
  unfold fN
  rw [e]
  exact h _ (List.getElem_mem hi)
theorem px_none {w : World} {B g c : Nat} {L : List FrD} (h : Gf w B (.slice (some ⟨g, 0, none⟩) L.length c) L) {i : Nat} (hi : i < L.length) : fA L i = none → fN L i = 0 ∧ fC L i = 0 := by
  have e : L.getD i dF = L[i] := by simp [hi]
  unfold fA fN fC
  rw [e]
  intro hn
  have ho := h.px L[i] (List.getElem_mem hi)
  have hs := own_src ho rfl
  rcases ho.2 with ⟨e1, e2⟩ | ⟨g', c', cur, e1, -⟩
  · have h2 := hs.1
    rw [e1] at h2 ⊢
    simp only [Value.slice.injEq] at h2
    exact ⟨h2.2.1.symm, rfl⟩
  · rw [e1] at hn; cases hn
set_option maxRecDepth 100000 in
set_option maxHeartbeats 3000000 in
theorem frames_walk {w : World} {a : Option Addr} {len cap : Nat} (hr : Row w w.heap.size a len) :
    Calls Try.prog 3 #[.slice a len cap] w fun e w' => e = .returned (.bool true) ∧ Below w.heap.size w w' := by
  obtain ⟨i0, hi0, hz0, hz1, hz2⟩ := info_parts infoFr
  have hbs : ∀ w, (Instr.buildSlice 24 0 #[]).run Try.prog w = .ok (.slice (some ⟨w.heap.size, 0, none⟩) 0 0) (w.alloc (.cells #[] 28)) := fun _ => by kernel_rfl
  go_enter Try.func3, Try.ntmps3
  go_wp2_with fail
  refine (big_any a len cap _ hr.1).mono ?_
  rintro e w1 ⟨rfl, rfl⟩
  by_cases hbig : 1048576 < len
  · rw [decide_eq_true hbig]
    go_wp2
    go_ret
    exact ⟨rfl, Below.refl _ _⟩
  rw [decide_eq_false hbig]
  go_wp2_with fail
  refine (drawAdd_any hr).mono ?_
  rintro e w2 ⟨g, c, L, rfl, hN, hP, G, B⟩
  have HN5 : Hid (∀ i, i < L.length → fN L i ≤ 5000) := fun i hi => fN_le hP hi
  have HNO : Hid (∀ i, i < L.length → fA L i = none → fN L i = 0 ∧ fC L i = 0) := fun i hi => px_none G hi
  have F := G.fri
  have hnn : ∀ i, i < L.length → fN L i ≤ 1048576 := fun i hi => Nat.le_trans (HN5.out i hi) (by decide)
  have HNN : Hid (∀ i, i < L.length → fN L i ≤ 1048576) := hnn
  obtain ⟨N, hNe⟩ : ∃ n, L.length = n := ⟨_, rfl⟩
  have HL : Hid (L.length = N) := hNe
  have SA := fun (w : World) (h : Fri w g 0 N (fA L) (fC L) (fW L) (fH L) (fN L) (fP L)) => specAdd_any (cq := c) h (by omega) (by rw [← HL.out]; exact HNN.out)
  have IA := fun (w : World) (h : Fri w g 0 N (fA L) (fC L) (fW L) (fH L) (fN L) (fP L)) => implAdd_any (cq := c) h (by omega) (by rw [← HL.out]; exact HNN.out)
  rw [hNe] at F hN ⊢
  have hN' : (N : Int) ≤ 110 := by omega
  clear hnn hP G hNe
  go_wp2_with fail
  refine (SA _ F).mono ?_
  rintro e w3 ⟨m0, l0, W0, H0, len0, f0, rfl, T0, ⟨v0, rfl, A0⟩, b3⟩
  obtain ⟨a0, c0, rfl, -⟩ := A0.src
  have HT0 : Hid (AdT N (fW L) (fH L) (fN L) (fP L) l0 W0 H0 len0 f0) := T0
  replace F := F.below b3
  replace B := B.trans (b3.mono B.size)
  clear A0 T0 b3 SA
  obtain ⟨w4, hw4, A4, b4, -⟩ := boxed w3 28 #[.int .i64 W0, .int .i64 H0, .slice a0 len0 c0]
  obtain ⟨q4, hq4⟩ : ∃ q, w3.heap.size = q := ⟨_, rfl⟩
  rw [hq4] at A4
  replace F := F.below b4
  replace B := B.trans (b4.mono B.size)
  obtain ⟨w5, hw5, A5, b5, -⟩ := boxed w4 28 #[]
  have G := Gf.start (B := w4.heap.size) A5 (Nat.le_refl _)
  obtain ⟨g5, hg5⟩ : ∃ q, w4.heap.size = q := ⟨_, rfl⟩
  have HG : Hid (Gf w5 w4.heap.size (.slice (some ⟨g5, 0, none⟩) 0 0) []) := by rw [hg5] at G ⊢; exact G
  have HB5 : Hid (Below w4.heap.size w4 w5) := b5
  clear G b4 b5 A5
  go_wp2_with fail
  clear hw4 hw5 hq4 hg5
  go_loopw [6, 7, 8] (fun s6 s7 s8 wr => ∃ (k : Nat) (L' : List FrD), k ≤ N ∧ s8 = .int .i64 ((N : Int) - 1 - (k : Int)) ∧ s7 = .int .i64 (aw L k) ∧ Hid (L'.length = k ∧ Rv L L' k) ∧ Gf wr w4.heap.size s6 L' ∧ Below w4.heap.size w4 wr) (fun _ _ s8 _ => (intOf s8 + 1).toNat)
  case atStart => exact ⟨0, [], Nat.zero_le _, by simp, rfl, ⟨rfl, fun j hj => absurd hj (Nat.not_lt_zero _)⟩, HG.out, HB5.out⟩
  case round =>
    clear HG HB5
    obtain ⟨k, L', hk, rfl, rfl, HR, G, bk⟩ := hrel
    obtain ⟨g6, c6, -, rfl, -, -, -, -, -⟩ := G.open
    by_cases hkN : k < N
    · obtain ⟨j, hj⟩ : ∃ j, N - 1 - k = j := ⟨_, rfl⟩
      have hjN : j < N := by omega
      have hj' : ((N : Int) - 1 - (k : Int)) = (j : Int) := by omega
      have HJ : Hid (L.length - 1 - k = j) := show _ = _ by rw [HL.out]; exact hj
      have hj0 : ¬ (j : Int) < 0 := by omega
      have hjp : (0 : Int) ≤ (j : Int) := by omega
      have hjlt : (j : Int) < (N : Int) := by omega
      have hjb : (j : Int) ≤ 110 := by omega
      have HKJ : Hid ((j : Int) - 1 = (N : Int) - 1 - ((k + 1 : Nat) : Int)) := show _ = _ by omega
      have HAW : Hid (aw L (k + 1) = IntKind.i64.wrap (aw L k + tw (fP L j) (fN L j))) := show _ = _ by rw [← HJ.out]; rfl
      obtain ⟨s7, hs7⟩ : ∃ s, aw L k = s := ⟨_, rfl⟩
      rw [hs7] at HAW
      rw [hs7, hj']
      clear hs7 hj' hj
      have Fw := F.below bk
      have hno := HNO.out j (by rw [HL.out]; exact hjN)
      have h5 := HN5.out j (by rw [HL.out]; exact hjN)
      have hl6 : L'.length ≤ 200 := by have := HR.out.1; omega
      obtain ⟨Wj, hWj⟩ : ∃ x, fW L j = x := ⟨_, rfl⟩
      obtain ⟨Hj, hHj⟩ : ∃ x, fH L j = x := ⟨_, rfl⟩
      obtain ⟨aj, haj⟩ : ∃ x, fA L j = x := ⟨_, rfl⟩
      obtain ⟨cj, hcj⟩ : ∃ x, fC L j = x := ⟨_, rfl⟩
      obtain ⟨nj, hnj⟩ : ∃ x, fN L j = x := ⟨_, rfl⟩
      have FO : ∀ wq, Kb w4 wq → wq.cell? ⟨g, j * 3, none⟩ = some (.int .i64 Wj) ∧ wq.cell? ⟨g, j * 3 + 1, none⟩ = some (.int .i64 Hj) ∧ wq.cell? ⟨g, j * 3 + 2, none⟩ = some (.slice aj nj cj) := fun wq hq => by
        rw [← hWj, ← hHj, ← haj, ← hcj, ← hnj]
        exact (F.below hq).open hjN
      have HFO : Hid (∀ wq, Kb w4 wq → wq.cell? ⟨g, j * 3, none⟩ = some (.int .i64 Wj) ∧ wq.cell? ⟨g, j * 3 + 1, none⟩ = some (.int .i64 Hj) ∧ wq.cell? ⟨g, j * 3 + 2, none⟩ = some (.slice aj nj cj)) := FO
      have HSR : Hid (∀ wq, Kb w4 wq → Src wq aj nj (fP L j)) := fun wq hq => by rw [← haj, ← hnj]; exact (F.below hq).src j hjN
      have HX : Hid (Wj = fW L (L.length - 1 - k) ∧ Hj = fH L (L.length - 1 - k) ∧ nj = fN L (L.length - 1 - k)) := ⟨by rw [HJ.out, hWj], by rw [HJ.out, hHj], by rw [HJ.out, hnj]⟩
      rw [haj, hnj, hcj] at hno
      rw [hnj] at h5 HAW
      clear hWj hHj haj hcj hnj FO Fw
      go_wp2_with fail
      obtain ⟨u0, hu0, bb⟩ : ∃ uu, wr.drew = uu ∧ Below wr.heap.size wr uu := ⟨_, rfl, (Below.refl _ _).drew⟩
      replace G := G.below bb
      replace bk : Kb w4 u0 := bk.trans (bb.mono bk.size)
      clear bb
      refine wp_region_held_drew (S := Kb w4) (by kernel_rfl) (by rw [hu0]; exact bk) (fun hHeld => ?_)
      rw [hu0] at hHeld ⊢
      clear hu0
      change wpAnyH _ _ _ _ _ 21 #[false, false, false, false, false, false, false, false, false, false, false, false, false, false, false, false, false, false, false, false, false] _ _
      refine wpAnyH_take (i := 0) (v := .slice ((some ⟨g6, 0, none⟩)) (L'.length) c6) rfl (by kernel_rfl) (by kernel_rfl) (by kernel_rfl) (fun _ _ _ h => h) (Or.inl ⟨by kernel_rfl, ?_⟩) hHeld ?_
      · intro w' hSw; go_simp
      try simp only [Act.put, List.setIfInBounds_toArray, List.set_cons_zero, List.set_cons_succ, List.getElem_toArray, List.getElem_cons_zero]
      refine wpAnyH_take (i := 1) (v := .slice ((some ⟨g, 0, none⟩)) N c) rfl (by kernel_rfl) (by kernel_rfl) (by kernel_rfl) (fun _ _ _ h => h) (Or.inl ⟨by kernel_rfl, ?_⟩) hHeld ?_
      · intro w' hSw; go_simp
      try simp only [Act.put, List.setIfInBounds_toArray, List.set_cons_zero, List.set_cons_succ, List.getElem_toArray, List.getElem_cons_succ, List.getElem_cons_zero]
      refine wpAnyH_take (i := 2) (v := .int .i64 ((j : Int))) rfl (by kernel_rfl) (by kernel_rfl) (by kernel_rfl) (fun _ _ _ h => h) (Or.inl ⟨by kernel_rfl, ?_⟩) hHeld ?_
      · intro w' hSw; go_simp
      try simp only [Act.put, List.setIfInBounds_toArray, List.set_cons_zero, List.set_cons_succ, List.getElem_toArray, List.getElem_cons_succ, List.getElem_cons_zero]
      refine wpAnyH_take (i := 3) (v := .pointer (some ⟨g, j * 3, none⟩)) rfl (by kernel_rfl) (by kernel_rfl) (by kernel_rfl) (fun _ _ _ h => h) (Or.inl ⟨by kernel_rfl, ?_⟩) hHeld ?_
      · intro w' hSw; go_simp
      try simp only [Act.put, List.setIfInBounds_toArray, List.set_cons_zero, List.set_cons_succ, List.getElem_toArray, List.getElem_cons_succ, List.getElem_cons_zero]
      refine wpAnyH_take (i := 4) (v := .pointer (some ⟨g, j * 3, none⟩)) rfl (by kernel_rfl) (by kernel_rfl) (by kernel_rfl) (fun _ _ _ h => h) (Or.inl ⟨by kernel_rfl, ?_⟩) hHeld ?_
      · intro w' hSw; go_simp
      try simp only [Act.put, List.setIfInBounds_toArray, List.set_cons_zero, List.set_cons_succ, List.getElem_toArray, List.getElem_cons_succ, List.getElem_cons_zero]
      refine wpAnyH_take (i := 5) (v := .int .i64 (Wj)) rfl (by kernel_rfl) (by kernel_rfl) (by kernel_rfl) (fun _ _ _ h => h) (Or.inl ⟨by kernel_rfl, ?_⟩) hHeld ?_
      · intro w' hSw; obtain ⟨z0, z1, z2⟩ := HFO.out _ hSw; go_simp
      try simp only [Act.put, List.setIfInBounds_toArray, List.set_cons_zero, List.set_cons_succ, List.getElem_toArray, List.getElem_cons_succ, List.getElem_cons_zero]
      refine wpAnyH_take (i := 6) (v := .slice ((some ⟨g, 0, none⟩)) N c) rfl (by kernel_rfl) (by kernel_rfl) (by kernel_rfl) (fun _ _ _ h => h) (Or.inl ⟨by kernel_rfl, ?_⟩) hHeld ?_
      · intro w' hSw; go_simp
      try simp only [Act.put, List.setIfInBounds_toArray, List.set_cons_zero, List.set_cons_succ, List.getElem_toArray, List.getElem_cons_succ, List.getElem_cons_zero]
      refine wpAnyH_take (i := 7) (v := .int .i64 ((j : Int))) rfl (by kernel_rfl) (by kernel_rfl) (by kernel_rfl) (fun _ _ _ h => h) (Or.inl ⟨by kernel_rfl, ?_⟩) hHeld ?_
      · intro w' hSw; go_simp
      try simp only [Act.put, List.setIfInBounds_toArray, List.set_cons_zero, List.set_cons_succ, List.getElem_toArray, List.getElem_cons_succ, List.getElem_cons_zero]
      refine wpAnyH_take (i := 8) (v := .pointer (some ⟨g, j * 3, none⟩)) rfl (by kernel_rfl) (by kernel_rfl) (by kernel_rfl) (fun _ _ _ h => h) (Or.inl ⟨by kernel_rfl, ?_⟩) hHeld ?_
      · intro w' hSw; go_simp
      try simp only [Act.put, List.setIfInBounds_toArray, List.set_cons_zero, List.set_cons_succ, List.getElem_toArray, List.getElem_cons_succ, List.getElem_cons_zero]
      refine wpAnyH_take (i := 9) (v := .pointer (some ⟨g, j * 3 + 1, none⟩)) rfl (by kernel_rfl) (by kernel_rfl) (by kernel_rfl) (fun _ _ _ h => h) (Or.inl ⟨by kernel_rfl, ?_⟩) hHeld ?_
      · intro w' hSw; go_simp
      try simp only [Act.put, List.setIfInBounds_toArray, List.set_cons_zero, List.set_cons_succ, List.getElem_toArray, List.getElem_cons_succ, List.getElem_cons_zero]
      refine wpAnyH_take (i := 10) (v := .int .i64 (Hj)) rfl (by kernel_rfl) (by kernel_rfl) (by kernel_rfl) (fun _ _ _ h => h) (Or.inl ⟨by kernel_rfl, ?_⟩) hHeld ?_
      · intro w' hSw; obtain ⟨z0, z1, z2⟩ := HFO.out _ hSw; go_simp
      try simp only [Act.put, List.setIfInBounds_toArray, List.set_cons_zero, List.set_cons_succ, List.getElem_toArray, List.getElem_cons_succ, List.getElem_cons_zero]
      refine wpAnyH_take (i := 11) (v := .slice ((some ⟨g, 0, none⟩)) N c) rfl (by kernel_rfl) (by kernel_rfl) (by kernel_rfl) (fun _ _ _ h => h) (Or.inl ⟨by kernel_rfl, ?_⟩) hHeld ?_
      · intro w' hSw; go_simp
      try simp only [Act.put, List.setIfInBounds_toArray, List.set_cons_zero, List.set_cons_succ, List.getElem_toArray, List.getElem_cons_succ, List.getElem_cons_zero]
      refine wpAnyH_take (i := 12) (v := .int .i64 ((j : Int))) rfl (by kernel_rfl) (by kernel_rfl) (by kernel_rfl) (fun _ _ _ h => h) (Or.inl ⟨by kernel_rfl, ?_⟩) hHeld ?_
      · intro w' hSw; go_simp
      try simp only [Act.put, List.setIfInBounds_toArray, List.set_cons_zero, List.set_cons_succ, List.getElem_toArray, List.getElem_cons_succ, List.getElem_cons_zero]
      refine wpAnyH_take (i := 13) (v := .pointer (some ⟨g, j * 3, none⟩)) rfl (by kernel_rfl) (by kernel_rfl) (by kernel_rfl) (fun _ _ _ h => h) (Or.inl ⟨by kernel_rfl, ?_⟩) hHeld ?_
      · intro w' hSw; go_simp
      try simp only [Act.put, List.setIfInBounds_toArray, List.set_cons_zero, List.set_cons_succ, List.getElem_toArray, List.getElem_cons_succ, List.getElem_cons_zero]
      refine wpAnyH_take (i := 14) (v := .pointer (some ⟨g, j * 3 + 2, none⟩)) rfl (by kernel_rfl) (by kernel_rfl) (by kernel_rfl) (fun _ _ _ h => h) (Or.inl ⟨by kernel_rfl, ?_⟩) hHeld ?_
      · intro w' hSw; go_simp
      try simp only [Act.put, List.setIfInBounds_toArray, List.set_cons_zero, List.set_cons_succ, List.getElem_toArray, List.getElem_cons_succ, List.getElem_cons_zero]
      refine wpAnyH_take (i := 15) (v := .slice aj nj cj) rfl (by kernel_rfl) (by kernel_rfl) (by kernel_rfl) (fun _ _ _ h => h) (Or.inl ⟨by kernel_rfl, ?_⟩) hHeld ?_
      · intro w' hSw; obtain ⟨z0, z1, z2⟩ := HFO.out _ hSw; go_simp
      try simp only [Act.put, List.setIfInBounds_toArray, List.set_cons_zero, List.set_cons_succ, List.getElem_toArray, List.getElem_cons_succ, List.getElem_cons_zero]
      refine wpAnyH_ready (rs := [16]) (by kernel_rfl) (by simp) ?_
      refine AllReadyH.cons rfl (fun KK hK' => ?_) AllReadyH.nil
      go_simp
      refine (intsS_any (HSR.out _ bk) hno (by omega)).mono ?_
      rintro e u1 ⟨g7, c7, rfl, ho, bb⟩
      replace G := G.below bb
      have hw4 := Nat.le_trans bk.size bb.size
      have hw0 := bk.size
      replace bk : Kb w4 u1 := bk.trans (bb.mono bk.size)
      replace ho := own_wide ho (B' := w4.heap.size) hw0
      clear bb
      try go_wp2_with fail
      clear hHeld
      refine hK'.out _ _ (bk) (fun hHeld => ?_)
      clear hK' KK
      try simp only [List.setIfInBounds_toArray, List.set_cons_zero, List.set_cons_succ]
      refine wpAnyH_take (i := 17) (v := .agg #[.int .i64 Wj, .int .i64 Hj, .slice (some ⟨g7, 0, none⟩) nj c7]) rfl (by kernel_rfl) (by kernel_rfl) (by kernel_rfl) (fun _ _ _ h => h) (Or.inl ⟨by kernel_rfl, ?_⟩) hHeld ?_
      · intro w' hSw; go_simp
      try simp only [Act.put, List.setIfInBounds_toArray, List.set_cons_zero, List.set_cons_succ, List.getElem_toArray, List.getElem_cons_succ, List.getElem_cons_zero]
      refine wpAnyH_ready (rs := [18]) (by kernel_rfl) (by simp) ?_
      refine AllReadyH.cons rfl (fun KK hK' => ?_) AllReadyH.nil
      have hb2 : ∀ w, (Instr.buildSlice 24 1 #[(0, .agg #[.int .i64 Wj, .int .i64 Hj, .slice (some ⟨g7, 0, none⟩) nj c7])]).run Try.prog w = .ok (.slice (some ⟨w.heap.size, 0, none⟩) 1 1) (w.alloc (.cells #[.int .i64 Wj, .int .i64 Hj, .slice (some ⟨g7, 0, none⟩) nj c7] 28)) := fun _ => by kernel_rfl
      go_simp
      obtain ⟨u2, hV8, A8, b8, -⟩ := boxed u1 28 #[.int .i64 Wj, .int .i64 Hj, .slice (some ⟨g7, 0, none⟩) nj c7]
      try rw [hV8]
      obtain ⟨g8, hg8⟩ : ∃ g, u1.heap.size = g := ⟨_, rfl⟩
      rw [hg8] at A8 ⊢
      replace G := G.below b8
      replace ho := own_below ho b8
      replace bk : Kb w4 u2 := bk.trans (b8.mono bk.size)
      have news := newsF (x := (Wj, Hj, .slice (some ⟨g7, 0, none⟩) nj c7, (List.range nj).map (fP L j))) A8
      clear b8 hV8 hg8 hb2 A8
      clear hHeld
      refine hK'.out _ _ (bk) (fun hHeld => ?_)
      clear hK' KK
      try simp only [List.setIfInBounds_toArray, List.set_cons_zero, List.set_cons_succ]
      refine wpAnyH_ready (rs := [19]) (by kernel_rfl) (by simp) ?_
      refine AllReadyH.cons rfl (fun KK hK' => ?_) AllReadyH.nil
      refine step_append_at _ (by rfl) _ _ _ (by rfl) w4.heap.size 28 i0 _ 3 40 Try.underlying24 hi0 hz0 hz1 hz2 rfl (by omega) (.slice (some ⟨g6, 0, none⟩) L'.length c6) L'.length (fCl L') (by rfl) G.own ⟨g8, 0, none⟩ 1 1 (fc (Wj, Hj, Value.slice (some ⟨g7, 0, none⟩) nj c7, (List.range nj).map (fP L j))) (by rfl) rfl news (fc_one _ (some ⟨g7, 0, none⟩) nj c7 rfl) (by unfold maxLen; omega) (by omega) G.o ?_
      intro v9 u3 hown hgrow hne _
      have HPL : Hid (((List.range nj).map (fP L j)).length = nj) := by show _ = _; simp
      have G7 : Gf u3 w4.heap.size v9 (L' ++ [(Wj, Hj, Value.slice (some ⟨g7, 0, none⟩) nj c7, (List.range nj).map (fP L j))]) := G.add (x := (Wj, Hj, Value.slice (some ⟨g7, 0, none⟩) nj c7, (List.range nj).map (fP L j))) (by show World.ownsRow _ _ _ _ _ ((List.range nj).map (fP L j)).length _; rw [HPL.out]; exact ho) hown hgrow (fun h => G.nn (hne.1 h).1)
      replace bk : Kb w4 u3 := bk.trans (Below.grown (Below.refl _ _) hgrow G.o (fun x hx => ownBlock_ge G.own hx))
      clear hown hgrow hne news ho G
      clear hHeld
      refine hK'.out _ _ (bk) (fun hHeld => ?_)
      clear hK' KK
      try simp only [List.setIfInBounds_toArray, List.set_cons_zero, List.set_cons_succ]
      refine wpAnyH_take (i := 20) (v := v9) rfl (by kernel_rfl) (by kernel_rfl) (by kernel_rfl) (fun _ _ _ h => h) (Or.inl ⟨by kernel_rfl, ?_⟩) hHeld ?_
      · intro w' hSw; go_simp
      try simp only [Act.put, List.setIfInBounds_toArray, List.set_cons_zero, List.set_cons_succ, List.getElem_toArray, List.getElem_cons_succ, List.getElem_cons_zero]
      refine wpAnyH_done (by kernel_rfl) ?_ _
      clear hHeld
      obtain ⟨d0, d1, d2⟩ := HFO.out _ bk
      go_wp2_with fail
      refine (total_any (HSR.out _ bk) (by omega)).mono ?_
      rintro e w12 ⟨rfl, rfl⟩
      clear d0 d1 d2
      obtain ⟨tt, htt⟩ : ∃ t, tw (fP L j) nj = t := ⟨_, rfl⟩
      rw [htt] at HAW ⊢
      clear htt
      go_wp2
      refine ⟨⟨k + 1, _, by omega, by rw [← HKJ.out], by rw [HAW.out, IntWalk.i64_left], ⟨by rw [List.length_append, List.length_singleton, HR.out.1], rv_add HR.out.2 HR.out.1 ⟨HX.out.1, HX.out.2.1, by rw [HPL.out]; exact HX.out.2.2, fun i hi => ?_⟩⟩, G7, bk⟩, by simp [intOf] <;> omega⟩
      have hi : i < nj := by rw [HPL.out] at hi; exact hi
      show ((List.range nj).map (fP L j)).getD i 0 = _
      rw [HJ.out]
      simp [hi]
    · obtain rfl : k = N := by omega
      have hneg : ((k : Int) - 1 - (k : Int)) = -1 := by omega
      have F2 := F.below bk
      obtain ⟨hl', hrv⟩ := HR.out
      have HRV : Hid (Rv L L' L.length) := show Rv _ _ _ by rw [HL.out]; exact hrv
      have HLL : Hid (L'.length = L.length) := show _ = _ by rw [HL.out]; exact hl'
      have hN5' : ∀ i, i < L'.length → fN L' i ≤ 1048576 := fun i hi => by
        rw [(hrv i (by omega)).2.2.1]
        exact HNN.out _ (by rw [HL.out]; omega)
      obtain ⟨aL, haL⟩ : ∃ x, aw L k = x := ⟨_, rfl⟩
      have HAL : Hid (aw L L.length = aL) := show _ = _ by rw [HL.out]; exact haL
      rw [hneg, haL]
      have hl6 : L'.length ≤ 1048576 := by omega
      clear hneg haL HR hrv hl'
      replace B := B.trans (bk.mono B.size)
      have A4k := A4.below bk
      clear A4
      go_wp2_with fail
      refine (IA _ F2).mono ?_
      rintro e w6 ⟨m1, l1, W1, H1, len1, f1, rfl, T1, ⟨v1, rfl, A1⟩, b6⟩
      obtain ⟨rfl, rfl, rfl, rfl, hf⟩ := AdT.same T1 HT0.out
      clear HT0 hf
      obtain ⟨a1, c1, rfl, S1⟩ := A1.src
      have HT1 : Hid (AdT k (fW L) (fH L) (fN L) (fP L) l1 W1 H1 len1 f1) := T1
      replace G := G.below b6
      replace A4k := A4k.below b6
      replace B := B.trans (b6.mono B.size)
      clear b6 A1 T1 IA F2
      obtain ⟨w7, hw7, A7, b7, -⟩ := boxed w6 28 #[.int .i64 W1, .int .i64 H1, .slice a1 len1 c1]
      obtain ⟨q7, hq7⟩ : ∃ q, w6.heap.size = q := ⟨_, rfl⟩
      rw [hq7] at A7
      replace G := G.below b7
      replace A4k := A4k.below b7
      replace S1 := S1.below b7
      replace B := B.trans (b7.mono B.size)
      clear b7
      go_wp2_with fail
      clear hw7 hq7
      refine (implAdd_any G.fri hl6 hN5').mono ?_
      rintro e w8 ⟨m2, l2, W2, H2, len2, f2, rfl, T2, ⟨v2, rfl, A2⟩, b8⟩
      obtain ⟨rfl, rfl, rfl, rfl, hf⟩ := AdT.same (rv_adt HRV.out HLL.out T2) (by rw [HL.out]; exact HT1.out)
      have HF : Hid (∀ i, i < len2 → f2 i = f1 i) := hf
      obtain ⟨a2, c2, rfl, S2⟩ := A2.src
      replace A7 := A7.below b8
      replace A4k := A4k.below b8
      replace S1 := S1.below b8
      replace B := B.trans (b8.mono B.size)
      clear b8 A2 T2 G hf
      obtain ⟨w9, hw9, A9, b9, -⟩ := boxed w8 28 #[.int .i64 W2, .int .i64 H2, .slice a2 len2 c2]
      obtain ⟨q9, hq9⟩ : ∃ q, w8.heap.size = q := ⟨_, rfl⟩
      rw [hq9] at A9
      replace A7 := A7.below b9
      replace A4k := A4k.below b9
      replace S1 := S1.below b9
      replace S2 := S2.below b9
      replace B := B.trans (b9.mono B.size)
      clear b9
      have hlen : len2 ≤ 1048576 := AdT.le HT1.out (by rw [← HL.out]; exact HNN.out)
      obtain ⟨x0, x1, x2, -⟩ := A4k.open3
      obtain ⟨y0, y1, y2, -⟩ := A7.open3
      obtain ⟨z0, z1, z2, -⟩ := A9.open3
      have e1 := bne_self_eq_false W2
      have e2 := bne_self_eq_false H2
      have e3 := bne_self_eq_false l2
      go_wp2_with fail
      clear hw9 hq9 x0 x1 x2 y0 y1 y2 z0 z1 z2
      refine (sameS_any S1 S2 (fun i hi => (HF.out i hi).symm) hlen).mono ?_
      rintro e w10 ⟨rfl, b10⟩
      replace A7 := A7.below b10
      replace A4k := A4k.below b10
      replace S1 := S1.below b10
      replace B := B.trans (b10.mono B.size)
      clear b10 e1 e2 e3 S2 A9
      obtain ⟨x0, x1, x2, -⟩ := A4k.open3
      obtain ⟨y0, y1, y2, -⟩ := A7.open3
      by_cases hal : alk L.length (fW L) (fH L) (fN L) (fP L)
      · have T9 : AdT L.length (fW L) (fH L) (fN L) (fP L) l2 W2 H2 len2 f1 := by rw [HL.out]; exact HT1.out
        obtain ⟨⟨t1, t2⟩, ⟨t3, t4⟩, t5⟩ := tot_is T9 hal HN5.out
        rw [HAL.out] at t5
        have hW : (W2 == 0) = false := by
          rcases T9 with ⟨q1, -, q2, -⟩ | ⟨q, -⟩
          · have := (q1.2.2 0 (by have := q1.1; omega)).1.1
            rw [beq_eq_false_iff_ne]
            omega
          · exact absurd hal q
        clear hal T9 HT1
        go_wp2_with fail
        refine (total_any S1 hlen).mono ?_
        rintro e w11 ⟨rfl, rfl⟩
        obtain ⟨tt, htt⟩ : ∃ t, tw f1 len2 = t := ⟨_, rfl⟩
        rw [htt] at t1 t2 t5 ⊢
        have t6 : (tt + l2 == aL) = true := by simp [t5]
        clear htt t5
        go_wp2
        go_ret
        exact ⟨rfl, B⟩
      · have hW : W2 = 0 := by
          rcases HT1.out with ⟨q, -⟩ | ⟨-, -, q, -⟩
          · exact absurd (by rw [HL.out]; exact q) hal
          · exact q
        have hW' : (W2 == 0) = true := by simp [hW]
        clear hW hal HT1
        go_wp2
        go_ret
        exact ⟨rfl, B⟩
end Go.Proofs.Ytlofbgkefalpoaa
