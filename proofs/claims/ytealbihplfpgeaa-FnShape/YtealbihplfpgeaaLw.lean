/-
  The law of shapes, drawn: walked.
-/
import Derived.Test.YtealbihplfpgeaaLd
import Derived.Test.YtealbihplfpgeaaJc
namespace Go.Proofs.Ytealbihplfpgeaa
open Go.RowKit Go.Shelf Go.Sort Go.Lib

theorem least_is {fo : Nat → Int} : ∀ {m : Nat}, 0 < m → (∀ j, j < m → 0 < fo (j * 3 + 2)) → ∃ r, Least fo m r
  | 0, h, _ => absurd h (Nat.lt_irrefl _)
  | 1, _, _ => ⟨0, Least.first fo⟩
  | m + 2, _, hp => by
    obtain ⟨r, hr⟩ := least_is (m := m + 1) (by omega) (fun j hj => hp j (by omega))
    by_cases c : cC fo (m + 1) r < 0
    · exact ⟨_, hr.upd (fun j hj => hp j (by omega)) c⟩
    · exact ⟨_, hr.stay c⟩
theorem corT_is {n : Nat} {f : Nat → Int} (S : SOk n f) : ∃ F, CorT f n (shl f n).length F := by
  have q0 := sI_in (f := f) (n := n) (shl_pos S)
  obtain ⟨r, hr⟩ := least_is (fo := fun j => (tris f (sqP f n (sI f n 0) (shl f n).length)).getD j 0) (shl_pos S) (fun j hj => by
    have hj' : j < (sqP f n (sI f n 0) (shl f n).length).length := by rw [sqP_len]; exact hj
    obtain ⟨-, -, e3⟩ := tris_get f _ j hj'
    have e4 : (sqP f n (sI f n 0) (shl f n).length)[j] = cq f n (sI f n 0) j := by simp [sqP, cq]
    show 0 < (tris f (sqP f n (sI f n 0) (shl f n).length)).getD (j * 3 + 2) 0
    rw [e3, e4]
    exact (corner_red (S.cqIn q0.1 q0.2 j)).2)
  exact ⟨_, .inl ⟨S, rfl, r, hr, rfl⟩⟩
theorem sh_iff {n : Nat} {f : Nat → Int} {k : Nat} (hk : k < n) : (∃ j, j < (shl f n).length ∧ sI f n j = k) ↔ Sh f n k :=
  ⟨fun ⟨j, hj, e⟩ => by rw [← e]; exact (sI_in hj).2, fun h => sI_all hk h⟩
/-- What is drawn: at most 17 facets in memory of their own. -/
def DrawnT (w : World) (e : Ending) (w' : World) : Prop := ∃ g c m fo, e = .returned (.slice (some ⟨g, 0, none⟩) m c) ∧ m ≤ 17 ∧ LF w' g c m fo ∧ Below w.heap.size w w'
set_option maxRecDepth 100000 in
theorem drawShows_any {w : World} {a : Option Addr} {len cap : Nat} (hr : Row w w.heap.size a len) :
    Calls Try.prog 9 #[.slice a len cap] w fun e w' => DrawnT w e w' := by
  have H : Calls Try.prog 31 #[.slice a len cap] w fun e w' => DrawnT w e w' := by
    go_enter Try.func31, Try.ntmps31
    go_wp2_with fail
    refine (new_any hr).mono ?_
    rintro e w1 ⟨rfl, hb1, hc⟩
    replace hc := Dr.start hc
    have hsz := hb1.size
    obtain ⟨p, hp⟩ : ∃ p, w.heap.size = p := ⟨_, rfl⟩
    rw [hp] at hc ⊢
    go_wp2_with fail
    refine (drawAny_any hc).mono ?_
    rintro e w2 ⟨g, c, m, fo, rfl, hm, hg, F, dr⟩
    have HB : Below w.heap.size w w2 := hb1.trans (dr.1.below (by omega) hsz)
    go_wp2
    go_ret
    exact ⟨g, c, m, fo, rfl, hm, F, HB⟩
  go_enter Try.func9, Try.ntmps9
  go_wp2_with fail
  refine H.mono ?_
  rintro e w2 ⟨g, c, m, fo, rfl, hm, F, HB⟩
  go_wp2
  go_ret
  exact ⟨g, c, m, fo, rfl, hm, F, HB⟩
set_option maxRecDepth 100000 in
set_option maxHeartbeats 8000000 in
theorem shape_walk {w : World} {a : Option Addr} {len cap : Nat} (hr : Row w w.heap.size a len) :
    Calls Try.prog 3 #[.slice a len cap] w fun e w' => e = .returned (.bool true) ∧ Below w.heap.size w w' := by
  go_enter Try.func3, Try.ntmps3
  go_wp2_with fail
  refine (big_any a len cap _ hr.1).mono ?_
  rintro e w1 ⟨rfl, rfl⟩
  by_cases hbig : 1048576 < len
  · rw [decide_eq_true hbig]
    go_wp2
    go_ret
    exact ⟨rfl, Below.refl _ _⟩
  rw [decide_eq_false hbig]
  go_wp2_with fail
  refine (drawShows_any hr).mono ?_
  rintro e w2 ⟨g, c, m, f, rfl, hm, F0, B⟩
  have L := F0.trips
  have hmc := F0.1
  clear F0
  by_cases S : SOk m f
  case neg =>
    go_wp2_with fail
    refine (specShape_any L (by omega) false ⟨(fun h => by cases h), fun h => absurd h S⟩).mono ?_
    rintro e w3 ⟨rfl, b3⟩
    replace L := L.below b3
    replace B := B.trans (b3.mono B.size)
    go_wp2_with fail
    refine (implShows_no S L hmc (by omega)).mono ?_
    rintro e w4 ⟨v, rfl, G⟩
    obtain ⟨x, y, rfl, -, -⟩ := (G.ark (K := 1) rfl).ls
    replace B := B.trans (G.b.mono B.size)
    go_wp2
    go_ret
    exact ⟨rfl, B⟩
  have HS : Hid (SOk m f) := S
  obtain ⟨F, hT⟩ := corT_is S
  have hM3 := S.three
  have HC := S.counts
  have hsh := fun k (hk : k < m) => sh_iff (f := f) (n := m) hk
  have hij := fun i j (h1 : i < j) (h2 : j < (shl f m).length) => sI_inj (f := f) (n := m) h2 h1
  have hsm := shTo_le f m m
  have IS := fun (w : World) (g c : Nat) (h : Trips w g m f) (hc : m ≤ c) => implShows_yes S HC h hc
  have TS := fun (w0 w : World) (B : Nat) (v : Value) (s : Gat w0 w B 2 1 v (shl f m).length (toI (shl f m))) => s.shAt
  have CT := fun i (hi : i < (shl f m).length) => hT.two S hi
  have CB := fun i (hi : i < (shl f m).length) => hT.bound S hi
  obtain ⟨M, hM⟩ : ∃ M, (shl f m).length = M := ⟨_, rfl⟩
  have hsm : (shl f m).length ≤ m := hsm
  rw [hM] at hT hM3 hsh hij hsm IS TS CT CB
  have HT : Hid (CorT f m M F) := hT
  have HSH : Hid (∀ k, k < m → ((∃ j, j < M ∧ sI f m j = k) ↔ Sh f m k)) := hsh
  have HIJ : Hid (∀ i j, i < j → j < M → sI f m i ≠ sI f m j) := hij
  have HCT : Hid (∀ i, i < M → cntP (onS f m (F (i * 3)) (F (i * 3 + 1)) (F (i * 3 + 2))) m = 2 ∧ (0 < F (i * 3 + 2)) ∧ ∀ k, k < m → outT (f (k * 3)) (f (k * 3 + 1)) (f (k * 3 + 2)) (F (i * 3)) (F (i * 3 + 1)) (F (i * 3 + 2)) ≤ 0) := CT
  have HCB : Hid (∀ i, i < M → (-100000 ≤ F (i * 3) ∧ F (i * 3) ≤ 100000) ∧ (-100000 ≤ F (i * 3 + 1) ∧ F (i * 3 + 1) ≤ 100000) ∧ (-5000 ≤ F (i * 3 + 2) ∧ F (i * 3 + 2) ≤ 5000)) := CB
  clear hT hsh hij CT CB hM HC
  have hM3' : ¬ (M : Int) < 3 := by omega
  have hMb : ((M : Int) != (M : Int)) = false := bne_self_eq_false _
  have hm' : (m : Int) ≤ 17 := by omega
  have hM' : (M : Int) ≤ 17 := by omega
  go_wp2_with fail
  refine (specShape_any L (by omega) true ⟨fun _ => HS.out, fun _ => rfl⟩).mono ?_
  rintro e w3 ⟨rfl, b3⟩
  replace L := L.below b3
  replace B := B.trans (b3.mono B.size)
  clear b3
  go_wp2_with fail
  refine (copyFacets_any L (by omega)).mono ?_
  rintro e w4 ⟨⟨g4, c4, rfl, hc4, L4⟩, b4⟩
  replace L := L.below b4
  replace B := B.trans (b4.mono B.size)
  clear b4
  go_wp2_with fail
  refine (IS _ _ _ L4 hc4).mono ?_
  rintro e w5 ⟨v, rfl, G⟩
  obtain ⟨gs, cs, hv, -, T⟩ := TS _ _ _ _ G
  subst hv
  replace L := L.below G.b
  replace B := B.trans (G.b.mono B.size)
  clear G L4 hc4 IS TS
  go_wp2_with fail
  refine (copyFacets_any L (by omega)).mono ?_
  rintro e w6 ⟨⟨g6, c6, rfl, hc6, L6⟩, b6⟩
  replace L := L.below b6
  replace T := T.below b6
  replace B := B.trans (b6.mono B.size)
  clear b6
  go_wp2_with fail
  refine (implCorners_any L6 hc6 (by omega) HT).mono ?_
  rintro e w7 ⟨v, rfl, A, b7⟩
  obtain ⟨gc0, cc, rfl, -, C0⟩ := A.ls
  obtain ⟨gc, rfl, C⟩ := C0.some (k := 0) (by omega)
  replace L := L.below b7
  replace T := T.below b7
  replace B := B.trans (b7.mono B.size)
  clear b7 C0 A L6 hc6 HT
  go_wp2_with fail
  clear hMb hM3'
  go_loopw [6] (fun s6 wr => ∃ i : Nat, i ≤ M ∧ s6 = .int .i64 (i : Int) ∧ Below w7.heap.size w7 wr) (fun s6 _ => M - (intOf s6).toNat)
  case atStart => exact ⟨0, Nat.zero_le _, rfl, Below.refl _ _⟩
  case round =>
    obtain ⟨i, hi', rfl, bi⟩ := hrel
    by_cases hi : i < M
    · have hilt : (i : Int) < (M : Int) := by omega
      obtain ⟨h2, hD, hle⟩ := HCT.out i hi
      obtain ⟨x0, x1, x2⟩ := HCB.out i hi
      obtain ⟨z0, z1, z2⟩ := Corner.open (C.below bi) i hi
      have hD1 : ¬ F (i * 3 + 2) < 1 := by omega
      obtain ⟨P, hP⟩ : ∃ P, onS f m (F (i * 3)) (F (i * 3 + 1)) (F (i * 3 + 2)) = P := ⟨_, rfl⟩
      have HP : Hid (∀ k, P k = true ↔ Sh f m k ∧ outT (f (k * 3)) (f (k * 3 + 1)) (f (k * 3 + 2)) (F (i * 3)) (F (i * 3 + 1)) (F (i * 3 + 2)) = 0) := show ∀ k, _ from fun k => by rw [← hP]; exact onS_iff
      rw [hP] at h2
      have H2 : Hid (cntP P m = 2) := h2
      have HLE : Hid (∀ k, k < m → outT (f (k * 3)) (f (k * 3 + 1)) (f (k * 3 + 2)) (F (i * 3)) (F (i * 3 + 1)) (F (i * 3 + 2)) ≤ 0) := hle
      clear hP h2 hle hD
      go_wp2_with fail
      clear z0 z1 z2 hD1
      go_loopw [7, 8] (fun s7 s8 wr => ∃ k : Nat, k ≤ m ∧ s7 = .int .i64 ((cntP P k : Nat) : Int) ∧ s8 = .int .i64 (k : Int) ∧ Below w7.heap.size w7 wr) (fun _ s8 _ => m - (intOf s8).toNat)
      case atStart => exact ⟨0, Nat.zero_le _, rfl, rfl, bi⟩
      case round =>
        obtain ⟨k, hk', rfl, rfl, bk⟩ := hrel
        by_cases hk : k < m
        · have hklt : (k : Int) < (m : Int) := by omega
          have rk := Rt.in (HS.out.right k hk)
          have y0 : -50 ≤ f (k * 3) ∧ f (k * 3) ≤ 50 := rk.1
          have y1 : -50 ≤ f (k * 3 + 1) ∧ f (k * 3 + 1) ≤ 50 := rk.2.1
          have y2 : -1000 ≤ f (k * 3 + 2) ∧ f (k * 3 + 2) ≤ 1000 := by have := rk.2.2; omega
          have mb1 := mul_bound y0 x0
          have mb2 := mul_bound y1 x1
          have mb3 := mul_bound y2 x2
          have hd := HLE.out k hk
          have HD : Hid (outT (f (k * 3)) (f (k * 3 + 1)) (f (k * 3 + 2)) (F (i * 3)) (F (i * 3 + 1)) (F (i * 3 + 2)) = f (k * 3) * F (i * 3) + f (k * 3 + 1) * F (i * 3 + 1) - f (k * 3 + 2) * F (i * 3 + 2)) := rfl
          rw [HD.out] at hd
          have mw1 : IntKind.i64.wrap (f (k * 3) * F (i * 3)) = f (k * 3) * F (i * 3) := IntWalk.i64_in _ (by omega)
          have mw2 : IntKind.i64.wrap (f (k * 3 + 1) * F (i * 3 + 1)) = f (k * 3 + 1) * F (i * 3 + 1) := IntWalk.i64_in _ (by omega)
          have mw3 : IntKind.i64.wrap (f (k * 3 + 2) * F (i * 3 + 2)) = f (k * 3 + 2) * F (i * 3 + 2) := IntWalk.i64_in _ (by omega)
          obtain ⟨m1, mq1⟩ : ∃ m, f (k * 3) * F (i * 3) = m := ⟨_, rfl⟩
          obtain ⟨m2, mq2⟩ : ∃ m, f (k * 3 + 1) * F (i * 3 + 1) = m := ⟨_, rfl⟩
          obtain ⟨m3, mq3⟩ : ∃ m, f (k * 3 + 2) * F (i * 3 + 2) = m := ⟨_, rfl⟩
          rw [mq1] at mw1 mb1
          rw [mq2] at mw2 mb2
          rw [mq3] at mw3 mb3
          rw [mq1, mq2, mq3] at hd HD
          have mw4 : IntKind.i64.wrap (m1 + m2) = m1 + m2 := IntWalk.i64_in _ (by omega)
          obtain ⟨m4, mq4⟩ : ∃ m, m1 + m2 = m := ⟨_, rfl⟩
          rw [mq4] at mw4 hd HD
          have mw5 : IntKind.i64.wrap (m4 - m3) = m4 - m3 := IntWalk.i64_in _ (by omega)
          obtain ⟨d, mq5⟩ : ∃ m, m4 - m3 = m := ⟨_, rfl⟩
          rw [mq5] at mw5 hd HD
          have hd' : ¬ 0 < d := by omega
          have L9 := L.below bk
          have C9 := C.below bk
          clear mb1 mb2 mb3 rk y0 y1 y2 hd
          go_wp2_with fail
          obtain ⟨u0, hu0, bb⟩ : ∃ uu, wr.drew = uu ∧ Below wr.heap.size wr uu := ⟨_, rfl, (Below.refl _ _).drew⟩
          replace L9 := L9.below bb
          replace C9 := C9.below bb
          replace bk := bk.trans (bb.mono bk.size)
          clear bb
          refine wp_region_held_drew (S := Kb u0) (by kernel_rfl) (by rw [hu0]; exact Below.refl _ _) (fun hHeld => ?_)
          rw [hu0] at hHeld ⊢
          clear hu0
          have bu : Kb u0 u0 := Below.refl _ _
          change wpAnyH _ _ _ _ _ 36 #[false, false, false, false, false, false, false, false, false, false, false, false, false, false, false, false, false, false, false, false, false, false, false, false, false, false, false, false, false, false, false, false, false, false, false, false] _ _
          refine wpAnyH_take (i := 0) (v := .slice ((some ⟨g, 0, none⟩)) m c) rfl (by kernel_rfl) (by kernel_rfl) (by kernel_rfl) (fun _ _ _ h => h) (Or.inl ⟨by kernel_rfl, ?_⟩) hHeld ?_
          · intro w' hSw; go_simp
          try simp only [Act.put, List.setIfInBounds_toArray, List.set_cons_zero, List.set_cons_succ, List.getElem_toArray, List.getElem_cons_zero]
          refine wpAnyH_take (i := 1) (v := .int .i64 ((k : Int))) rfl (by kernel_rfl) (by kernel_rfl) (by kernel_rfl) (fun _ _ _ h => h) (Or.inl ⟨by kernel_rfl, ?_⟩) hHeld ?_
          · intro w' hSw; go_simp
          try simp only [Act.put, List.setIfInBounds_toArray, List.set_cons_zero, List.set_cons_succ, List.getElem_toArray, List.getElem_cons_succ, List.getElem_cons_zero]
          refine wpAnyH_take (i := 2) (v := .pointer (some ⟨g, k * 3, none⟩)) rfl (by kernel_rfl) (by kernel_rfl) (by kernel_rfl) (fun _ _ _ h => h) (Or.inl ⟨by kernel_rfl, ?_⟩) hHeld ?_
          · intro w' hSw; go_simp
          try simp only [Act.put, List.setIfInBounds_toArray, List.set_cons_zero, List.set_cons_succ, List.getElem_toArray, List.getElem_cons_succ, List.getElem_cons_zero]
          refine wpAnyH_take (i := 3) (v := .pointer (some ⟨g, k * 3, none⟩)) rfl (by kernel_rfl) (by kernel_rfl) (by kernel_rfl) (fun _ _ _ h => h) (Or.inl ⟨by kernel_rfl, ?_⟩) hHeld ?_
          · intro w' hSw; go_simp
          try simp only [Act.put, List.setIfInBounds_toArray, List.set_cons_zero, List.set_cons_succ, List.getElem_toArray, List.getElem_cons_succ, List.getElem_cons_zero]
          refine wpAnyH_take (i := 4) (v := .int .i64 (f (k * 3))) rfl (by kernel_rfl) (by kernel_rfl) (by kernel_rfl) (fun _ _ _ h => h) (Or.inl ⟨by kernel_rfl, ?_⟩) hHeld ?_
          · intro w' hSw; obtain ⟨z0, z1, z2⟩ := Trips.open (L9.below hSw) k hk; go_simp
          try simp only [Act.put, List.setIfInBounds_toArray, List.set_cons_zero, List.set_cons_succ, List.getElem_toArray, List.getElem_cons_succ, List.getElem_cons_zero]
          refine wpAnyH_take (i := 5) (v := .slice ((some ⟨gc, 0, none⟩)) M cc) rfl (by kernel_rfl) (by kernel_rfl) (by kernel_rfl) (fun _ _ _ h => h) (Or.inl ⟨by kernel_rfl, ?_⟩) hHeld ?_
          · intro w' hSw; go_simp
          try simp only [Act.put, List.setIfInBounds_toArray, List.set_cons_zero, List.set_cons_succ, List.getElem_toArray, List.getElem_cons_succ, List.getElem_cons_zero]
          refine wpAnyH_take (i := 6) (v := .int .i64 ((i : Int))) rfl (by kernel_rfl) (by kernel_rfl) (by kernel_rfl) (fun _ _ _ h => h) (Or.inl ⟨by kernel_rfl, ?_⟩) hHeld ?_
          · intro w' hSw; go_simp
          try simp only [Act.put, List.setIfInBounds_toArray, List.set_cons_zero, List.set_cons_succ, List.getElem_toArray, List.getElem_cons_succ, List.getElem_cons_zero]
          refine wpAnyH_take (i := 7) (v := .pointer (some ⟨gc, i * 3, none⟩)) rfl (by kernel_rfl) (by kernel_rfl) (by kernel_rfl) (fun _ _ _ h => h) (Or.inl ⟨by kernel_rfl, ?_⟩) hHeld ?_
          · intro w' hSw; go_simp
          try simp only [Act.put, List.setIfInBounds_toArray, List.set_cons_zero, List.set_cons_succ, List.getElem_toArray, List.getElem_cons_succ, List.getElem_cons_zero]
          refine wpAnyH_take (i := 8) (v := .pointer (some ⟨gc, i * 3, none⟩)) rfl (by kernel_rfl) (by kernel_rfl) (by kernel_rfl) (fun _ _ _ h => h) (Or.inl ⟨by kernel_rfl, ?_⟩) hHeld ?_
          · intro w' hSw; go_simp
          try simp only [Act.put, List.setIfInBounds_toArray, List.set_cons_zero, List.set_cons_succ, List.getElem_toArray, List.getElem_cons_succ, List.getElem_cons_zero]
          refine wpAnyH_take (i := 9) (v := .int .i64 (F (i * 3))) rfl (by kernel_rfl) (by kernel_rfl) (by kernel_rfl) (fun _ _ _ h => h) (Or.inl ⟨by kernel_rfl, ?_⟩) hHeld ?_
          · intro w' hSw; obtain ⟨z0, z1, z2⟩ := Corner.open (C9.below hSw) i hi; go_simp
          try simp only [Act.put, List.setIfInBounds_toArray, List.set_cons_zero, List.set_cons_succ, List.getElem_toArray, List.getElem_cons_succ, List.getElem_cons_zero]
          refine wpAnyH_take (i := 10) (v := .int .i64 (m1)) rfl (by kernel_rfl) (by kernel_rfl) (by kernel_rfl) (fun _ _ _ h => h) (Or.inl ⟨by kernel_rfl, ?_⟩) hHeld ?_
          · intro w' hSw; go_simp
          try simp only [Act.put, List.setIfInBounds_toArray, List.set_cons_zero, List.set_cons_succ, List.getElem_toArray, List.getElem_cons_succ, List.getElem_cons_zero]
          refine wpAnyH_take (i := 11) (v := .slice ((some ⟨g, 0, none⟩)) m c) rfl (by kernel_rfl) (by kernel_rfl) (by kernel_rfl) (fun _ _ _ h => h) (Or.inl ⟨by kernel_rfl, ?_⟩) hHeld ?_
          · intro w' hSw; go_simp
          try simp only [Act.put, List.setIfInBounds_toArray, List.set_cons_zero, List.set_cons_succ, List.getElem_toArray, List.getElem_cons_succ, List.getElem_cons_zero]
          refine wpAnyH_take (i := 12) (v := .int .i64 ((k : Int))) rfl (by kernel_rfl) (by kernel_rfl) (by kernel_rfl) (fun _ _ _ h => h) (Or.inl ⟨by kernel_rfl, ?_⟩) hHeld ?_
          · intro w' hSw; go_simp
          try simp only [Act.put, List.setIfInBounds_toArray, List.set_cons_zero, List.set_cons_succ, List.getElem_toArray, List.getElem_cons_succ, List.getElem_cons_zero]
          refine wpAnyH_take (i := 13) (v := .pointer (some ⟨g, k * 3, none⟩)) rfl (by kernel_rfl) (by kernel_rfl) (by kernel_rfl) (fun _ _ _ h => h) (Or.inl ⟨by kernel_rfl, ?_⟩) hHeld ?_
          · intro w' hSw; go_simp
          try simp only [Act.put, List.setIfInBounds_toArray, List.set_cons_zero, List.set_cons_succ, List.getElem_toArray, List.getElem_cons_succ, List.getElem_cons_zero]
          refine wpAnyH_take (i := 14) (v := .pointer (some ⟨g, k * 3 + 1, none⟩)) rfl (by kernel_rfl) (by kernel_rfl) (by kernel_rfl) (fun _ _ _ h => h) (Or.inl ⟨by kernel_rfl, ?_⟩) hHeld ?_
          · intro w' hSw; go_simp
          try simp only [Act.put, List.setIfInBounds_toArray, List.set_cons_zero, List.set_cons_succ, List.getElem_toArray, List.getElem_cons_succ, List.getElem_cons_zero]
          refine wpAnyH_take (i := 15) (v := .int .i64 (f (k * 3 + 1))) rfl (by kernel_rfl) (by kernel_rfl) (by kernel_rfl) (fun _ _ _ h => h) (Or.inl ⟨by kernel_rfl, ?_⟩) hHeld ?_
          · intro w' hSw; obtain ⟨z0, z1, z2⟩ := Trips.open (L9.below hSw) k hk; go_simp
          try simp only [Act.put, List.setIfInBounds_toArray, List.set_cons_zero, List.set_cons_succ, List.getElem_toArray, List.getElem_cons_succ, List.getElem_cons_zero]
          refine wpAnyH_take (i := 16) (v := .slice ((some ⟨gc, 0, none⟩)) M cc) rfl (by kernel_rfl) (by kernel_rfl) (by kernel_rfl) (fun _ _ _ h => h) (Or.inl ⟨by kernel_rfl, ?_⟩) hHeld ?_
          · intro w' hSw; go_simp
          try simp only [Act.put, List.setIfInBounds_toArray, List.set_cons_zero, List.set_cons_succ, List.getElem_toArray, List.getElem_cons_succ, List.getElem_cons_zero]
          refine wpAnyH_take (i := 17) (v := .int .i64 ((i : Int))) rfl (by kernel_rfl) (by kernel_rfl) (by kernel_rfl) (fun _ _ _ h => h) (Or.inl ⟨by kernel_rfl, ?_⟩) hHeld ?_
          · intro w' hSw; go_simp
          try simp only [Act.put, List.setIfInBounds_toArray, List.set_cons_zero, List.set_cons_succ, List.getElem_toArray, List.getElem_cons_succ, List.getElem_cons_zero]
          refine wpAnyH_take (i := 18) (v := .pointer (some ⟨gc, i * 3, none⟩)) rfl (by kernel_rfl) (by kernel_rfl) (by kernel_rfl) (fun _ _ _ h => h) (Or.inl ⟨by kernel_rfl, ?_⟩) hHeld ?_
          · intro w' hSw; go_simp
          try simp only [Act.put, List.setIfInBounds_toArray, List.set_cons_zero, List.set_cons_succ, List.getElem_toArray, List.getElem_cons_succ, List.getElem_cons_zero]
          refine wpAnyH_take (i := 19) (v := .pointer (some ⟨gc, i * 3 + 1, none⟩)) rfl (by kernel_rfl) (by kernel_rfl) (by kernel_rfl) (fun _ _ _ h => h) (Or.inl ⟨by kernel_rfl, ?_⟩) hHeld ?_
          · intro w' hSw; go_simp
          try simp only [Act.put, List.setIfInBounds_toArray, List.set_cons_zero, List.set_cons_succ, List.getElem_toArray, List.getElem_cons_succ, List.getElem_cons_zero]
          refine wpAnyH_take (i := 20) (v := .int .i64 (F (i * 3 + 1))) rfl (by kernel_rfl) (by kernel_rfl) (by kernel_rfl) (fun _ _ _ h => h) (Or.inl ⟨by kernel_rfl, ?_⟩) hHeld ?_
          · intro w' hSw; obtain ⟨z0, z1, z2⟩ := Corner.open (C9.below hSw) i hi; go_simp
          try simp only [Act.put, List.setIfInBounds_toArray, List.set_cons_zero, List.set_cons_succ, List.getElem_toArray, List.getElem_cons_succ, List.getElem_cons_zero]
          refine wpAnyH_take (i := 21) (v := .int .i64 (m2)) rfl (by kernel_rfl) (by kernel_rfl) (by kernel_rfl) (fun _ _ _ h => h) (Or.inl ⟨by kernel_rfl, ?_⟩) hHeld ?_
          · intro w' hSw; go_simp
          try simp only [Act.put, List.setIfInBounds_toArray, List.set_cons_zero, List.set_cons_succ, List.getElem_toArray, List.getElem_cons_succ, List.getElem_cons_zero]
          refine wpAnyH_take (i := 22) (v := .int .i64 (m4)) rfl (by kernel_rfl) (by kernel_rfl) (by kernel_rfl) (fun _ _ _ h => h) (Or.inl ⟨by kernel_rfl, ?_⟩) hHeld ?_
          · intro w' hSw; go_simp
          try simp only [Act.put, List.setIfInBounds_toArray, List.set_cons_zero, List.set_cons_succ, List.getElem_toArray, List.getElem_cons_succ, List.getElem_cons_zero]
          refine wpAnyH_take (i := 23) (v := .slice ((some ⟨g, 0, none⟩)) m c) rfl (by kernel_rfl) (by kernel_rfl) (by kernel_rfl) (fun _ _ _ h => h) (Or.inl ⟨by kernel_rfl, ?_⟩) hHeld ?_
          · intro w' hSw; go_simp
          try simp only [Act.put, List.setIfInBounds_toArray, List.set_cons_zero, List.set_cons_succ, List.getElem_toArray, List.getElem_cons_succ, List.getElem_cons_zero]
          refine wpAnyH_take (i := 24) (v := .int .i64 ((k : Int))) rfl (by kernel_rfl) (by kernel_rfl) (by kernel_rfl) (fun _ _ _ h => h) (Or.inl ⟨by kernel_rfl, ?_⟩) hHeld ?_
          · intro w' hSw; go_simp
          try simp only [Act.put, List.setIfInBounds_toArray, List.set_cons_zero, List.set_cons_succ, List.getElem_toArray, List.getElem_cons_succ, List.getElem_cons_zero]
          refine wpAnyH_take (i := 25) (v := .pointer (some ⟨g, k * 3, none⟩)) rfl (by kernel_rfl) (by kernel_rfl) (by kernel_rfl) (fun _ _ _ h => h) (Or.inl ⟨by kernel_rfl, ?_⟩) hHeld ?_
          · intro w' hSw; go_simp
          try simp only [Act.put, List.setIfInBounds_toArray, List.set_cons_zero, List.set_cons_succ, List.getElem_toArray, List.getElem_cons_succ, List.getElem_cons_zero]
          refine wpAnyH_take (i := 26) (v := .pointer (some ⟨g, k * 3 + 2, none⟩)) rfl (by kernel_rfl) (by kernel_rfl) (by kernel_rfl) (fun _ _ _ h => h) (Or.inl ⟨by kernel_rfl, ?_⟩) hHeld ?_
          · intro w' hSw; go_simp
          try simp only [Act.put, List.setIfInBounds_toArray, List.set_cons_zero, List.set_cons_succ, List.getElem_toArray, List.getElem_cons_succ, List.getElem_cons_zero]
          refine wpAnyH_take (i := 27) (v := .int .i64 (f (k * 3 + 2))) rfl (by kernel_rfl) (by kernel_rfl) (by kernel_rfl) (fun _ _ _ h => h) (Or.inl ⟨by kernel_rfl, ?_⟩) hHeld ?_
          · intro w' hSw; obtain ⟨z0, z1, z2⟩ := Trips.open (L9.below hSw) k hk; go_simp
          try simp only [Act.put, List.setIfInBounds_toArray, List.set_cons_zero, List.set_cons_succ, List.getElem_toArray, List.getElem_cons_succ, List.getElem_cons_zero]
          refine wpAnyH_take (i := 28) (v := .slice ((some ⟨gc, 0, none⟩)) M cc) rfl (by kernel_rfl) (by kernel_rfl) (by kernel_rfl) (fun _ _ _ h => h) (Or.inl ⟨by kernel_rfl, ?_⟩) hHeld ?_
          · intro w' hSw; go_simp
          try simp only [Act.put, List.setIfInBounds_toArray, List.set_cons_zero, List.set_cons_succ, List.getElem_toArray, List.getElem_cons_succ, List.getElem_cons_zero]
          refine wpAnyH_take (i := 29) (v := .int .i64 ((i : Int))) rfl (by kernel_rfl) (by kernel_rfl) (by kernel_rfl) (fun _ _ _ h => h) (Or.inl ⟨by kernel_rfl, ?_⟩) hHeld ?_
          · intro w' hSw; go_simp
          try simp only [Act.put, List.setIfInBounds_toArray, List.set_cons_zero, List.set_cons_succ, List.getElem_toArray, List.getElem_cons_succ, List.getElem_cons_zero]
          refine wpAnyH_take (i := 30) (v := .pointer (some ⟨gc, i * 3, none⟩)) rfl (by kernel_rfl) (by kernel_rfl) (by kernel_rfl) (fun _ _ _ h => h) (Or.inl ⟨by kernel_rfl, ?_⟩) hHeld ?_
          · intro w' hSw; go_simp
          try simp only [Act.put, List.setIfInBounds_toArray, List.set_cons_zero, List.set_cons_succ, List.getElem_toArray, List.getElem_cons_succ, List.getElem_cons_zero]
          refine wpAnyH_take (i := 31) (v := .pointer (some ⟨gc, i * 3 + 2, none⟩)) rfl (by kernel_rfl) (by kernel_rfl) (by kernel_rfl) (fun _ _ _ h => h) (Or.inl ⟨by kernel_rfl, ?_⟩) hHeld ?_
          · intro w' hSw; go_simp
          try simp only [Act.put, List.setIfInBounds_toArray, List.set_cons_zero, List.set_cons_succ, List.getElem_toArray, List.getElem_cons_succ, List.getElem_cons_zero]
          refine wpAnyH_take (i := 32) (v := .int .i64 (F (i * 3 + 2))) rfl (by kernel_rfl) (by kernel_rfl) (by kernel_rfl) (fun _ _ _ h => h) (Or.inl ⟨by kernel_rfl, ?_⟩) hHeld ?_
          · intro w' hSw; obtain ⟨z0, z1, z2⟩ := Corner.open (C9.below hSw) i hi; go_simp
          try simp only [Act.put, List.setIfInBounds_toArray, List.set_cons_zero, List.set_cons_succ, List.getElem_toArray, List.getElem_cons_succ, List.getElem_cons_zero]
          refine wpAnyH_take (i := 33) (v := .int .i64 (m3)) rfl (by kernel_rfl) (by kernel_rfl) (by kernel_rfl) (fun _ _ _ h => h) (Or.inl ⟨by kernel_rfl, ?_⟩) hHeld ?_
          · intro w' hSw; go_simp
          try simp only [Act.put, List.setIfInBounds_toArray, List.set_cons_zero, List.set_cons_succ, List.getElem_toArray, List.getElem_cons_succ, List.getElem_cons_zero]
          refine wpAnyH_take (i := 34) (v := .int .i64 (d)) rfl (by kernel_rfl) (by kernel_rfl) (by kernel_rfl) (fun _ _ _ h => h) (Or.inl ⟨by kernel_rfl, ?_⟩) hHeld ?_
          · intro w' hSw; go_simp
          try simp only [Act.put, List.setIfInBounds_toArray, List.set_cons_zero, List.set_cons_succ, List.getElem_toArray, List.getElem_cons_succ, List.getElem_cons_zero]
          refine wpAnyH_ready (rs := [35]) (by kernel_rfl) (by simp) ?_
          refine AllReadyH.cons rfl (fun KK hK' => ?_) AllReadyH.nil
          go_simp
          clear hHeld
          refine hK'.out _ _ (bu) (fun hHeld => ?_)
          clear hK' KK
          try simp only [List.setIfInBounds_toArray, List.set_cons_zero, List.set_cons_succ]
          refine wpAnyH_done (by kernel_rfl) ?_ _
          clear hHeld
          clear bu
          clear mw1 mw2 mw3 mw4 mw5 mq1 mq2 mq3 mq4 mq5 C9 L9
          obtain ⟨N0, hN0⟩ : ∃ x, cntP P k = x := ⟨_, rfl⟩
          have hNk := cntP_le P k
          have HN : Hid (cntP P (k + 1) = N0 + (if P k then 1 else 0)) := show _ = _ by rw [← hN0]; rfl
          rw [hN0] at hNk ⊢
          clear hN0
          have hN1 : (N0 : Int) ≤ 17 := by omega
          have hbk2 : Hid (Below w7.heap.size w7 u0) := bk
          clear bk
          go_wp2_with fail
          clear hd'
          go_loopw [7, 10] (fun s7 s10 wr => ∃ (j : Nat) (N1 : Nat), j ≤ M ∧ s7 = .int .i64 (N1 : Int) ∧ s10 = .int .i64 (j : Int) ∧ Hid ((N1 = N0 + 1 ∧ (∃ j', j' < j ∧ sI f m j' = k) ∧ d = 0) ∨ (N1 = N0 ∧ ¬ ((∃ j', j' < j ∧ sI f m j' = k) ∧ d = 0))) ∧ u0 = wr) (fun _ s10 _ => M - (intOf s10).toNat)
          case atStart => exact ⟨0, N0, Nat.zero_le _, rfl, rfl, .inr ⟨rfl, fun ⟨⟨j', h, _⟩, _⟩ => absurd h (Nat.not_lt_zero _)⟩, rfl⟩
          case round =>
            obtain ⟨j, N1, hj', rfl, rfl, HJ, rfl⟩ := hrel
            by_cases hj : j < M
            · have hjlt : (j : Int) < (M : Int) := by omega
              have z0 := (T.below hbk2.out).get hj
              have hN2 : (N1 : Int) ≤ 18 := by rcases HJ.out with h | h <;> omega
              by_cases e : sI f m j = k
              · have e' : ((sI f m j : Int) == (k : Int)) = true := by simp [e]
                by_cases d0 : d = 0
                · have d0' : (d == 0) = true := by simp [d0]
                  have hnew : Hid ((N1 + 1 = N0 + 1 ∧ (∃ j', j' < j + 1 ∧ sI f m j' = k) ∧ d = 0) ∨ (N1 + 1 = N0 ∧ ¬ ((∃ j', j' < j + 1 ∧ sI f m j' = k) ∧ d = 0))) := by
                    rcases HJ.out with ⟨-, ⟨j', h1, h2⟩, -⟩ | ⟨h1, -⟩
                    · exact absurd (h2.trans e.symm) (HIJ.out j' j h1 hj)
                    · exact .inl ⟨by omega, ⟨j, Nat.lt_succ_self _, e⟩, d0⟩
                  clear HJ d0 e
                  go_wp2
                  exact ⟨⟨j + 1, N1 + 1, by omega, by go_num, by go_num, hnew, by trivial⟩, by simp [intOf]; omega⟩
                · have d0' : (d == 0) = false := by simp [d0]
                  have hnew : Hid ((N1 = N0 + 1 ∧ (∃ j', j' < j + 1 ∧ sI f m j' = k) ∧ d = 0) ∨ (N1 = N0 ∧ ¬ ((∃ j', j' < j + 1 ∧ sI f m j' = k) ∧ d = 0))) := by
                    rcases HJ.out with ⟨-, -, h⟩ | ⟨h1, -⟩
                    · exact absurd h d0
                    · exact .inr ⟨h1, fun h => d0 h.2⟩
                  clear HJ d0 e
                  go_wp2
                  exact ⟨⟨j + 1, N1, by omega, rfl, by go_num, hnew, by trivial⟩, by simp [intOf]; omega⟩
              · have e' : ((sI f m j : Int) == (k : Int)) = false := by simp; omega
                have hnew : Hid ((N1 = N0 + 1 ∧ (∃ j', j' < j + 1 ∧ sI f m j' = k) ∧ d = 0) ∨ (N1 = N0 ∧ ¬ ((∃ j', j' < j + 1 ∧ sI f m j' = k) ∧ d = 0))) := by
                  rcases HJ.out with ⟨h0, ⟨j', h1, h2⟩, h3⟩ | ⟨h1, h2⟩
                  · exact .inl ⟨h0, ⟨j', by omega, h2⟩, h3⟩
                  · refine .inr ⟨h1, fun ⟨⟨j', a1, a2⟩, a3⟩ => h2 ⟨⟨j', ?_, a2⟩, a3⟩⟩
                    by_cases ej : j' = j
                    · subst ej; exact absurd a2 e
                    · omega
                clear HJ e
                go_wp2
                exact ⟨⟨j + 1, N1, by omega, rfl, by go_num, hnew, by trivial⟩, by simp [intOf]; omega⟩
            · have hjlt : ¬ (j : Int) < (M : Int) := by omega
              have hend : Hid (N1 = cntP P (k + 1)) := show _ = _ by
                obtain rfl : j = M := by omega
                have hp := HP.out k
                rw [HD.out] at hp
                have hs := HSH.out k hk
                rw [HN.out]
                rcases HJ.out with ⟨h1, h2, h3⟩ | ⟨h1, h2⟩
                · rw [if_pos (hp.2 ⟨hs.1 h2, h3⟩)]; exact h1
                · rw [if_neg (fun h => h2 ⟨hs.2 (hp.1 h).1, (hp.1 h).2⟩)]; exact h1
              clear HJ
              go_wp2
              exact ⟨⟨k + 1, by omega, by rw [← hend.out], by go_num, hbk2.out⟩, by simp [intOf]; omega⟩
        · have hklt : ¬ (k : Int) < (m : Int) := by omega
          obtain rfl : k = m := by omega
          rw [H2.out]
          go_wp2
          exact ⟨⟨i + 1, by omega, by go_num, bk⟩, by simp [intOf]; omega⟩
    · have hilt : ¬ (i : Int) < (M : Int) := by omega
      go_wp2_with fail
      go_loopw [11] (fun s11 wr => ∃ k : Nat, k ≤ m ∧ s11 = .int .i64 (k : Int) ∧ Below w7.heap.size w7 wr) (fun s11 _ => m - (intOf s11).toNat)
      case atStart => exact ⟨0, Nat.zero_le _, rfl, bi⟩
      case round =>
        obtain ⟨k, hk', rfl, bk⟩ := hrel
        by_cases hk : k < m
        · have hklt : (k : Int) < (m : Int) := by omega
          go_wp2_with fail
          go_loopw [12, 13] (fun s12 s13 wr => ∃ (j : Nat) (b : Bool), j ≤ M ∧ s12 = .bool b ∧ s13 = .int .i64 (j : Int) ∧ Hid (b = true ↔ ∃ j', j' < j ∧ sI f m j' = k) ∧ Below w7.heap.size w7 wr) (fun _ s13 _ => M - (intOf s13).toNat)
          case atStart => exact ⟨0, false, Nat.zero_le _, rfl, rfl, ⟨fun h => (by cases h), fun ⟨j', h, _⟩ => absurd h (Nat.not_lt_zero _)⟩, bk⟩
          case round =>
            clear bk
            obtain ⟨j, b, hj', rfl, rfl, HB, bk⟩ := hrel
            by_cases hj : j < M
            · have hjlt : (j : Int) < (M : Int) := by omega
              have z0 := (T.below bk).get hj
              cases b
              · have hno : ¬ ∃ j', j' < j ∧ sI f m j' = k := fun h => by cases HB.out.2 h
                clear HB
                by_cases e : sI f m j = k
                · have e' : ((sI f m j : Int) == (k : Int)) = true := by simp [e]
                  have hnew : ∃ j', j' < j + 1 ∧ sI f m j' = k := ⟨j, Nat.lt_succ_self _, e⟩
                  have HNW : Hid (∃ j', j' < j + 1 ∧ sI f m j' = k) := hnew
                  clear e hno hnew
                  go_wp2
                  exact ⟨⟨j + 1, true, by omega, rfl, by go_num, ⟨fun _ => HNW.out, fun _ => rfl⟩, bk⟩, by simp [intOf]; omega⟩
                · have e' : ((sI f m j : Int) == (k : Int)) = false := by simp; omega
                  have HNW : Hid (¬ ∃ j', j' < j + 1 ∧ sI f m j' = k) := show ¬ _ from fun ⟨j', a1, a2⟩ => hno ⟨j', (by
                    by_cases ej : j' = j
                    · subst ej; exact absurd a2 e
                    · omega), a2⟩
                  clear e hno
                  go_wp2
                  exact ⟨⟨j + 1, false, by omega, rfl, by go_num, ⟨fun h => (by cases h), fun h => absurd h HNW.out⟩, bk⟩, by simp [intOf]; omega⟩
              · have HNW : Hid (∃ j', j' < j + 1 ∧ sI f m j' = k) := show ∃ _, _ from by
                  obtain ⟨j', h1, h2⟩ := HB.out.1 rfl
                  exact ⟨j', by omega, h2⟩
                clear HB z0
                go_wp2
                exact ⟨⟨j + 1, true, by omega, rfl, by go_num, ⟨fun _ => HNW.out, fun _ => rfl⟩, bk⟩, by simp [intOf]; omega⟩
            · have hjlt : ¬ (j : Int) < (M : Int) := by omega
              have HBS : Hid (b = true ↔ Sh f m k) := show _ ↔ _ by
                obtain rfl : j = M := by omega
                exact HB.out.trans (HSH.out k hk)
              have L9 := L.below bk
              clear HB
              go_wp2_with fail
              refine (copyFacets_any L9 (by omega)).mono ?_
              rintro e w9 ⟨⟨g9, c9, rfl, hc9, L10⟩, b9⟩
              replace L9 := L9.below b9
              replace bk := bk.trans (b9.mono bk.size)
              clear b9
              go_wp2_with fail
              refine (implReason_any L10 hc9 (by omega) (k : Int)).mono ?_
              rintro e w10 ⟨⟨a1, a2, rfl, hR⟩, b10⟩
              replace L9 := L9.below b10
              replace bk := bk.trans (b10.mono bk.size)
              obtain ⟨r1, r2⟩ := HS.out.reason hk hR
              clear b10 hR L10 hc9
              by_cases sh : Sh f m k
              · obtain rfl : b = true := HBS.out.2 sh
                have ha : a1 < 0 := r1.2 sh
                have BB : Hid (Below w.heap.size w w10) := B.trans (bk.mono B.size)
                clear r1 r2 HBS sh
                go_wp2
                exact ⟨⟨k + 1, by omega, by go_num, bk⟩, by simp [intOf]; omega⟩
              · obtain rfl : b = false := by
                  cases b
                  · rfl
                  · exact absurd (HBS.out.1 rfl) sh
                have ha : ¬ a1 < 0 := fun h => sh (r1.1 h)
                have hcov := r2 ha
                clear r1 r2 HBS sh
                go_wp2_with fail
                refine (copyFacets_any L9 (by omega)).mono ?_
                rintro e w11 ⟨⟨g11, c11, rfl, hc11, L11⟩, b11⟩
                replace bk := bk.trans (b11.mono bk.size)
                clear b11 L9
                go_wp2_with fail
                refine (implCov_any L11 (by omega) (k : Int) a1 a2 true ⟨fun _ => hcov, fun _ => rfl⟩).mono ?_
                rintro e w12 ⟨rfl, b12⟩
                replace bk := bk.trans (b12.mono bk.size)
                go_wp2
                exact ⟨⟨k + 1, by omega, by go_num, bk⟩, by simp [intOf]; omega⟩
        · have hklt : ¬ (k : Int) < (m : Int) := by omega
          have BB := B.trans (bk.mono B.size)
          go_wp2
          go_ret
          exact ⟨rfl, BB⟩
end Go.Proofs.Ytealbihplfpgeaa
