/-
  Sites by the specification: walked.
-/
import Derived.Test.YtgjhbkpocbihbaaGreatSi3
import Derived.Test.YtgjhbkpocbihbaaGreatBlN
import Derived.Test.YtgjhbkpocbihbaaGreatNB
import Derived.Test.YtgjhbkpocbihbaaGreatQd
import Derived.Test.YtgjhbkpocbihbaaGreatNM
import Derived.Test.YtgjhbkpocbihbaaGreatMH
namespace Go.Proofs.YtgjhbkpocbihbaaGreat
open Go.RowKit

theorem infoIs : (Tryz.prog.info? 2).map (fun i => (i.zero, i.size, i.bytes)) = some (some (.int .i64 0), 1, 8) := by kernel_rfl
theorem make_is : ∃ C : Array Value, (C.size = 193 ∧ ∀ i, i < 193 → C[i]? = some (.int .i64 0)) ∧ ∀ w, (Instr.makeSlice 50 (.int .i64 193) (.int .i64 193)).run Tryz.prog w = .ok (.slice (some ⟨w.heap.size, 0, none⟩) 193 193) (w.alloc (.cells C 2)) := by
  obtain ⟨i0, hi0, hz0, hz1, hz2⟩ := info_parts infoIs
  refine ⟨madeCells (Value.int .i64 0).cells 193, ⟨by simp [madeCells], fun i hi => by simp [madeCells, hi, Value.cells, Nat.mod_one]⟩, fun w => ?_⟩
  have := run_make (P := Tryz.prog) w 50 2 i0 _ Tryz.underlying50 hi0 hz0 .i64 .i64 ((193 : Nat) : Int) ((193 : Nat) : Int) (by omega) (by omega) (by rw [hz2]; omega) (by omega)
  have e : ((193 : Nat) : Int) = 193 := rfl
  rw [e] at this
  rw [this, hz1]
  simp
/-- The specification's table of ranks. -/
def RkT (w : World) (gr : Nat) (c : Nat → Nat) : Prop := ∃ cur : Array Value, At 2 w gr cur ∧ cur.size = 193 ∧ ∀ r, r < 193 → cur[r]? = some (.int .i64 (c r : Nat))
theorem RkT.below {w w' : World} {gr : Nat} {c : Nat → Nat} (h : RkT w gr c) (hb : Below w.heap.size w w') : RkT w' gr c := by
  obtain ⟨cur, a, h1, h2⟩ := h
  exact ⟨cur, a.below hb, h1, h2⟩
theorem RkT.cell {w : World} {gr r : Nat} {c : Nat → Nat} (h : RkT w gr c) (hr : r < 193) : w.cell? ⟨gr, r, none⟩ = some (.int .i64 (c r : Nat)) ∧ w.frozen? ⟨gr, r, none⟩ = false := by
  obtain ⟨cur, a, h1, h2⟩ := h
  exact ⟨a.cell _ (h2 r hr), a.frozen _⟩
theorem RkT.set {w : World} {gr r : Nat} {c c' : Nat → Nat} (h : RkT w gr c) (hr : r < 193) (e : c' r = c r + 1) (ho : ∀ s, s < 193 → s ≠ r → c' s = c s) : RkT (w.setCell ⟨gr, r, none⟩ (.int .i64 ((c r : Nat) + 1))) gr c' := by
  obtain ⟨cur, a, h1, h2⟩ := h
  refine ⟨_, a.set r _, by simpa using h1, fun s hs => ?_⟩
  rw [Array.getElem?_setIfInBounds]
  by_cases k : r = s
  · subst k
    rw [if_pos rfl, if_pos (by omega), e]
    simp
  · rw [if_neg k, h2 s hs, ho s hs (fun x => k x.symm)]
theorem RkT.same {w : World} {gr : Nat} {c c' : Nat → Nat} (h : RkT w gr c) (e : ∀ r, r < 193 → c' r = c r) : RkT w gr c' := by
  obtain ⟨cur, a, h1, h2⟩ := h
  exact ⟨cur, a, h1, fun r hr => by rw [e r hr]; exact h2 r hr⟩
theorem stN_stay (n : Nat) (A : Nat → OpD) (x y z : Int) : kN (fun i => stay x y z (A i)) n = stN n A (x, y, z) := kN_congr fun i _ => stay_aK x y z (A i)
/-- How many of the first q points have orbits of r. -/
def cqN (n : Nat) (A : Nat → OpD) (q r : Nat) : Nat := kN (fun q => decide (rkN n A q = r)) q
theorem cqN_next {n q r : Nat} {A : Nat → OpD} (h : rkN n A q = r) : cqN n A (q + 1) r = cqN n A q r + 1 ∧ ∀ s, s ≠ r → cqN n A (q + 1) s = cqN n A q s :=
  ⟨kN_yes (by simp [h]), fun s hs => kN_no (by simp [h]; exact fun e => hs e.symm)⟩
theorem cqN_le (n : Nat) (A : Nat → OpD) (q r : Nat) : cqN n A q r ≤ q := kN_le _ _
set_option maxRecDepth 100000 in
set_option maxHeartbeats 20000000 in
theorem specSites_any {w : World} {g n c : Nat} {A : Nat → OpD} (hL : OpsL w g n A) (hn : n ≤ 1048576) :
    Calls Tryz.prog 12 #[.slice (some ⟨g, 0, none⟩) n c] w (SitE w n A) := by
  have hbs : ∀ w, (Instr.buildSlice 27 0 #[]).run Tryz.prog w = .ok (.slice (some ⟨w.heap.size, 0, none⟩) 0 0) (w.alloc (.cells #[] 31)) := fun _ => by kernel_rfl
  have hbs1 : ∀ x0 x1 w, (Instr.buildSlice 27 1 #[(0, .agg #[.int .i64 x0, .int .i64 x1])]).run Tryz.prog w = .ok (.slice (some ⟨w.heap.size, 0, none⟩) 1 1) (w.alloc (.cells #[.int .i64 x0, .int .i64 x1] 31)) := fun _ _ _ => by kernel_rfl
  obtain ⟨CR, ⟨hCs, hC0⟩, hmk⟩ := make_is
  obtain ⟨W1, hW1, a1, B1, -⟩ := boxed w 31 #[]
  obtain ⟨p1, hp1⟩ : ∃ q, w.heap.size = q := ⟨_, rfl⟩
  rw [hp1] at a1
  have hp1w : w.heap.size ≤ p1 := by omega
  have HP1 := hid_of hp1
  clear hp1
  go_enter Tryz.func12, Tryz.ntmps12
  go_wp2_with fail
  rw [HP1.out]
  refine (groupOk_any (hL.below B1) hn).mono ?_
  rintro e w2 ⟨⟨r, rfl, hr⟩, b2⟩
  have B2 := B1.trans (b2.mono B1.size)
  have a2 := a1.below b2
  clear a1 b2 B1 hW1
  cases r
  · have hno : Hid (¬ isG n A) := fun h => absurd (hr.2 h) (by decide)
    have O := hid_of (ArK.own (K := 2) (t := 31) (lo := w.heap.size) (n := 0) (c := 0) (f := flS []) ⟨#[], a2, rfl, fun i hi => by omega⟩ hp1w (Nat.le_refl _) (Nat.zero_le _))
    clear hr
    go_wp2
    go_ret
    exact ⟨⟨[], _, _, .inr ⟨hno.out, rfl⟩, rfl, O.out⟩, B2⟩
  have HG : Hid (isG n A) := hr.1 rfl
  clear hr
  have hn' : n ≤ 192 := HG.out.1
  have hni : (n : Int) ≤ 192 := by omega
  obtain ⟨W3, hW3, a3, B3, -⟩ := boxed w2 2 CR
  obtain ⟨gr, hgr⟩ : ∃ q, w2.heap.size = q := ⟨_, rfl⟩
  rw [hgr] at a3
  have hgrw : w.heap.size ≤ gr := by have := B2.size; omega
  have hp1gr : p1 < gr := by have := a2.lt; omega
  have T3' : Hid (RkT W3 gr (cqN n A 0)) := ⟨CR, a3, hCs, fun r hr => hC0 r hr⟩
  have hmk3 := hmk w2
  rw [hW3, hgr] at hmk3
  replace B3 := B2.trans (B3.mono B2.size)
  have HL := hid_of hL
  have K3 : Hid (At 31 W3 p1 #[]) := (hW3 ▸ a2.below (below_alloc _ _))
  clear hW3 hgr a3 a2 B2 hL hn hmk hCs hC0
  go_wp2
  clear hmk3
  go_loopw [5] (fun s wr => ∃ q : Nat, q ≤ 13824 ∧ s = .int .i64 (q : Int) ∧ Hid (RkT wr gr (cqN n A q)) ∧ Hid (At 31 wr p1 #[]) ∧ Below w.heap.size w wr) (fun s _ => 13824 - (intOf s).toNat)
  case atStart => exact ⟨0, Nat.zero_le _, rfl, T3', K3, B3⟩
  case round =>
    clear T3' K3 B3
    obtain ⟨q, hq, rfl, T, K, B0⟩ := hrel
    rename World => wq
    by_cases hlt : q < 13824
    · have hlt' : (q : Int) < 13824 := by omega
      obtain ⟨px, hpx⟩ : ∃ p : T3, ptN q = p := ⟨_, rfl⟩
      obtain ⟨x, y, z⟩ := px
      have hxyz := hpx
      unfold ptN at hxyz
      simp only [Prod.mk.injEq] at hxyz
      obtain ⟨hx, hy, hz⟩ := hxyz
      have d1 : Int.tdiv (q : Int) 576 = x := by rw [← hx, Int.tdiv_eq_ediv_of_nonneg (by omega)]; omega
      have d2' : Int.tdiv (q : Int) 24 = ((q / 24 : Nat) : Int) := by rw [Int.tdiv_eq_ediv_of_nonneg (by omega)]; omega
      have d2 : Int.tmod ((q / 24 : Nat) : Int) 24 = y := by rw [← hy, Int.tmod_eq_emod_of_nonneg (by omega)]; omega
      have e2 : (q : Int) / 24 % 24 = y := by rw [← hy]; omega
      have hwx : wrap64 x = x := by unfold wrap64; omega
      have d3 : Int.tmod (q : Int) 24 = z := by rw [← hz, Int.tmod_eq_emod_of_nonneg (by omega)]; omega
      have HP : Hid (inP x y z) := by have h := ptN_in hlt; rw [hpx] at h; exact h
      have HPX := hid_of hpx
      clear hx hy hz hpx
      obtain ⟨q5, hq5⟩ : ∃ p, wq.heap.size = p := ⟨_, rfl⟩
      obtain ⟨W5, hW5, A5, b5, -⟩ := boxed wq 64 #[.int .i64 x, .int .i64 y, .int .i64 z]
      rw [hq5] at A5
      have T6 := hid_of (T.out.below b5)
      have K6 : Hid (At 31 W5 p1 #[]) := hid_of (K.out.below b5)
      have B6 := hid_of (B0.trans (b5.mono B0.size))
      have HL6 := hid_of (HL.out.below B6.out)
      have A5h := hid_of A5
      have Br := Below.refl W5.heap.size W5
      clear T K B0 b5
      go_wp2
      clear hW5 hq5 d1 d2' d2 d3 e2 hwx
      go_loopw [7, 8] (fun v s wr => ∃ i : Nat, i ≤ n ∧ v = .int .i64 (kN (fun i => stay x y z (A i)) i : Nat) ∧ s = .int .i64 (i : Int) ∧ At 64 wr q5 #[.int .i64 x, .int .i64 y, .int .i64 z] ∧ Below W5.heap.size W5 wr) (fun _ s _ => n - (intOf s).toNat)
      case atStart => exact ⟨0, Nat.zero_le _, rfl, rfl, A5, Br⟩
      case round =>
        clear A5 Br
        obtain ⟨i, hi, rfl, rfl, A2, B⟩ := hrel
        rename World => wr
        have hkn := kN_le (fun i => stay x y z (A i)) i
        by_cases hlt2 : i < n
        · have hlt2' : (i : Int) < (n : Int) := by omega
          --{Q
          have ok := HG.out.2.1 i hlt2
          have hL2 := HL6.out.below B
          obtain ⟨av, c1, bv, d1, e1, e2, s1, s2⟩ := hL2.2 i hlt2
          rw [ok.1] at e1 s1
          rw [ok.2.1] at e2 s2
          rcases s1 with s1 | ⟨bm, om, rfl, lm, Im⟩
          · omega
          rcases s2 with s2 | ⟨bt, ot, rfl, lt, It⟩
          · omega
          have hgl := hL2.1
          have HQ : Hid (∀ wq, Kb wr wq → wq.cell? ⟨g, i * 2, none⟩ = some (.slice (some ⟨bm, om, none⟩) 9 c1) ∧ wq.cell? ⟨g, i * 2 + 1, none⟩ = some (.slice (some ⟨bt, ot, none⟩) 3 d1)) := fun wq hq => ⟨(hq.cell (p := ⟨g, i * 2, none⟩) hgl).trans e1, (hq.cell (p := ⟨g, i * 2 + 1, none⟩) hgl).trans e2⟩
          have TU : ∀ wq, Kb wr wq → Calls Tryz.prog 40 #[.agg #[.slice (some ⟨bm, om, none⟩) 9 c1, .slice (some ⟨bt, ot, none⟩) 3 d1], .agg #[.int .i64 x, .int .i64 y, .int .i64 z]] wq fun e w' => e = .returned (.agg #[.int .i64 (actV (A i).f (A i).h (p3 x y z) 0), .int .i64 (actV (A i).f (A i).h (p3 x y z) 1), .int .i64 (actV (A i).f (A i).h (p3 x y z) 2)]) ∧ Below wq.heap.size wq w' := fun wq hq => l5Act_any c1 d1 (Im.below lm hq) (It.below lt hq) (Nat.lt_of_lt_of_le lm hq.size) (Nat.lt_of_lt_of_le lt hq.size) ok.2.2 HP.out
          have HS : Hid (stay x y z (A i) = decide (actV (A i).f (A i).h (p3 x y z) 0 = x ∧ actV (A i).f (A i).h (p3 x y z) 1 = y ∧ actV (A i).f (A i).h (p3 x y z) 2 = z)) := rfl
          generalize hs0 : actV (A i).f (A i).h (p3 x y z) 0 = s0 at TU HS
          generalize hs1 : actV (A i).f (A i).h (p3 x y z) 1 = s1 at TU HS
          generalize hs2 : actV (A i).f (A i).h (p3 x y z) 2 = s2 at TU HS
          clear hs0 hs1 hs2 Im It e1 e2 lm lt ok hgl hL2
          by_cases ce : s0 = x ∧ s1 = y ∧ s2 = z
          rotate_left
          · have hst : Hid (stay x y z (A i) = false) := HS.out.trans (decide_eq_false ce)
            have HKN := hid_of (kN_no (P := fun i => stay x y z (A i)) hst.out)
            clear HS hst
            by_cases c0 : s0 = x
            case neg =>
              have c0' : (s0 == x) = false := by simp [c0]
              clear ce c0
              go_wp2_with fail
              obtain ⟨u0, hu0, bb⟩ : ∃ uu, wr.drew = uu ∧ Below wr.heap.size wr uu := ⟨_, rfl, (Below.refl _ _).drew⟩
              replace A2 := A2.below bb
              replace B := B.trans (bb.mono B.size)
              have A1u := A2
              have bk0 : Kb wr u0 := bb
              clear bb
              refine wp_region_held_drew (S := Kb u0) (by kernel_rfl) (by rw [hu0]; exact Below.refl _ _) (fun hHeld => ?_)
              rw [hu0] at hHeld ⊢
              clear hu0
              have bu : Kb u0 u0 := Below.refl _ _
              change wpAnyH _ _ _ _ _ 8 #[false, false, false, false, false, false, false, false] _ _
              refine wpAnyH_take (i := 0) (v := .slice ((some ⟨g, 0, none⟩)) n c) rfl (by kernel_rfl) (by kernel_rfl) (by kernel_rfl) (fun _ _ _ h => h) (Or.inl ⟨by kernel_rfl, ?_⟩) hHeld ?_
              · intro w' hSw; go_simp
              try simp only [Act.put, List.setIfInBounds_toArray, List.set_cons_zero, List.set_cons_succ, List.getElem_toArray, List.getElem_cons_zero]
              refine wpAnyH_take (i := 1) (v := .int .i64 ((i : Int))) rfl (by kernel_rfl) (by kernel_rfl) (by kernel_rfl) (fun _ _ _ h => h) (Or.inl ⟨by kernel_rfl, ?_⟩) hHeld ?_
              · intro w' hSw; go_simp
              try simp only [Act.put, List.setIfInBounds_toArray, List.set_cons_zero, List.set_cons_succ, List.getElem_toArray, List.getElem_cons_succ, List.getElem_cons_zero]
              refine wpAnyH_take (i := 2) (v := .pointer (some ⟨g, i * 2, none⟩)) rfl (by kernel_rfl) (by kernel_rfl) (by kernel_rfl) (fun _ _ _ h => h) (Or.inl ⟨by kernel_rfl, ?_⟩) hHeld ?_
              · intro w' hSw; go_simp
              try simp only [Act.put, List.setIfInBounds_toArray, List.set_cons_zero, List.set_cons_succ, List.getElem_toArray, List.getElem_cons_succ, List.getElem_cons_zero]
              refine wpAnyH_take (i := 3) (v := .agg #[.slice (some ⟨bm, om, none⟩) 9 c1, .slice (some ⟨bt, ot, none⟩) 3 d1]) rfl (by kernel_rfl) (by kernel_rfl) (by kernel_rfl) (fun _ _ _ h => h) (Or.inl ⟨by kernel_rfl, ?_⟩) hHeld ?_
              · intro w' hSw; obtain ⟨z0, z1⟩ := HQ.out _ (bk0.trans (Below.mono hSw bk0.size)); go_simp
              try simp only [Act.put, List.setIfInBounds_toArray, List.set_cons_zero, List.set_cons_succ, List.getElem_toArray, List.getElem_cons_succ, List.getElem_cons_zero]
              refine wpAnyH_take (i := 4) (v := .agg #[.int .i64 x, .int .i64 y, .int .i64 z]) rfl (by kernel_rfl) (by kernel_rfl) (by kernel_rfl) (fun _ _ _ h => h) (Or.inl ⟨by kernel_rfl, ?_⟩) hHeld ?_
              · intro w' hSw; obtain ⟨z0, z1, z2, -⟩ := (A1u.below hSw).open3; go_simp
              try simp only [Act.put, List.setIfInBounds_toArray, List.set_cons_zero, List.set_cons_succ, List.getElem_toArray, List.getElem_cons_succ, List.getElem_cons_zero]
              refine wpAnyH_take (i := 6) (v := .agg #[.int .i64 x, .int .i64 y, .int .i64 z]) rfl (by kernel_rfl) (by kernel_rfl) (by kernel_rfl) (fun _ _ _ h => h) (Or.inl ⟨by kernel_rfl, ?_⟩) hHeld ?_
              · intro w' hSw; obtain ⟨z0, z1, z2, -⟩ := (A1u.below hSw).open3; go_simp
              try simp only [Act.put, List.setIfInBounds_toArray, List.set_cons_zero, List.set_cons_succ, List.getElem_toArray, List.getElem_cons_succ, List.getElem_cons_zero]
              refine wpAnyH_ready (rs := [5]) (by kernel_rfl) (by simp) ?_
              refine AllReadyH.cons rfl (fun KK hK' => ?_) AllReadyH.nil
              go_simp
              refine (TU _ (bk0.trans (Below.mono bu bk0.size))).mono ?_
              rintro e u1 ⟨rfl, bb⟩
              replace A2 := A2.below bb
              replace B := B.trans (bb.mono B.size)
              replace bu : Kb u0 u1 := bu.trans (bb.mono bu.size)
              clear bb
              try go_wp2_with fail
              clear hHeld
              refine hK'.out _ _ (bu) (fun hHeld => ?_)
              clear hK' KK
              try simp only [List.setIfInBounds_toArray, List.set_cons_zero, List.set_cons_succ]
              refine wpAnyH_take (i := 7) (v := .bool false) rfl (by kernel_rfl) (by kernel_rfl) (by kernel_rfl) (fun _ _ _ h => h) (Or.inl ⟨by kernel_rfl, ?_⟩) hHeld ?_
              · intro w' hSw; go_simp
              try simp only [Act.put, List.setIfInBounds_toArray, List.set_cons_zero, List.set_cons_succ, List.getElem_toArray, List.getElem_cons_succ, List.getElem_cons_zero]
              refine wpAnyH_done (by kernel_rfl) ?_ _
              clear hHeld
              have bz := bk0.trans (Below.mono bu bk0.size)
              clear bu A1u bk0
              go_wp2
              exact ⟨⟨i + 1, by omega, by rw [HKN.out], by go_num, A2, B⟩, by simp [intOf]; omega⟩
            subst c0
            by_cases c1' : s1 = y
            case neg =>
              have c0' : (s1 == y) = false := by simp [c1']
              clear ce c1'
              go_wp2_with fail
              obtain ⟨u0, hu0, bb⟩ : ∃ uu, wr.drew = uu ∧ Below wr.heap.size wr uu := ⟨_, rfl, (Below.refl _ _).drew⟩
              replace A2 := A2.below bb
              replace B := B.trans (bb.mono B.size)
              have A1u := A2
              have bk0 : Kb wr u0 := bb
              clear bb
              refine wp_region_held_drew (S := Kb u0) (by kernel_rfl) (by rw [hu0]; exact Below.refl _ _) (fun hHeld => ?_)
              rw [hu0] at hHeld ⊢
              clear hu0
              have bu : Kb u0 u0 := Below.refl _ _
              change wpAnyH _ _ _ _ _ 8 #[false, false, false, false, false, false, false, false] _ _
              refine wpAnyH_take (i := 0) (v := .slice ((some ⟨g, 0, none⟩)) n c) rfl (by kernel_rfl) (by kernel_rfl) (by kernel_rfl) (fun _ _ _ h => h) (Or.inl ⟨by kernel_rfl, ?_⟩) hHeld ?_
              · intro w' hSw; go_simp
              try simp only [Act.put, List.setIfInBounds_toArray, List.set_cons_zero, List.set_cons_succ, List.getElem_toArray, List.getElem_cons_zero]
              refine wpAnyH_take (i := 1) (v := .int .i64 ((i : Int))) rfl (by kernel_rfl) (by kernel_rfl) (by kernel_rfl) (fun _ _ _ h => h) (Or.inl ⟨by kernel_rfl, ?_⟩) hHeld ?_
              · intro w' hSw; go_simp
              try simp only [Act.put, List.setIfInBounds_toArray, List.set_cons_zero, List.set_cons_succ, List.getElem_toArray, List.getElem_cons_succ, List.getElem_cons_zero]
              refine wpAnyH_take (i := 2) (v := .pointer (some ⟨g, i * 2, none⟩)) rfl (by kernel_rfl) (by kernel_rfl) (by kernel_rfl) (fun _ _ _ h => h) (Or.inl ⟨by kernel_rfl, ?_⟩) hHeld ?_
              · intro w' hSw; go_simp
              try simp only [Act.put, List.setIfInBounds_toArray, List.set_cons_zero, List.set_cons_succ, List.getElem_toArray, List.getElem_cons_succ, List.getElem_cons_zero]
              refine wpAnyH_take (i := 3) (v := .agg #[.slice (some ⟨bm, om, none⟩) 9 c1, .slice (some ⟨bt, ot, none⟩) 3 d1]) rfl (by kernel_rfl) (by kernel_rfl) (by kernel_rfl) (fun _ _ _ h => h) (Or.inl ⟨by kernel_rfl, ?_⟩) hHeld ?_
              · intro w' hSw; obtain ⟨z0, z1⟩ := HQ.out _ (bk0.trans (Below.mono hSw bk0.size)); go_simp
              try simp only [Act.put, List.setIfInBounds_toArray, List.set_cons_zero, List.set_cons_succ, List.getElem_toArray, List.getElem_cons_succ, List.getElem_cons_zero]
              refine wpAnyH_take (i := 4) (v := .agg #[.int .i64 s0, .int .i64 y, .int .i64 z]) rfl (by kernel_rfl) (by kernel_rfl) (by kernel_rfl) (fun _ _ _ h => h) (Or.inl ⟨by kernel_rfl, ?_⟩) hHeld ?_
              · intro w' hSw; obtain ⟨z0, z1, z2, -⟩ := (A1u.below hSw).open3; go_simp
              try simp only [Act.put, List.setIfInBounds_toArray, List.set_cons_zero, List.set_cons_succ, List.getElem_toArray, List.getElem_cons_succ, List.getElem_cons_zero]
              refine wpAnyH_take (i := 6) (v := .agg #[.int .i64 s0, .int .i64 y, .int .i64 z]) rfl (by kernel_rfl) (by kernel_rfl) (by kernel_rfl) (fun _ _ _ h => h) (Or.inl ⟨by kernel_rfl, ?_⟩) hHeld ?_
              · intro w' hSw; obtain ⟨z0, z1, z2, -⟩ := (A1u.below hSw).open3; go_simp
              try simp only [Act.put, List.setIfInBounds_toArray, List.set_cons_zero, List.set_cons_succ, List.getElem_toArray, List.getElem_cons_succ, List.getElem_cons_zero]
              refine wpAnyH_ready (rs := [5]) (by kernel_rfl) (by simp) ?_
              refine AllReadyH.cons rfl (fun KK hK' => ?_) AllReadyH.nil
              go_simp
              refine (TU _ (bk0.trans (Below.mono bu bk0.size))).mono ?_
              rintro e u1 ⟨rfl, bb⟩
              replace A2 := A2.below bb
              replace B := B.trans (bb.mono B.size)
              replace bu : Kb u0 u1 := bu.trans (bb.mono bu.size)
              clear bb
              try go_wp2_with fail
              clear hHeld
              refine hK'.out _ _ (bu) (fun hHeld => ?_)
              clear hK' KK
              try simp only [List.setIfInBounds_toArray, List.set_cons_zero, List.set_cons_succ]
              refine wpAnyH_take (i := 7) (v := .bool false) rfl (by kernel_rfl) (by kernel_rfl) (by kernel_rfl) (fun _ _ _ h => h) (Or.inl ⟨by kernel_rfl, ?_⟩) hHeld ?_
              · intro w' hSw; go_simp
              try simp only [Act.put, List.setIfInBounds_toArray, List.set_cons_zero, List.set_cons_succ, List.getElem_toArray, List.getElem_cons_succ, List.getElem_cons_zero]
              refine wpAnyH_done (by kernel_rfl) ?_ _
              clear hHeld
              have bz := bk0.trans (Below.mono bu bk0.size)
              clear bu A1u bk0
              go_wp2
              exact ⟨⟨i + 1, by omega, by rw [HKN.out], by go_num, A2, B⟩, by simp [intOf]; omega⟩
            subst c1'
            have c2' : (s2 == z) = false := by
              have : ¬ s2 = z := fun e => ce ⟨rfl, rfl, e⟩
              simp [this]
            clear ce
            go_wp2_with fail
            obtain ⟨u0, hu0, bb⟩ : ∃ uu, wr.drew = uu ∧ Below wr.heap.size wr uu := ⟨_, rfl, (Below.refl _ _).drew⟩
            replace A2 := A2.below bb
            replace B := B.trans (bb.mono B.size)
            have A1u := A2
            have bk0 : Kb wr u0 := bb
            clear bb
            refine wp_region_held_drew (S := Kb u0) (by kernel_rfl) (by rw [hu0]; exact Below.refl _ _) (fun hHeld => ?_)
            rw [hu0] at hHeld ⊢
            clear hu0
            have bu : Kb u0 u0 := Below.refl _ _
            change wpAnyH _ _ _ _ _ 8 #[false, false, false, false, false, false, false, false] _ _
            refine wpAnyH_take (i := 0) (v := .slice ((some ⟨g, 0, none⟩)) n c) rfl (by kernel_rfl) (by kernel_rfl) (by kernel_rfl) (fun _ _ _ h => h) (Or.inl ⟨by kernel_rfl, ?_⟩) hHeld ?_
            · intro w' hSw; go_simp
            try simp only [Act.put, List.setIfInBounds_toArray, List.set_cons_zero, List.set_cons_succ, List.getElem_toArray, List.getElem_cons_zero]
            refine wpAnyH_take (i := 1) (v := .int .i64 ((i : Int))) rfl (by kernel_rfl) (by kernel_rfl) (by kernel_rfl) (fun _ _ _ h => h) (Or.inl ⟨by kernel_rfl, ?_⟩) hHeld ?_
            · intro w' hSw; go_simp
            try simp only [Act.put, List.setIfInBounds_toArray, List.set_cons_zero, List.set_cons_succ, List.getElem_toArray, List.getElem_cons_succ, List.getElem_cons_zero]
            refine wpAnyH_take (i := 2) (v := .pointer (some ⟨g, i * 2, none⟩)) rfl (by kernel_rfl) (by kernel_rfl) (by kernel_rfl) (fun _ _ _ h => h) (Or.inl ⟨by kernel_rfl, ?_⟩) hHeld ?_
            · intro w' hSw; go_simp
            try simp only [Act.put, List.setIfInBounds_toArray, List.set_cons_zero, List.set_cons_succ, List.getElem_toArray, List.getElem_cons_succ, List.getElem_cons_zero]
            refine wpAnyH_take (i := 3) (v := .agg #[.slice (some ⟨bm, om, none⟩) 9 c1, .slice (some ⟨bt, ot, none⟩) 3 d1]) rfl (by kernel_rfl) (by kernel_rfl) (by kernel_rfl) (fun _ _ _ h => h) (Or.inl ⟨by kernel_rfl, ?_⟩) hHeld ?_
            · intro w' hSw; obtain ⟨z0, z1⟩ := HQ.out _ (bk0.trans (Below.mono hSw bk0.size)); go_simp
            try simp only [Act.put, List.setIfInBounds_toArray, List.set_cons_zero, List.set_cons_succ, List.getElem_toArray, List.getElem_cons_succ, List.getElem_cons_zero]
            refine wpAnyH_take (i := 4) (v := .agg #[.int .i64 s0, .int .i64 s1, .int .i64 z]) rfl (by kernel_rfl) (by kernel_rfl) (by kernel_rfl) (fun _ _ _ h => h) (Or.inl ⟨by kernel_rfl, ?_⟩) hHeld ?_
            · intro w' hSw; obtain ⟨z0, z1, z2, -⟩ := (A1u.below hSw).open3; go_simp
            try simp only [Act.put, List.setIfInBounds_toArray, List.set_cons_zero, List.set_cons_succ, List.getElem_toArray, List.getElem_cons_succ, List.getElem_cons_zero]
            refine wpAnyH_take (i := 6) (v := .agg #[.int .i64 s0, .int .i64 s1, .int .i64 z]) rfl (by kernel_rfl) (by kernel_rfl) (by kernel_rfl) (fun _ _ _ h => h) (Or.inl ⟨by kernel_rfl, ?_⟩) hHeld ?_
            · intro w' hSw; obtain ⟨z0, z1, z2, -⟩ := (A1u.below hSw).open3; go_simp
            try simp only [Act.put, List.setIfInBounds_toArray, List.set_cons_zero, List.set_cons_succ, List.getElem_toArray, List.getElem_cons_succ, List.getElem_cons_zero]
            refine wpAnyH_ready (rs := [5]) (by kernel_rfl) (by simp) ?_
            refine AllReadyH.cons rfl (fun KK hK' => ?_) AllReadyH.nil
            go_simp
            refine (TU _ (bk0.trans (Below.mono bu bk0.size))).mono ?_
            rintro e u1 ⟨rfl, bb⟩
            replace A2 := A2.below bb
            replace B := B.trans (bb.mono B.size)
            replace bu : Kb u0 u1 := bu.trans (bb.mono bu.size)
            clear bb
            try go_wp2_with fail
            clear hHeld
            refine hK'.out _ _ (bu) (fun hHeld => ?_)
            clear hK' KK
            try simp only [List.setIfInBounds_toArray, List.set_cons_zero, List.set_cons_succ]
            refine wpAnyH_take (i := 7) (v := .bool false) rfl (by kernel_rfl) (by kernel_rfl) (by kernel_rfl) (fun _ _ _ h => h) (Or.inl ⟨by kernel_rfl, ?_⟩) hHeld ?_
            · intro w' hSw; go_simp
            try simp only [Act.put, List.setIfInBounds_toArray, List.set_cons_zero, List.set_cons_succ, List.getElem_toArray, List.getElem_cons_succ, List.getElem_cons_zero]
            refine wpAnyH_done (by kernel_rfl) ?_ _
            clear hHeld
            have bz := bk0.trans (Below.mono bu bk0.size)
            clear bu A1u bk0
            go_wp2
            exact ⟨⟨i + 1, by omega, by rw [HKN.out], by go_num, A2, B⟩, by simp [intOf]; omega⟩
          have hst : Hid (stay x y z (A i) = true) := HS.out.trans (decide_eq_true ce)
          obtain ⟨rfl, rfl, rfl⟩ := ce
          have HKN := hid_of (kN_yes (P := fun i => stay s0 s1 s2 (A i)) hst.out)
          obtain ⟨kk, hkk⟩ : ∃ m, kN (fun i => stay s0 s1 s2 (A i)) i = m := ⟨_, rfl⟩
          have HKK := hid_of hkk
          rw [hkk] at hkn ⊢
          have hwk : IntKind.i64.wrap ((kk : Int) + 1) = (kk : Int) + 1 := IntWalk.i64_in _ (by omega)
          clear HS hkk hst
          go_wp2_with fail
          obtain ⟨u0, hu0, bb⟩ : ∃ uu, wr.drew = uu ∧ Below wr.heap.size wr uu := ⟨_, rfl, (Below.refl _ _).drew⟩
          replace A2 := A2.below bb
          replace B := B.trans (bb.mono B.size)
          have A1u := A2
          have bk0 : Kb wr u0 := bb
          clear bb
          refine wp_region_held_drew (S := Kb u0) (by kernel_rfl) (by rw [hu0]; exact Below.refl _ _) (fun hHeld => ?_)
          rw [hu0] at hHeld ⊢
          clear hu0
          have bu : Kb u0 u0 := Below.refl _ _
          change wpAnyH _ _ _ _ _ 8 #[false, false, false, false, false, false, false, false] _ _
          refine wpAnyH_take (i := 0) (v := .slice ((some ⟨g, 0, none⟩)) n c) rfl (by kernel_rfl) (by kernel_rfl) (by kernel_rfl) (fun _ _ _ h => h) (Or.inl ⟨by kernel_rfl, ?_⟩) hHeld ?_
          · intro w' hSw; go_simp
          try simp only [Act.put, List.setIfInBounds_toArray, List.set_cons_zero, List.set_cons_succ, List.getElem_toArray, List.getElem_cons_zero]
          refine wpAnyH_take (i := 1) (v := .int .i64 ((i : Int))) rfl (by kernel_rfl) (by kernel_rfl) (by kernel_rfl) (fun _ _ _ h => h) (Or.inl ⟨by kernel_rfl, ?_⟩) hHeld ?_
          · intro w' hSw; go_simp
          try simp only [Act.put, List.setIfInBounds_toArray, List.set_cons_zero, List.set_cons_succ, List.getElem_toArray, List.getElem_cons_succ, List.getElem_cons_zero]
          refine wpAnyH_take (i := 2) (v := .pointer (some ⟨g, i * 2, none⟩)) rfl (by kernel_rfl) (by kernel_rfl) (by kernel_rfl) (fun _ _ _ h => h) (Or.inl ⟨by kernel_rfl, ?_⟩) hHeld ?_
          · intro w' hSw; go_simp
          try simp only [Act.put, List.setIfInBounds_toArray, List.set_cons_zero, List.set_cons_succ, List.getElem_toArray, List.getElem_cons_succ, List.getElem_cons_zero]
          refine wpAnyH_take (i := 3) (v := .agg #[.slice (some ⟨bm, om, none⟩) 9 c1, .slice (some ⟨bt, ot, none⟩) 3 d1]) rfl (by kernel_rfl) (by kernel_rfl) (by kernel_rfl) (fun _ _ _ h => h) (Or.inl ⟨by kernel_rfl, ?_⟩) hHeld ?_
          · intro w' hSw; obtain ⟨z0, z1⟩ := HQ.out _ (bk0.trans (Below.mono hSw bk0.size)); go_simp
          try simp only [Act.put, List.setIfInBounds_toArray, List.set_cons_zero, List.set_cons_succ, List.getElem_toArray, List.getElem_cons_succ, List.getElem_cons_zero]
          refine wpAnyH_take (i := 4) (v := .agg #[.int .i64 s0, .int .i64 s1, .int .i64 s2]) rfl (by kernel_rfl) (by kernel_rfl) (by kernel_rfl) (fun _ _ _ h => h) (Or.inl ⟨by kernel_rfl, ?_⟩) hHeld ?_
          · intro w' hSw; obtain ⟨z0, z1, z2, -⟩ := (A1u.below hSw).open3; go_simp
          try simp only [Act.put, List.setIfInBounds_toArray, List.set_cons_zero, List.set_cons_succ, List.getElem_toArray, List.getElem_cons_succ, List.getElem_cons_zero]
          refine wpAnyH_take (i := 6) (v := .agg #[.int .i64 s0, .int .i64 s1, .int .i64 s2]) rfl (by kernel_rfl) (by kernel_rfl) (by kernel_rfl) (fun _ _ _ h => h) (Or.inl ⟨by kernel_rfl, ?_⟩) hHeld ?_
          · intro w' hSw; obtain ⟨z0, z1, z2, -⟩ := (A1u.below hSw).open3; go_simp
          try simp only [Act.put, List.setIfInBounds_toArray, List.set_cons_zero, List.set_cons_succ, List.getElem_toArray, List.getElem_cons_succ, List.getElem_cons_zero]
          refine wpAnyH_ready (rs := [5]) (by kernel_rfl) (by simp) ?_
          refine AllReadyH.cons rfl (fun KK hK' => ?_) AllReadyH.nil
          go_simp
          refine (TU _ (bk0.trans (Below.mono bu bk0.size))).mono ?_
          rintro e u1 ⟨rfl, bb⟩
          replace A2 := A2.below bb
          replace B := B.trans (bb.mono B.size)
          replace bu : Kb u0 u1 := bu.trans (bb.mono bu.size)
          clear bb
          try go_wp2_with fail
          clear hHeld
          refine hK'.out _ _ (bu) (fun hHeld => ?_)
          clear hK' KK
          try simp only [List.setIfInBounds_toArray, List.set_cons_zero, List.set_cons_succ]
          refine wpAnyH_take (i := 7) (v := .bool true) rfl (by kernel_rfl) (by kernel_rfl) (by kernel_rfl) (fun _ _ _ h => h) (Or.inl ⟨by kernel_rfl, ?_⟩) hHeld ?_
          · intro w' hSw; go_simp
          try simp only [Act.put, List.setIfInBounds_toArray, List.set_cons_zero, List.set_cons_succ, List.getElem_toArray, List.getElem_cons_succ, List.getElem_cons_zero]
          refine wpAnyH_done (by kernel_rfl) ?_ _
          clear hHeld
          have bz := bk0.trans (Below.mono bu bk0.size)
          clear bu A1u bk0
          go_wp2
          exact ⟨⟨i + 1, by omega, by rw [HKN.out, HKK.out]; go_num, by go_num, A2, B⟩, by simp [intOf]; omega⟩
          --}Q
        · obtain rfl : i = n := by omega
          have hlt2' : ¬ (i : Int) < (i : Int) := by omega
          have hSp : 0 < kN (fun i => stay x y z (A i)) i := by rw [stN_stay]; exact stN_pos HG.out HP.out
          have hrk : rkN i A q = i / kN (fun i => stay x y z (A i)) i := by unfold rkN; rw [HPX.out, stN_stay]
          obtain ⟨S, hS⟩ : ∃ S, kN (fun i => stay x y z (A i)) i = S := ⟨_, rfl⟩
          rw [hS] at hSp hrk hkn ⊢
          obtain ⟨r, hr⟩ : ∃ r, i / S = r := ⟨_, rfl⟩
          have hdiv : Int.tdiv (i : Int) (S : Int) = (r : Int) := by rw [Int.tdiv_eq_ediv_of_nonneg (by omega), ← hr]; rfl
          have hri : r ≤ i := by rw [← hr]; exact Nat.div_le_self _ _
          rw [hr] at hrk
          have hr3 : r < 193 := by omega
          have hri3 : (r : Int) < 193 := by omega
          have hS0 : ¬ (S : Int) = 0 := by omega
          have hS0' : ((S : Int) == 0) = false := by simp; omega
          have hwr : wrap64 (r : Int) = (r : Int) := by unfold wrap64; omega
          have T7 := T6.out.below B
          obtain ⟨kr, fr⟩ := T7.cell hr3
          have hc := cqN_le i A q r
          obtain ⟨e1, e3⟩ := cqN_next hrk
          have T8 := hid_of (T7.set hr3 e1 (fun s _ hs => e3 s hs))
          obtain ⟨cn, hcn⟩ : ∃ x : Nat, cqN i A q r = x := ⟨_, rfl⟩
          rw [hcn] at kr T8 hc
          have hwc : IntKind.i64.wrap ((cn : Int) + 1) = (cn : Int) + 1 := IntWalk.i64_in _ (by omega)
          have HB7 := hid_of (B6.out.trans (B.mono B6.out.size))
          have K7 := hid_of (K6.out.below B)
          clear hS hr hrk e1 e3 hcn T7 T6 K6 B A2 A5h hSp hkn hri
          go_wp2
          have K8 : Hid (At 31 (wr.setCell ⟨gr, r, none⟩ (.int .i64 ((cn : Int) + 1))) p1 #[]) := (Below.heap_setCell _ _ _ p1 (by show p1 ≠ gr; omega)).trans K7.out
          exact ⟨⟨q + 1, by omega, by go_num, T8, K8, HB7.out.setCell (p := ⟨gr, r, none⟩) hgrw _⟩, by simp [intOf]; omega⟩
    · obtain rfl : q = 13824 := by omega
      have hlt' : ¬ (13824 : Int) < 13824 := by omega
      obtain ⟨C, hC⟩ : ∃ C, cqN n A 13824 = C := ⟨_, rfl⟩
      have HCK : Hid (ckN n A = C) := by rw [← hC]; rfl
      have hCle : Hid (∀ r, C r ≤ 13824) := fun r => by rw [← hC]; exact cqN_le n A 13824 r
      rw [hC] at T
      have O8 := hid_of (ArK.own (K := 2) (t := 31) (lo := w.heap.size) (n := 0) (c := 0) (f := flS []) ⟨#[], K.out, rfl, fun i hi => by omega⟩ hp1w (Nat.le_refl _) (Nat.zero_le _))
      clear K hC
      go_wp2
      go_loopw [3, 10] (fun v s wr => ∃ r N gq cq : Nat, r ≤ 193 ∧ s = .int .i64 (r : Int) ∧ Hid (N = (siL C r).length) ∧ v = .slice (some ⟨gq, 0, none⟩) N cq ∧ Hid (ArK 2 31 wr w.heap.size wr.heap.size v N (flS (siL C r))) ∧ Hid (RkT wr gr C) ∧ Below w.heap.size w wr) (fun _ s _ => 193 - (intOf s).toNat)
      case atStart => exact ⟨0, 0, _, _, Nat.zero_le _, rfl, rfl, rfl, O8, T, B0⟩
      case round =>
        clear O8 T B0
        obtain ⟨r, N, gq, cq, hr, rfl, HNN, rfl, O, T, B⟩ := hrel
        rename World => wz
        by_cases hlr : r < 193
        · have hlr' : (r : Int) < 193 := by omega
          obtain ⟨kr, -⟩ := T.out.cell hlr
          obtain ⟨cn, hcn⟩ : ∃ x : Nat, C r = x := ⟨_, rfl⟩
          rw [hcn] at kr
          have HCN := hid_of hcn
          clear hcn
          by_cases hpos : 0 < cn
          · have hp' : (0 : Int) < (cn : Int) := by omega
            have hN193 : N ≤ 193 := by rw [HNN.out]; exact Nat.le_trans (siL_len C r) hr
            have hgb : (Value.slice (some ⟨gq, 0, none⟩) N cq).ownBlock ≠ some gr := by
              obtain ⟨cur, a, -⟩ := T.out
              exact O.out.box a (by decide)
            obtain ⟨W9, hW9, A9, b9, -⟩ := boxed wz 31 #[.int .i64 (cn : Int), .int .i64 (r : Int)]
            obtain ⟨q9, hq9⟩ : ∃ q, wz.heap.size = q := ⟨_, rfl⟩
            have HQ9 := hid_of hq9
            rw [hq9] at A9
            have T9 := hid_of (T.out.below b9)
            have B9 := hid_of (B.trans (b9.mono B.size))
            have HO9 : Hid (ArK 2 31 W9 w.heap.size W9.heap.size (.slice (some ⟨gq, 0, none⟩) N cq) N (flS (siL C r))) := (O.out.below b9).wide (Nat.le_refl _) b9.size
            have HR9 := hid_of (two_recs (x := ((cn : Int), (r : Int))) A9)
            have hbs2 := hbs1 (cn : Int) (r : Int) wz
            rw [hW9, hq9] at hbs2
            clear O T B A9 b9 hq9
            go_wp2_with (at_builtin; refine Hid.out (?_ : Hid _))
            refine (?_ : wpList _ _ _ _ _ _)
            rw [HQ9.out]
            refine wpListK_append Tryz.underlying27 infoSite rfl (by omega) (by omega) W9 rfl _ _ rfl (v := .slice (some ⟨gq, 0, none⟩) N cq) rfl HO9.out (ad := some ⟨q9, 0, none⟩) (m := 1) (c := 1) rfl (.inr ⟨q9, rfl, HR9.out⟩) (fun h => by cases h) (by omega) B9.out.size ?_
            intro v10 w10 hA10 hOnly hnn
            have hsi : siL C (r + 1) = siL C r ++ [((cn : Int), (r : Int))] := by
              rw [← HCN.out] at hpos ⊢
              conv => lhs; unfold siL
              rw [if_pos hpos]
            have hA11 : ArK 2 31 w10 w.heap.size w10.heap.size v10 (N + 1) (flS (siL C (r + 1))) := by
              rw [hsi]
              refine hA10.same (fun i hi => ?_)
              have := flS_add (siL C r) ((cn : Int), (r : Int)) i (by rw [← HNN.out]; exact hi)
              rwa [← HNN.out] at this
            obtain ⟨g10, c10, e10, -⟩ := hA11.nn (hnn (by intro h; cases h))
            subst e10
            have HA11 := hid_of hA11
            have T10 : Hid (RkT w10 gr C) := by
              obtain ⟨cur, a, h1⟩ := T9.out
              exact ⟨cur, a.only hOnly hgb, h1⟩
            have B10 : Below w.heap.size w w10 := hOnly.belowK HO9.out (Nat.le_refl _) B9.out B9.out.size
            have HLN : Hid (N + 1 = (siL C (r + 1)).length) := by rw [hsi, List.length_append, ← HNN.out]; rfl
            clear hA10 hOnly hnn hA11 HO9 HR9 B9 hbs2 hW9 hsi
            go_wp2
            exact ⟨⟨r + 1, N + 1, g10, c10, by omega, by go_num, HLN, rfl, HA11, T10, B10⟩, by simp [intOf]; omega⟩
          · have hp' : ¬ (0 : Int) < (cn : Int) := by omega
            have hsi : siL C (r + 1) = siL C r := by
              rw [← HCN.out] at hpos
              conv => lhs; unfold siL
              rw [if_neg hpos]
            have HNN2 : Hid (N = (siL C (r + 1)).length) := by rw [hsi]; exact HNN
            have O2 : Hid (ArK 2 31 wz w.heap.size wz.heap.size (.slice (some ⟨gq, 0, none⟩) N cq) N (flS (siL C (r + 1)))) := by rw [hsi]; exact O
            clear hsi O HNN
            go_wp2
            exact ⟨⟨r + 1, N, gq, cq, by omega, by go_num, HNN2, rfl, O2, T, B⟩, by simp [intOf]; omega⟩
        · obtain rfl : r = 193 := by omega
          have hlr' : ¬ (193 : Int) < 193 := by omega
          have hN := HNN.out
          subst hN
          go_wp2
          go_ret
          refine ⟨⟨siL C 193, gq, cq, .inl ⟨HG.out, by rw [HCK.out]⟩, rfl, O.out⟩, B⟩
end Go.Proofs.YtgjhbkpocbihbaaGreat
