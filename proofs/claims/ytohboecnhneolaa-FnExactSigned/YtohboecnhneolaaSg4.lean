/-
  Signed by the specification; the law: walked.
-/
import Derived.Test.YtohboecnhneolaaSg3
import Derived.ChangeKeysEq
namespace Go.Proofs.Ytohboecnhneolaa
open Go.RowKit

theorem eqQ (a b c d a' b' c' d' : Int) (w : World) : (Op.equalIn 10000 30 (cV a b c d) (cV a' b' c' d')).run Try.prog w = .ok (decide (a = a' ∧ b = b' ∧ c = c' ∧ d = d')) w := by
  have hS : Try.prog.underlying 30 = some (.struct (Try.prog.fieldsOf 30)) := by kernel_rfl
  have hp : Try.prog.stoodInHeld 30 = false := by kernel_rfl
  have p0 : ∀ a b c d : Int, (Go.part 2 #[.int .i64 a, .int .i64 b, .int .i64 c, .int .i64 d] 0).run Try.prog w = .ok (.int .i64 a) w := fun _ _ _ _ => by kernel_rfl
  have p1 : ∀ a b c d : Int, (Go.part 2 #[.int .i64 a, .int .i64 b, .int .i64 c, .int .i64 d] 1).run Try.prog w = .ok (.int .i64 b) w := fun _ _ _ _ => by kernel_rfl
  have p2 : ∀ a b c d : Int, (Go.part 2 #[.int .i64 a, .int .i64 b, .int .i64 c, .int .i64 d] 2).run Try.prog w = .ok (.int .i64 c) w := fun _ _ _ _ => by kernel_rfl
  have p3 : ∀ a b c d : Int, (Go.part 2 #[.int .i64 a, .int .i64 b, .int .i64 c, .int .i64 d] 3).run Try.prog w = .ok (.int .i64 d) w := fun _ _ _ _ => by kernel_rfl
  have q : ∀ x y : Int, (Op.equalIn (9998 + 1) 2 (.int .i64 x) (.int .i64 y)).run Try.prog w = .ok (x == y) w := fun x y => run_equalIn_int w 9998 2 .i64 .i64 x y Try.underlying2
  rw [show (10000 : Nat) = 9999 + 1 from rfl, run_equalIn_agg w 9999 30 _ _ hS hp]
  simp only [Program.fieldsOf, Try.underlying30]
  simp only [Op.eqFields]
  rw [if_pos (show "X" ≠ "_" by decide), if_pos (show "Y" ≠ "_" by decide), if_pos (show "Z" ≠ "_" by decide), if_pos (show "F" ≠ "_" by decide)]
  by_cases h0 : a = a'
  · by_cases h1 : b = b'
    · by_cases h2 : c = c'
      · by_cases h3 : d = d'
        · simp [p0, p1, p2, p3, q, h0, h1, h2, h3]
        · simp [p0, p1, p2, p3, q, h0, h1, h2, h3]
      · simp [p0, p1, p2, q, h0, h1, h2]
    · simp [p0, p1, q, h0, h1]
  · simp [p0, q, h0]
def Kb (V w : World) : Prop := Below V.heap.size V w
def AnyW (_ : World) : Prop := True
/-- The two boxes. -/
def CutB (w wc : World) (q4 : Nat) (x y : Q4A) (s5 : Value) : Prop :=
  ∃ q5, s5 = .pointer (some ⟨q5, 0, none⟩) ∧ At 30 wc q4 #[.int .i64 x.1, .int .i64 x.2.1, .int .i64 x.2.2.1, .int .i64 x.2.2.2] ∧ At 30 wc q5 #[.int .i64 y.1, .int .i64 y.2.1, .int .i64 y.2.2.1, .int .i64 y.2.2.2] ∧ Below w.heap.size w wc
set_option maxRecDepth 100000 in
set_option maxHeartbeats 4000000 in
theorem specSigned_any {w : World} {g n c : Nat} {f : Nat → Int} (h : Quads w g n f) (hn : n ≤ 1048576) (b : Bool) (hb : b = true ↔ SgT n f) :
    Calls Try.prog 5 #[.slice (some ⟨g, 0, none⟩) n c] w fun e w' => e = .returned (.bool b) ∧ Below w.heap.size w w' := by
  obtain ⟨ao, hao⟩ : ∃ b : Bool, b = true ↔ AOk n f := by
    by_cases h : AOk n f
    · exact ⟨true, by simp [h]⟩
    · exact ⟨false, by simp [h]⟩
  have HBb := hid_of hb
  clear hb
  go_enter Try.func5, Try.ntmps5
  go_wp2_with fail
  refine (specAtoms_any h hn ao hao).mono ?_
  rintro e w1 ⟨rfl, b1⟩
  cases ao
  · have eb : b = false := by
      rw [Bool.eq_false_iff]
      intro e
      exact absurd (hao.2 (HBb.out.1 e).1) (by decide)
    have HE := hid_of eb
    clear hao eb HBb
    go_wp2
    go_ret
    exact ⟨by rw [HE.out]; rfl, b1⟩
  have HOK := hid_of (hao.1 rfl)
  have hn2 : n ≤ 200 := HOK.out.1
  have hn' : (n : Int) ≤ 200 := by omega
  have HQ0 := hid_of h
  clear hao hn h
  go_wp2
  go_loopw [3] (fun s wr => ∃ i : Nat, i ≤ n ∧ s = .int .i64 (i : Int) ∧ Hid (∀ j, j < i → sur f n (qA f j) = 0) ∧ Below w.heap.size w wr) (fun s _ => n - (intOf s).toNat)
  case atStart => exact ⟨0, Nat.zero_le _, rfl, fun j hj => by omega, b1⟩
  case round =>
    clear b1
    obtain ⟨i, hi, rfl, D, B⟩ := hrel
    by_cases hlt : i < n
    rotate_left
    · have hlt' : ¬ (i : Int) < (n : Int) := by omega
      obtain rfl : i = n := by omega
      have HE := hid_of (HBb.out.2 ⟨HOK.out, D.out⟩)
      clear HBb D
      go_wp2
      go_ret
      exact ⟨by rw [HE.out]; rfl, B⟩
    have hlt' : (i : Int) < (n : Int) := by omega
    obtain ⟨c0, c1, c2, c3⟩ := (HQ0.out.below B).open i hlt
    have HRT := hid_of (qA_rt HOK.out hlt)
    obtain ⟨xa, hxa⟩ : ∃ x, f (i * 4) = x := ⟨_, rfl⟩
    obtain ⟨xb, hxb⟩ : ∃ x, f (i * 4 + 1) = x := ⟨_, rfl⟩
    obtain ⟨xc, hxc⟩ : ∃ x, f (i * 4 + 2) = x := ⟨_, rfl⟩
    obtain ⟨xd, hxd⟩ : ∃ x, f (i * 4 + 3) = x := ⟨_, rfl⟩
    have HQA : Hid (qA f i = (xa, xb, xc, xd)) := by unfold qA; rw [hxa, hxb, hxc, hxd]; exact rfl
    rw [HQA.out] at HRT
    rw [hxa] at c0
    rw [hxb] at c1
    rw [hxc] at c2
    rw [hxd] at c3
    clear hxa hxb hxc hxd
    obtain ⟨⟨x0, x1⟩, ⟨y0, y1⟩, ⟨z0, z1⟩, ⟨f0, f1⟩⟩ := HRT.out
    simp only at x0 x1 y0 y1 z0 z1 f0 f1
    have hwx : IntKind.i64.wrap (-xa) = -xa := IntWalk.i64_in _ (by omega)
    have hwy : IntKind.i64.wrap (-xb) = -xb := IntWalk.i64_in _ (by omega)
    have hwz : IntKind.i64.wrap (-xc) = -xc := IntWalk.i64_in _ (by omega)
    have HSX : Hid (is64 (-xa) ∧ is64 (-xb) ∧ is64 (-xc)) := ⟨⟨by omega, by omega⟩, ⟨by omega, by omega⟩, ⟨by omega, by omega⟩⟩
    clear x0 x1 y0 y1 z0 z1 f0 f1
    obtain ⟨W3, hW3, A4, bb, -⟩ := boxed wr 30 #[.int .i64 xa, .int .i64 xb, .int .i64 xc, .int .i64 xd]
    obtain ⟨q4, hq4⟩ : ∃ q, wr.heap.size = q := ⟨_, rfl⟩
    have HQ4 := hid_of hq4
    rw [hq4] at A4
    replace B := B.trans (bb.mono B.size)
    clear bb hq4
    go_wp2_with fail
    try rw [HQ4.out]
    clear hW3 HQ4 c0 c1 c2 c3
    obtain ⟨ya, hya⟩ : ∃ x, (-xa) % 12 = x := ⟨_, rfl⟩
    obtain ⟨yb, hyb⟩ : ∃ x, (-xb) % 12 = x := ⟨_, rfl⟩
    obtain ⟨yc, hyc⟩ : ∃ x, (-xc) % 12 = x := ⟨_, rfl⟩
    have HOP : Hid (opA (xa, xb, xc, xd) = (ya, yb, yc, xd)) := hid_of (by rw [← hya, ← hyb, ← hyc]; rfl)
    go_cut [5] from 21 to 35 (fun s5 wc => CutB w wc q4 (xa, xb, xc, xd) (ya, yb, yc, xd) s5)
    case first =>
      obtain ⟨u0, hu0, bb⟩ : ∃ uu, W3.drew = uu ∧ Below W3.heap.size W3 uu := ⟨_, rfl, (Below.refl _ _).drew⟩
      replace A4 := A4.below bb
      replace B := B.trans (bb.mono B.size)
      clear bb
      refine wp_region_held_drew (S := fun w' => At 30 w' q4 #[.int .i64 xa, .int .i64 xb, .int .i64 xc, .int .i64 xd]) (by kernel_rfl) (by rw [hu0]; exact A4) (fun hHeld => ?_)
      rw [hu0] at hHeld ⊢
      clear hu0
      change wpAnyH _ _ _ _ _ 17 #[false, false, false, false, false, false, false, false, false, false, false, false, false, false, false, false, false] _ _
      refine wpAnyH_take (i := 0) (v := .pointer (some ⟨q4, 0, none⟩)) rfl (by kernel_rfl) (by kernel_rfl) (by kernel_rfl) (fun _ _ _ h => h) (Or.inl ⟨by kernel_rfl, ?_⟩) hHeld ?_
      · intro w' hSw; go_simp
      try simp only [Act.put, List.setIfInBounds_toArray, List.set_cons_zero, List.set_cons_succ, List.getElem_toArray, List.getElem_cons_zero]
      refine wpAnyH_take (i := 1) (v := .int .i64 (xa)) rfl (by kernel_rfl) (by kernel_rfl) (by kernel_rfl) (fun _ _ _ h => h) (Or.inl ⟨by kernel_rfl, ?_⟩) hHeld ?_
      · intro w' hSw; obtain ⟨z0, z1, z2, z3, -⟩ := At.open4 hSw; go_simp
      try simp only [Act.put, List.setIfInBounds_toArray, List.set_cons_zero, List.set_cons_succ, List.getElem_toArray, List.getElem_cons_succ, List.getElem_cons_zero]
      refine wpAnyH_take (i := 2) (v := .int .i64 (-xa)) rfl (by kernel_rfl) (by kernel_rfl) (by kernel_rfl) (fun _ _ _ h => h) (Or.inl ⟨by kernel_rfl, ?_⟩) hHeld ?_
      · intro w' hSw; go_simp
      try simp only [Act.put, List.setIfInBounds_toArray, List.set_cons_zero, List.set_cons_succ, List.getElem_toArray, List.getElem_cons_succ, List.getElem_cons_zero]
      refine wpAnyH_take (i := 4) (v := .pointer (some ⟨q4, 1, none⟩)) rfl (by kernel_rfl) (by kernel_rfl) (by kernel_rfl) (fun _ _ _ h => h) (Or.inl ⟨by kernel_rfl, ?_⟩) hHeld ?_
      · intro w' hSw; go_simp
      try simp only [Act.put, List.setIfInBounds_toArray, List.set_cons_zero, List.set_cons_succ, List.getElem_toArray, List.getElem_cons_succ, List.getElem_cons_zero]
      refine wpAnyH_take (i := 5) (v := .int .i64 (xb)) rfl (by kernel_rfl) (by kernel_rfl) (by kernel_rfl) (fun _ _ _ h => h) (Or.inl ⟨by kernel_rfl, ?_⟩) hHeld ?_
      · intro w' hSw; obtain ⟨z0, z1, z2, z3, -⟩ := At.open4 hSw; go_simp
      try simp only [Act.put, List.setIfInBounds_toArray, List.set_cons_zero, List.set_cons_succ, List.getElem_toArray, List.getElem_cons_succ, List.getElem_cons_zero]
      refine wpAnyH_take (i := 6) (v := .int .i64 (-xb)) rfl (by kernel_rfl) (by kernel_rfl) (by kernel_rfl) (fun _ _ _ h => h) (Or.inl ⟨by kernel_rfl, ?_⟩) hHeld ?_
      · intro w' hSw; go_simp
      try simp only [Act.put, List.setIfInBounds_toArray, List.set_cons_zero, List.set_cons_succ, List.getElem_toArray, List.getElem_cons_succ, List.getElem_cons_zero]
      refine wpAnyH_take (i := 8) (v := .pointer (some ⟨q4, 2, none⟩)) rfl (by kernel_rfl) (by kernel_rfl) (by kernel_rfl) (fun _ _ _ h => h) (Or.inl ⟨by kernel_rfl, ?_⟩) hHeld ?_
      · intro w' hSw; go_simp
      try simp only [Act.put, List.setIfInBounds_toArray, List.set_cons_zero, List.set_cons_succ, List.getElem_toArray, List.getElem_cons_succ, List.getElem_cons_zero]
      refine wpAnyH_take (i := 9) (v := .int .i64 (xc)) rfl (by kernel_rfl) (by kernel_rfl) (by kernel_rfl) (fun _ _ _ h => h) (Or.inl ⟨by kernel_rfl, ?_⟩) hHeld ?_
      · intro w' hSw; obtain ⟨z0, z1, z2, z3, -⟩ := At.open4 hSw; go_simp
      try simp only [Act.put, List.setIfInBounds_toArray, List.set_cons_zero, List.set_cons_succ, List.getElem_toArray, List.getElem_cons_succ, List.getElem_cons_zero]
      refine wpAnyH_take (i := 10) (v := .int .i64 (-xc)) rfl (by kernel_rfl) (by kernel_rfl) (by kernel_rfl) (fun _ _ _ h => h) (Or.inl ⟨by kernel_rfl, ?_⟩) hHeld ?_
      · intro w' hSw; go_simp
      try simp only [Act.put, List.setIfInBounds_toArray, List.set_cons_zero, List.set_cons_succ, List.getElem_toArray, List.getElem_cons_succ, List.getElem_cons_zero]
      refine wpAnyH_take (i := 12) (v := .pointer (some ⟨q4, 3, none⟩)) rfl (by kernel_rfl) (by kernel_rfl) (by kernel_rfl) (fun _ _ _ h => h) (Or.inl ⟨by kernel_rfl, ?_⟩) hHeld ?_
      · intro w' hSw; go_simp
      try simp only [Act.put, List.setIfInBounds_toArray, List.set_cons_zero, List.set_cons_succ, List.getElem_toArray, List.getElem_cons_succ, List.getElem_cons_zero]
      refine wpAnyH_take (i := 13) (v := .int .i64 (xd)) rfl (by kernel_rfl) (by kernel_rfl) (by kernel_rfl) (fun _ _ _ h => h) (Or.inl ⟨by kernel_rfl, ?_⟩) hHeld ?_
      · intro w' hSw; obtain ⟨z0, z1, z2, z3, -⟩ := At.open4 hSw; go_simp
      try simp only [Act.put, List.setIfInBounds_toArray, List.set_cons_zero, List.set_cons_succ, List.getElem_toArray, List.getElem_cons_succ, List.getElem_cons_zero]
      refine wpAnyH_ready (rs := [3, 15]) (by kernel_rfl) (by simp) ?_
      refine AllReadyH.cons rfl (fun KK hK' => ?_) (AllReadyH.cons rfl (fun KK hK' => ?_) AllReadyH.nil)
      · go_simp
        refine (smod_any (-xa) 12 _ HSX.out.1 (by omega)).mono ?_
        rintro e u1 ⟨rfl, rfl⟩
        rw [hya]
        try go_wp2_with fail
        clear hHeld
        refine hK'.out _ _ (A4) (fun hHeld => ?_)
        clear hK' KK
        try simp only [List.setIfInBounds_toArray, List.set_cons_zero, List.set_cons_succ]
        refine wpAnyH_ready (rs := [7, 15]) (by kernel_rfl) (by simp) ?_
        refine AllReadyH.cons rfl (fun KK hK' => ?_) (AllReadyH.cons rfl (fun KK hK' => ?_) AllReadyH.nil)
        · go_simp
          refine (smod_any (-xb) 12 _ HSX.out.2.1 (by omega)).mono ?_
          rintro e u2 ⟨rfl, rfl⟩
          rw [hyb]
          try go_wp2_with fail
          clear hHeld
          refine hK'.out _ _ (A4) (fun hHeld => ?_)
          clear hK' KK
          try simp only [List.setIfInBounds_toArray, List.set_cons_zero, List.set_cons_succ]
          refine wpAnyH_ready (rs := [11, 15]) (by kernel_rfl) (by simp) ?_
          refine AllReadyH.cons rfl (fun KK hK' => ?_) (AllReadyH.cons rfl (fun KK hK' => ?_) AllReadyH.nil)
          · go_simp
            refine (smod_any (-xc) 12 _ HSX.out.2.2 (by omega)).mono ?_
            rintro e u3 ⟨rfl, rfl⟩
            rw [hyc]
            try go_wp2_with fail
            clear hHeld
            refine hK'.out _ _ (A4) (fun hHeld => ?_)
            clear hK' KK
            try simp only [List.setIfInBounds_toArray, List.set_cons_zero, List.set_cons_succ]
            refine wpAnyH_take (i := 14) (v := cV ya yb yc xd) rfl (by kernel_rfl) (by kernel_rfl) (by kernel_rfl) (fun _ _ _ h => h) (Or.inl ⟨by kernel_rfl, ?_⟩) hHeld ?_
            · intro w' hSw; go_simp
            try simp only [Act.put, List.setIfInBounds_toArray, List.set_cons_zero, List.set_cons_succ, List.getElem_toArray, List.getElem_cons_succ, List.getElem_cons_zero]
            refine wpAnyH_ready (rs := [15]) (by kernel_rfl) (by simp) ?_
            refine AllReadyH.cons rfl (fun KK hK' => ?_) AllReadyH.nil
            obtain ⟨u4, hVu4, A5, bb, -⟩ := boxed u0 30 #[.int .i64 0, .int .i64 0, .int .i64 0, .int .i64 0]
            obtain ⟨q5, hq5⟩ : ∃ q, u0.heap.size = q := ⟨_, rfl⟩
            go_simp
            rw [hq5] at A5
            try rw [hVu4]
            try rw [hq5]
            have h45 : q4 ≠ q5 := by have := A4.lt; omega
            have hq5w : w.heap.size ≤ q5 := by have := B.size; omega
            replace A4 := A4.below bb
            replace B := B.trans (bb.mono B.size)
            clear bb hVu4 hq5
            clear hHeld
            refine hK'.out _ _ (A4) (fun hHeld => ?_)
            clear hK' KK
            try simp only [List.setIfInBounds_toArray, List.set_cons_zero, List.set_cons_succ]
            refine wpAnyH_ready (rs := [16]) (by kernel_rfl) (by simp) ?_
            refine AllReadyH.cons rfl (fun KK hK' => ?_) AllReadyH.nil
            obtain ⟨y0, y1, y2, y3, y4, y5, y6, y7⟩ := A5.open4
            go_simp
            have A6 := put4_at A5 (.int .i64 ya) (.int .i64 yb) (.int .i64 yc) (.int .i64 xd)
            replace A4 := (At.setOther (At.setOther (At.setOther (At.setOther A4 h45 (.int .i64 ya) (i := 0)) h45 (.int .i64 yb) (i := 1)) h45 (.int .i64 yc) (i := 2)) h45 (.int .i64 xd) (i := 3))
            replace B := below_put4 B hq5w (.int .i64 ya) (.int .i64 yb) (.int .i64 yc) (.int .i64 xd)
            obtain ⟨u5, hv⟩ : ∃ V, (((u4.setCell ⟨q5, 0, none⟩ (.int .i64 ya)).setCell ⟨q5, 1, none⟩ (.int .i64 yb)).setCell ⟨q5, 2, none⟩ (.int .i64 yc)).setCell ⟨q5, 3, none⟩ (.int .i64 xd) = V := ⟨_, rfl⟩
            rw [hv] at A4 A6 B ⊢
            clear hv A5 y0 y1 y2 y3 y4 y5 y6 y7
            clear hHeld
            refine hK'.out _ _ (A4) (fun hHeld => ?_)
            clear hK' KK
            try simp only [List.setIfInBounds_toArray, List.set_cons_zero, List.set_cons_succ]
            refine wpAnyH_done (by kernel_rfl) ?_ _
            clear hHeld
            go_wp2_with fail
            go_meet
            case rel => exact ⟨q5, rfl, A4, A6, B⟩
          · obtain ⟨u3, hVu3, A5, bb, -⟩ := boxed u0 30 #[.int .i64 0, .int .i64 0, .int .i64 0, .int .i64 0]
            obtain ⟨q5, hq5⟩ : ∃ q, u0.heap.size = q := ⟨_, rfl⟩
            go_simp
            rw [hq5] at A5
            try rw [hVu3]
            try rw [hq5]
            have h45 : q4 ≠ q5 := by have := A4.lt; omega
            have hq5w : w.heap.size ≤ q5 := by have := B.size; omega
            replace A4 := A4.below bb
            replace B := B.trans (bb.mono B.size)
            clear bb hVu3 hq5
            clear hHeld
            refine hK'.out _ _ (A4) (fun hHeld => ?_)
            clear hK' KK
            try simp only [List.setIfInBounds_toArray, List.set_cons_zero, List.set_cons_succ]
            refine wpAnyH_ready (rs := [11]) (by kernel_rfl) (by simp) ?_
            refine AllReadyH.cons rfl (fun KK hK' => ?_) AllReadyH.nil
            go_simp
            refine (smod_any (-xc) 12 _ HSX.out.2.2 (by omega)).mono ?_
            rintro e u4 ⟨rfl, rfl⟩
            rw [hyc]
            try go_wp2_with fail
            clear hHeld
            refine hK'.out _ _ (A4) (fun hHeld => ?_)
            clear hK' KK
            try simp only [List.setIfInBounds_toArray, List.set_cons_zero, List.set_cons_succ]
            refine wpAnyH_take (i := 14) (v := cV ya yb yc xd) rfl (by kernel_rfl) (by kernel_rfl) (by kernel_rfl) (fun _ _ _ h => h) (Or.inl ⟨by kernel_rfl, ?_⟩) hHeld ?_
            · intro w' hSw; go_simp
            try simp only [Act.put, List.setIfInBounds_toArray, List.set_cons_zero, List.set_cons_succ, List.getElem_toArray, List.getElem_cons_succ, List.getElem_cons_zero]
            refine wpAnyH_ready (rs := [16]) (by kernel_rfl) (by simp) ?_
            refine AllReadyH.cons rfl (fun KK hK' => ?_) AllReadyH.nil
            obtain ⟨y0, y1, y2, y3, y4, y5, y6, y7⟩ := A5.open4
            go_simp
            have A6 := put4_at A5 (.int .i64 ya) (.int .i64 yb) (.int .i64 yc) (.int .i64 xd)
            replace A4 := (At.setOther (At.setOther (At.setOther (At.setOther A4 h45 (.int .i64 ya) (i := 0)) h45 (.int .i64 yb) (i := 1)) h45 (.int .i64 yc) (i := 2)) h45 (.int .i64 xd) (i := 3))
            replace B := below_put4 B hq5w (.int .i64 ya) (.int .i64 yb) (.int .i64 yc) (.int .i64 xd)
            obtain ⟨u5, hv⟩ : ∃ V, (((u3.setCell ⟨q5, 0, none⟩ (.int .i64 ya)).setCell ⟨q5, 1, none⟩ (.int .i64 yb)).setCell ⟨q5, 2, none⟩ (.int .i64 yc)).setCell ⟨q5, 3, none⟩ (.int .i64 xd) = V := ⟨_, rfl⟩
            rw [hv] at A4 A6 B ⊢
            clear hv A5 y0 y1 y2 y3 y4 y5 y6 y7
            clear hHeld
            refine hK'.out _ _ (A4) (fun hHeld => ?_)
            clear hK' KK
            try simp only [List.setIfInBounds_toArray, List.set_cons_zero, List.set_cons_succ]
            refine wpAnyH_done (by kernel_rfl) ?_ _
            clear hHeld
            go_wp2_with fail
            go_meet
            case rel => exact ⟨q5, rfl, A4, A6, B⟩
        · obtain ⟨u2, hVu2, A5, bb, -⟩ := boxed u0 30 #[.int .i64 0, .int .i64 0, .int .i64 0, .int .i64 0]
          obtain ⟨q5, hq5⟩ : ∃ q, u0.heap.size = q := ⟨_, rfl⟩
          go_simp
          rw [hq5] at A5
          try rw [hVu2]
          try rw [hq5]
          have h45 : q4 ≠ q5 := by have := A4.lt; omega
          have hq5w : w.heap.size ≤ q5 := by have := B.size; omega
          replace A4 := A4.below bb
          replace B := B.trans (bb.mono B.size)
          clear bb hVu2 hq5
          clear hHeld
          refine hK'.out _ _ (A4) (fun hHeld => ?_)
          clear hK' KK
          try simp only [List.setIfInBounds_toArray, List.set_cons_zero, List.set_cons_succ]
          refine wpAnyH_ready (rs := [7]) (by kernel_rfl) (by simp) ?_
          refine AllReadyH.cons rfl (fun KK hK' => ?_) AllReadyH.nil
          go_simp
          refine (smod_any (-xb) 12 _ HSX.out.2.1 (by omega)).mono ?_
          rintro e u3 ⟨rfl, rfl⟩
          rw [hyb]
          try go_wp2_with fail
          clear hHeld
          refine hK'.out _ _ (A4) (fun hHeld => ?_)
          clear hK' KK
          try simp only [List.setIfInBounds_toArray, List.set_cons_zero, List.set_cons_succ]
          refine wpAnyH_ready (rs := [11]) (by kernel_rfl) (by simp) ?_
          refine AllReadyH.cons rfl (fun KK hK' => ?_) AllReadyH.nil
          go_simp
          refine (smod_any (-xc) 12 _ HSX.out.2.2 (by omega)).mono ?_
          rintro e u4 ⟨rfl, rfl⟩
          rw [hyc]
          try go_wp2_with fail
          clear hHeld
          refine hK'.out _ _ (A4) (fun hHeld => ?_)
          clear hK' KK
          try simp only [List.setIfInBounds_toArray, List.set_cons_zero, List.set_cons_succ]
          refine wpAnyH_take (i := 14) (v := cV ya yb yc xd) rfl (by kernel_rfl) (by kernel_rfl) (by kernel_rfl) (fun _ _ _ h => h) (Or.inl ⟨by kernel_rfl, ?_⟩) hHeld ?_
          · intro w' hSw; go_simp
          try simp only [Act.put, List.setIfInBounds_toArray, List.set_cons_zero, List.set_cons_succ, List.getElem_toArray, List.getElem_cons_succ, List.getElem_cons_zero]
          refine wpAnyH_ready (rs := [16]) (by kernel_rfl) (by simp) ?_
          refine AllReadyH.cons rfl (fun KK hK' => ?_) AllReadyH.nil
          obtain ⟨y0, y1, y2, y3, y4, y5, y6, y7⟩ := A5.open4
          go_simp
          have A6 := put4_at A5 (.int .i64 ya) (.int .i64 yb) (.int .i64 yc) (.int .i64 xd)
          replace A4 := (At.setOther (At.setOther (At.setOther (At.setOther A4 h45 (.int .i64 ya) (i := 0)) h45 (.int .i64 yb) (i := 1)) h45 (.int .i64 yc) (i := 2)) h45 (.int .i64 xd) (i := 3))
          replace B := below_put4 B hq5w (.int .i64 ya) (.int .i64 yb) (.int .i64 yc) (.int .i64 xd)
          obtain ⟨u5, hv⟩ : ∃ V, (((u2.setCell ⟨q5, 0, none⟩ (.int .i64 ya)).setCell ⟨q5, 1, none⟩ (.int .i64 yb)).setCell ⟨q5, 2, none⟩ (.int .i64 yc)).setCell ⟨q5, 3, none⟩ (.int .i64 xd) = V := ⟨_, rfl⟩
          rw [hv] at A4 A6 B ⊢
          clear hv A5 y0 y1 y2 y3 y4 y5 y6 y7
          clear hHeld
          refine hK'.out _ _ (A4) (fun hHeld => ?_)
          clear hK' KK
          try simp only [List.setIfInBounds_toArray, List.set_cons_zero, List.set_cons_succ]
          refine wpAnyH_done (by kernel_rfl) ?_ _
          clear hHeld
          go_wp2_with fail
          go_meet
          case rel => exact ⟨q5, rfl, A4, A6, B⟩
      · obtain ⟨u1, hVu1, A5, bb, -⟩ := boxed u0 30 #[.int .i64 0, .int .i64 0, .int .i64 0, .int .i64 0]
        obtain ⟨q5, hq5⟩ : ∃ q, u0.heap.size = q := ⟨_, rfl⟩
        go_simp
        rw [hq5] at A5
        try rw [hVu1]
        try rw [hq5]
        have h45 : q4 ≠ q5 := by have := A4.lt; omega
        have hq5w : w.heap.size ≤ q5 := by have := B.size; omega
        replace A4 := A4.below bb
        replace B := B.trans (bb.mono B.size)
        clear bb hVu1 hq5
        clear hHeld
        refine hK'.out _ _ (A4) (fun hHeld => ?_)
        clear hK' KK
        try simp only [List.setIfInBounds_toArray, List.set_cons_zero, List.set_cons_succ]
        refine wpAnyH_ready (rs := [3]) (by kernel_rfl) (by simp) ?_
        refine AllReadyH.cons rfl (fun KK hK' => ?_) AllReadyH.nil
        go_simp
        refine (smod_any (-xa) 12 _ HSX.out.1 (by omega)).mono ?_
        rintro e u2 ⟨rfl, rfl⟩
        rw [hya]
        try go_wp2_with fail
        clear hHeld
        refine hK'.out _ _ (A4) (fun hHeld => ?_)
        clear hK' KK
        try simp only [List.setIfInBounds_toArray, List.set_cons_zero, List.set_cons_succ]
        refine wpAnyH_ready (rs := [7]) (by kernel_rfl) (by simp) ?_
        refine AllReadyH.cons rfl (fun KK hK' => ?_) AllReadyH.nil
        go_simp
        refine (smod_any (-xb) 12 _ HSX.out.2.1 (by omega)).mono ?_
        rintro e u3 ⟨rfl, rfl⟩
        rw [hyb]
        try go_wp2_with fail
        clear hHeld
        refine hK'.out _ _ (A4) (fun hHeld => ?_)
        clear hK' KK
        try simp only [List.setIfInBounds_toArray, List.set_cons_zero, List.set_cons_succ]
        refine wpAnyH_ready (rs := [11]) (by kernel_rfl) (by simp) ?_
        refine AllReadyH.cons rfl (fun KK hK' => ?_) AllReadyH.nil
        go_simp
        refine (smod_any (-xc) 12 _ HSX.out.2.2 (by omega)).mono ?_
        rintro e u4 ⟨rfl, rfl⟩
        rw [hyc]
        try go_wp2_with fail
        clear hHeld
        refine hK'.out _ _ (A4) (fun hHeld => ?_)
        clear hK' KK
        try simp only [List.setIfInBounds_toArray, List.set_cons_zero, List.set_cons_succ]
        refine wpAnyH_take (i := 14) (v := cV ya yb yc xd) rfl (by kernel_rfl) (by kernel_rfl) (by kernel_rfl) (fun _ _ _ h => h) (Or.inl ⟨by kernel_rfl, ?_⟩) hHeld ?_
        · intro w' hSw; go_simp
        try simp only [Act.put, List.setIfInBounds_toArray, List.set_cons_zero, List.set_cons_succ, List.getElem_toArray, List.getElem_cons_succ, List.getElem_cons_zero]
        refine wpAnyH_ready (rs := [16]) (by kernel_rfl) (by simp) ?_
        refine AllReadyH.cons rfl (fun KK hK' => ?_) AllReadyH.nil
        obtain ⟨y0, y1, y2, y3, y4, y5, y6, y7⟩ := A5.open4
        go_simp
        have A6 := put4_at A5 (.int .i64 ya) (.int .i64 yb) (.int .i64 yc) (.int .i64 xd)
        replace A4 := (At.setOther (At.setOther (At.setOther (At.setOther A4 h45 (.int .i64 ya) (i := 0)) h45 (.int .i64 yb) (i := 1)) h45 (.int .i64 yc) (i := 2)) h45 (.int .i64 xd) (i := 3))
        replace B := below_put4 B hq5w (.int .i64 ya) (.int .i64 yb) (.int .i64 yc) (.int .i64 xd)
        obtain ⟨u5, hv⟩ : ∃ V, (((u1.setCell ⟨q5, 0, none⟩ (.int .i64 ya)).setCell ⟨q5, 1, none⟩ (.int .i64 yb)).setCell ⟨q5, 2, none⟩ (.int .i64 yc)).setCell ⟨q5, 3, none⟩ (.int .i64 xd) = V := ⟨_, rfl⟩
        rw [hv] at A4 A6 B ⊢
        clear hv A5 y0 y1 y2 y3 y4 y5 y6 y7
        clear hHeld
        refine hK'.out _ _ (A4) (fun hHeld => ?_)
        clear hK' KK
        try simp only [List.setIfInBounds_toArray, List.set_cons_zero, List.set_cons_succ]
        refine wpAnyH_done (by kernel_rfl) ?_ _
        clear hHeld
        go_wp2_with fail
        go_meet
        case rel => exact ⟨q5, rfl, A4, A6, B⟩
    case rest =>
    rename World => w4
    clear A4 B hwx hwy hwz HSX hya hyb hyc
    obtain ⟨q5, rfl, A4, A5, B⟩ := hcut
    simp only at A4 A5
    go_wp2
    go_loopw [6, 7] (fun s t wz => ∃ (k : Nat) (m : Int), k ≤ n ∧ t = .int .i64 (k : Int) ∧ s = .int .i64 m ∧ Hid (cns f (xa, xb, xc, xd) (ya, yb, yc, xd) k = m) ∧ At 30 wz q4 #[.int .i64 xa, .int .i64 xb, .int .i64 xc, .int .i64 xd] ∧ At 30 wz q5 #[.int .i64 ya, .int .i64 yb, .int .i64 yc, .int .i64 xd] ∧ Below w.heap.size w wz) (fun _ t _ => n - (intOf t).toNat)
    case atStart => exact ⟨0, 0, Nat.zero_le _, rfl, rfl, rfl, A4, A5, B⟩
    case round =>
      clear A4 A5 B
      obtain ⟨k, m, hk, rfl, rfl, HM, A4, A5, B⟩ := hrel
      rename World => wz
      by_cases hkn : k < n
      rotate_left
      · have hk' : ¬ (k : Int) < (n : Int) := by omega
        obtain rfl : k = n := by omega
        have HS : Hid (sur f k (qA f i) = m) := by
          rw [HQA.out, ← HM.out, ← HOP.out]
          exact (cns_sur HOK.out HRT.out k (Nat.le_refl _)).symm
        clear A4 A5 HM HOP
        by_cases hm : m = 0
        · have D2 : Hid (∀ j, j < i + 1 → sur f k (qA f j) = 0) := fun j hj => by
            by_cases e : j = i
            · rw [e, HS.out]; exact hm
            · exact D.out j (by omega)
          clear D HS
          subst hm
          go_wp2
          exact ⟨⟨i + 1, by omega, by go_num, D2, B⟩, by simp [intOf]; omega⟩
        · have eb : b = false := not_sg HBb.out (x := qA f i) ⟨i, hlt, .inl rfl⟩ (by rw [HS.out]; exact hm)
          have HE := hid_of eb
          clear D HS eb
          go_wp2
          go_ret
          exact ⟨by rw [HE.out]; rfl, B⟩
      have hkn' : (k : Int) < (n : Int) := by omega
      have hbd := cns_le f (xa, xb, xc, xd) (ya, yb, yc, xd) k
      rw [HM.out] at hbd
      have hm1 : -200 ≤ m ∧ m ≤ 200 := by omega
      clear hbd
      obtain ⟨pa, hxa⟩ : ∃ x, f (k * 4) = x := ⟨_, rfl⟩
      obtain ⟨pb, hxb⟩ : ∃ x, f (k * 4 + 1) = x := ⟨_, rfl⟩
      obtain ⟨pc, hxc⟩ : ∃ x, f (k * 4 + 2) = x := ⟨_, rfl⟩
      obtain ⟨pd, hxd⟩ : ∃ x, f (k * 4 + 3) = x := ⟨_, rfl⟩
      have HQK : Hid (qA f k = (pa, pb, pc, pd)) := by unfold qA; rw [hxa, hxb, hxc, hxd]; exact rfl
      have CK : Hid (∀ wq, Kb wz wq → wq.cell? ⟨g, k * 4, none⟩ = some (.int .i64 pa) ∧ wq.cell? ⟨g, k * 4 + 1, none⟩ = some (.int .i64 pb) ∧ wq.cell? ⟨g, k * 4 + 2, none⟩ = some (.int .i64 pc) ∧ wq.cell? ⟨g, k * 4 + 3, none⟩ = some (.int .i64 pd)) := fun wq hq => by
        have := ((HQ0.out.below B).below hq).open k hkn
        rwa [hxa, hxb, hxc, hxd] at this
      clear hxa hxb hxc hxd
      obtain ⟨e1, he1⟩ : ∃ b, decide (pa = xa ∧ pb = xb ∧ pc = xc ∧ pd = xd) = b := ⟨_, rfl⟩
      obtain ⟨e2, he2⟩ : ∃ b, decide (pa = ya ∧ pb = yb ∧ pc = yc ∧ pd = xd) = b := ⟨_, rfl⟩
      have HI1 : Hid (qA f k = (xa, xb, xc, xd) ↔ e1 = true) := by rw [HQK.out, ← he1]; simp [Hid]
      have HI2 : Hid (qA f k = (ya, yb, yc, xd) ↔ e2 = true) := by rw [HQK.out, ← he2]; simp [Hid]
      have HE1 : Hid (∀ wq, (Op.equalIn 10000 30 (cV pa pb pc pd) (cV xa xb xc xd)).run Try.prog wq = .ok e1 wq) := fun wq => by rw [eqQ, he1]
      have HE2 : Hid (∀ wq, (Op.equalIn 10000 30 (cV pa pb pc pd) (cV ya yb yc xd)).run Try.prog wq = .ok e2 wq) := fun wq => by rw [eqQ, he2]
      have HN : Hid (cns f (xa, xb, xc, xd) (ya, yb, yc, xd) (k + 1) = m + (if e1 = true then 1 else 0) - (if e2 = true then 1 else 0)) := by
        simp only [cns, HM.out, HI1.out, HI2.out]
        trivial
      clear he1 he2 HQK HI1 HI2 HM HQA HOP
      go_wp2_with fail
      cases e1
      · skip
        obtain ⟨u0, hu0, bb⟩ : ∃ uu, wz.drew = uu ∧ Below wz.heap.size wz uu := ⟨_, rfl, (Below.refl _ _).drew⟩
        replace A4 := A4.below bb
        replace A5 := A5.below bb
        replace B := B.trans (bb.mono B.size)
        have A4u := A4
        have bk0 : Kb wz u0 := bb
        clear bb
        refine wp_region_held_drew (S := Kb u0) (by kernel_rfl) (by rw [hu0]; exact Below.refl _ _) (fun hHeld => ?_)
        rw [hu0] at hHeld ⊢
        clear hu0
        have bu : Kb u0 u0 := Below.refl _ _
        change wpAnyH _ _ _ _ _ 6 #[false, false, false, false, false, false] _ _
        refine wpAnyH_take (i := 0) (v := .slice ((some ⟨g, 0, none⟩)) n c) rfl (by kernel_rfl) (by kernel_rfl) (by kernel_rfl) (fun _ _ _ h => h) (Or.inl ⟨by kernel_rfl, ?_⟩) hHeld ?_
        · intro w' hSw; go_simp
        try simp only [Act.put, List.setIfInBounds_toArray, List.set_cons_zero, List.set_cons_succ, List.getElem_toArray, List.getElem_cons_zero]
        refine wpAnyH_take (i := 1) (v := .int .i64 ((k : Int))) rfl (by kernel_rfl) (by kernel_rfl) (by kernel_rfl) (fun _ _ _ h => h) (Or.inl ⟨by kernel_rfl, ?_⟩) hHeld ?_
        · intro w' hSw; go_simp
        try simp only [Act.put, List.setIfInBounds_toArray, List.set_cons_zero, List.set_cons_succ, List.getElem_toArray, List.getElem_cons_succ, List.getElem_cons_zero]
        refine wpAnyH_take (i := 2) (v := .pointer (some ⟨g, k * 4, none⟩)) rfl (by kernel_rfl) (by kernel_rfl) (by kernel_rfl) (fun _ _ _ h => h) (Or.inl ⟨by kernel_rfl, ?_⟩) hHeld ?_
        · intro w' hSw; go_simp
        try simp only [Act.put, List.setIfInBounds_toArray, List.set_cons_zero, List.set_cons_succ, List.getElem_toArray, List.getElem_cons_succ, List.getElem_cons_zero]
        refine wpAnyH_take (i := 3) (v := cV pa pb pc pd) rfl (by kernel_rfl) (by kernel_rfl) (by kernel_rfl) (fun _ _ _ h => h) (Or.inl ⟨by kernel_rfl, ?_⟩) hHeld ?_
        · intro w' hSw; obtain ⟨z0, z1, z2, z3⟩ := CK.out _ (bk0.trans (Below.mono hSw bk0.size)); go_simp
        try simp only [Act.put, List.setIfInBounds_toArray, List.set_cons_zero, List.set_cons_succ, List.getElem_toArray, List.getElem_cons_succ, List.getElem_cons_zero]
        refine wpAnyH_take (i := 4) (v := cV xa xb xc xd) rfl (by kernel_rfl) (by kernel_rfl) (by kernel_rfl) (fun _ _ _ h => h) (Or.inl ⟨by kernel_rfl, ?_⟩) hHeld ?_
        · intro w' hSw; obtain ⟨z0, z1, z2, z3, -⟩ := (A4u.below hSw).open4; go_simp
        try simp only [Act.put, List.setIfInBounds_toArray, List.set_cons_zero, List.set_cons_succ, List.getElem_toArray, List.getElem_cons_succ, List.getElem_cons_zero]
        refine wpAnyH_take (i := 5) (v := .bool false) rfl (by kernel_rfl) (by kernel_rfl) (by kernel_rfl) (fun _ _ _ h => h) (Or.inl ⟨by kernel_rfl, ?_⟩) hHeld ?_
        · intro w' hSw; have heq := HE1.out; go_simp
        try simp only [Act.put, List.setIfInBounds_toArray, List.set_cons_zero, List.set_cons_succ, List.getElem_toArray, List.getElem_cons_succ, List.getElem_cons_zero]
        refine wpAnyH_done (by kernel_rfl) ?_ _
        clear hHeld
        obtain ⟨wy, hwy⟩ : ∃ W, W = u0 := ⟨_, rfl⟩
        subst hwy
        clear bu A4u
        go_wp2_with fail
        cases e2
        · skip
          obtain ⟨u0, hu0, bb⟩ : ∃ uu, wy.drew = uu ∧ Below wy.heap.size wy uu := ⟨_, rfl, (Below.refl _ _).drew⟩
          replace A4 := A4.below bb
          replace A5 := A5.below bb
          replace B := B.trans (bb.mono B.size)
          have A5u := A5
          have bk0 : Kb wz u0 := bk0.trans (bb.mono bk0.size)
          clear bb
          refine wp_region_held_drew (S := Kb u0) (by kernel_rfl) (by rw [hu0]; exact Below.refl _ _) (fun hHeld => ?_)
          rw [hu0] at hHeld ⊢
          clear hu0
          have bu : Kb u0 u0 := Below.refl _ _
          change wpAnyH _ _ _ _ _ 6 #[false, false, false, false, false, false] _ _
          refine wpAnyH_take (i := 0) (v := .slice ((some ⟨g, 0, none⟩)) n c) rfl (by kernel_rfl) (by kernel_rfl) (by kernel_rfl) (fun _ _ _ h => h) (Or.inl ⟨by kernel_rfl, ?_⟩) hHeld ?_
          · intro w' hSw; go_simp
          try simp only [Act.put, List.setIfInBounds_toArray, List.set_cons_zero, List.set_cons_succ, List.getElem_toArray, List.getElem_cons_zero]
          refine wpAnyH_take (i := 1) (v := .int .i64 ((k : Int))) rfl (by kernel_rfl) (by kernel_rfl) (by kernel_rfl) (fun _ _ _ h => h) (Or.inl ⟨by kernel_rfl, ?_⟩) hHeld ?_
          · intro w' hSw; go_simp
          try simp only [Act.put, List.setIfInBounds_toArray, List.set_cons_zero, List.set_cons_succ, List.getElem_toArray, List.getElem_cons_succ, List.getElem_cons_zero]
          refine wpAnyH_take (i := 2) (v := .pointer (some ⟨g, k * 4, none⟩)) rfl (by kernel_rfl) (by kernel_rfl) (by kernel_rfl) (fun _ _ _ h => h) (Or.inl ⟨by kernel_rfl, ?_⟩) hHeld ?_
          · intro w' hSw; go_simp
          try simp only [Act.put, List.setIfInBounds_toArray, List.set_cons_zero, List.set_cons_succ, List.getElem_toArray, List.getElem_cons_succ, List.getElem_cons_zero]
          refine wpAnyH_take (i := 3) (v := cV pa pb pc pd) rfl (by kernel_rfl) (by kernel_rfl) (by kernel_rfl) (fun _ _ _ h => h) (Or.inl ⟨by kernel_rfl, ?_⟩) hHeld ?_
          · intro w' hSw; obtain ⟨z0, z1, z2, z3⟩ := CK.out _ (bk0.trans (Below.mono hSw bk0.size)); go_simp
          try simp only [Act.put, List.setIfInBounds_toArray, List.set_cons_zero, List.set_cons_succ, List.getElem_toArray, List.getElem_cons_succ, List.getElem_cons_zero]
          refine wpAnyH_take (i := 4) (v := cV ya yb yc xd) rfl (by kernel_rfl) (by kernel_rfl) (by kernel_rfl) (fun _ _ _ h => h) (Or.inl ⟨by kernel_rfl, ?_⟩) hHeld ?_
          · intro w' hSw; obtain ⟨z0, z1, z2, z3, -⟩ := (A5u.below hSw).open4; go_simp
          try simp only [Act.put, List.setIfInBounds_toArray, List.set_cons_zero, List.set_cons_succ, List.getElem_toArray, List.getElem_cons_succ, List.getElem_cons_zero]
          refine wpAnyH_take (i := 5) (v := .bool false) rfl (by kernel_rfl) (by kernel_rfl) (by kernel_rfl) (fun _ _ _ h => h) (Or.inl ⟨by kernel_rfl, ?_⟩) hHeld ?_
          · intro w' hSw; have heq := HE2.out; go_simp
          try simp only [Act.put, List.setIfInBounds_toArray, List.set_cons_zero, List.set_cons_succ, List.getElem_toArray, List.getElem_cons_succ, List.getElem_cons_zero]
          refine wpAnyH_done (by kernel_rfl) ?_ _
          clear hHeld
          clear bu A5u
          have HN2 : Hid (cns f (xa, xb, xc, xd) (ya, yb, yc, xd) (k + 1) = m) := by
            rw [HN.out]; simp; trivial
          clear HN CK HE1 HE2 bk0
          go_wp2
          exact ⟨⟨k + 1, m, by omega, by go_num, rfl, HN2, A4, A5, B⟩, by simp [intOf]; omega⟩
        · skip
          obtain ⟨u0, hu0, bb⟩ : ∃ uu, wy.drew = uu ∧ Below wy.heap.size wy uu := ⟨_, rfl, (Below.refl _ _).drew⟩
          replace A4 := A4.below bb
          replace A5 := A5.below bb
          replace B := B.trans (bb.mono B.size)
          have A5u := A5
          have bk0 : Kb wz u0 := bk0.trans (bb.mono bk0.size)
          clear bb
          refine wp_region_held_drew (S := Kb u0) (by kernel_rfl) (by rw [hu0]; exact Below.refl _ _) (fun hHeld => ?_)
          rw [hu0] at hHeld ⊢
          clear hu0
          have bu : Kb u0 u0 := Below.refl _ _
          change wpAnyH _ _ _ _ _ 6 #[false, false, false, false, false, false] _ _
          refine wpAnyH_take (i := 0) (v := .slice ((some ⟨g, 0, none⟩)) n c) rfl (by kernel_rfl) (by kernel_rfl) (by kernel_rfl) (fun _ _ _ h => h) (Or.inl ⟨by kernel_rfl, ?_⟩) hHeld ?_
          · intro w' hSw; go_simp
          try simp only [Act.put, List.setIfInBounds_toArray, List.set_cons_zero, List.set_cons_succ, List.getElem_toArray, List.getElem_cons_zero]
          refine wpAnyH_take (i := 1) (v := .int .i64 ((k : Int))) rfl (by kernel_rfl) (by kernel_rfl) (by kernel_rfl) (fun _ _ _ h => h) (Or.inl ⟨by kernel_rfl, ?_⟩) hHeld ?_
          · intro w' hSw; go_simp
          try simp only [Act.put, List.setIfInBounds_toArray, List.set_cons_zero, List.set_cons_succ, List.getElem_toArray, List.getElem_cons_succ, List.getElem_cons_zero]
          refine wpAnyH_take (i := 2) (v := .pointer (some ⟨g, k * 4, none⟩)) rfl (by kernel_rfl) (by kernel_rfl) (by kernel_rfl) (fun _ _ _ h => h) (Or.inl ⟨by kernel_rfl, ?_⟩) hHeld ?_
          · intro w' hSw; go_simp
          try simp only [Act.put, List.setIfInBounds_toArray, List.set_cons_zero, List.set_cons_succ, List.getElem_toArray, List.getElem_cons_succ, List.getElem_cons_zero]
          refine wpAnyH_take (i := 3) (v := cV pa pb pc pd) rfl (by kernel_rfl) (by kernel_rfl) (by kernel_rfl) (fun _ _ _ h => h) (Or.inl ⟨by kernel_rfl, ?_⟩) hHeld ?_
          · intro w' hSw; obtain ⟨z0, z1, z2, z3⟩ := CK.out _ (bk0.trans (Below.mono hSw bk0.size)); go_simp
          try simp only [Act.put, List.setIfInBounds_toArray, List.set_cons_zero, List.set_cons_succ, List.getElem_toArray, List.getElem_cons_succ, List.getElem_cons_zero]
          refine wpAnyH_take (i := 4) (v := cV ya yb yc xd) rfl (by kernel_rfl) (by kernel_rfl) (by kernel_rfl) (fun _ _ _ h => h) (Or.inl ⟨by kernel_rfl, ?_⟩) hHeld ?_
          · intro w' hSw; obtain ⟨z0, z1, z2, z3, -⟩ := (A5u.below hSw).open4; go_simp
          try simp only [Act.put, List.setIfInBounds_toArray, List.set_cons_zero, List.set_cons_succ, List.getElem_toArray, List.getElem_cons_succ, List.getElem_cons_zero]
          refine wpAnyH_take (i := 5) (v := .bool true) rfl (by kernel_rfl) (by kernel_rfl) (by kernel_rfl) (fun _ _ _ h => h) (Or.inl ⟨by kernel_rfl, ?_⟩) hHeld ?_
          · intro w' hSw; have heq := HE2.out; go_simp
          try simp only [Act.put, List.setIfInBounds_toArray, List.set_cons_zero, List.set_cons_succ, List.getElem_toArray, List.getElem_cons_succ, List.getElem_cons_zero]
          refine wpAnyH_done (by kernel_rfl) ?_ _
          clear hHeld
          clear bu A5u
          have HN2 : Hid (cns f (xa, xb, xc, xd) (ya, yb, yc, xd) (k + 1) = m - 1) := by
            rw [HN.out]; simp; trivial
          clear HN CK HE1 HE2 bk0
          go_wp2
          exact ⟨⟨k + 1, m - 1, by omega, by go_num, rfl, HN2, A4, A5, B⟩, by simp [intOf]; omega⟩
      · skip
        obtain ⟨u0, hu0, bb⟩ : ∃ uu, wz.drew = uu ∧ Below wz.heap.size wz uu := ⟨_, rfl, (Below.refl _ _).drew⟩
        replace A4 := A4.below bb
        replace A5 := A5.below bb
        replace B := B.trans (bb.mono B.size)
        have A4u := A4
        have bk0 : Kb wz u0 := bb
        clear bb
        refine wp_region_held_drew (S := Kb u0) (by kernel_rfl) (by rw [hu0]; exact Below.refl _ _) (fun hHeld => ?_)
        rw [hu0] at hHeld ⊢
        clear hu0
        have bu : Kb u0 u0 := Below.refl _ _
        change wpAnyH _ _ _ _ _ 6 #[false, false, false, false, false, false] _ _
        refine wpAnyH_take (i := 0) (v := .slice ((some ⟨g, 0, none⟩)) n c) rfl (by kernel_rfl) (by kernel_rfl) (by kernel_rfl) (fun _ _ _ h => h) (Or.inl ⟨by kernel_rfl, ?_⟩) hHeld ?_
        · intro w' hSw; go_simp
        try simp only [Act.put, List.setIfInBounds_toArray, List.set_cons_zero, List.set_cons_succ, List.getElem_toArray, List.getElem_cons_zero]
        refine wpAnyH_take (i := 1) (v := .int .i64 ((k : Int))) rfl (by kernel_rfl) (by kernel_rfl) (by kernel_rfl) (fun _ _ _ h => h) (Or.inl ⟨by kernel_rfl, ?_⟩) hHeld ?_
        · intro w' hSw; go_simp
        try simp only [Act.put, List.setIfInBounds_toArray, List.set_cons_zero, List.set_cons_succ, List.getElem_toArray, List.getElem_cons_succ, List.getElem_cons_zero]
        refine wpAnyH_take (i := 2) (v := .pointer (some ⟨g, k * 4, none⟩)) rfl (by kernel_rfl) (by kernel_rfl) (by kernel_rfl) (fun _ _ _ h => h) (Or.inl ⟨by kernel_rfl, ?_⟩) hHeld ?_
        · intro w' hSw; go_simp
        try simp only [Act.put, List.setIfInBounds_toArray, List.set_cons_zero, List.set_cons_succ, List.getElem_toArray, List.getElem_cons_succ, List.getElem_cons_zero]
        refine wpAnyH_take (i := 3) (v := cV pa pb pc pd) rfl (by kernel_rfl) (by kernel_rfl) (by kernel_rfl) (fun _ _ _ h => h) (Or.inl ⟨by kernel_rfl, ?_⟩) hHeld ?_
        · intro w' hSw; obtain ⟨z0, z1, z2, z3⟩ := CK.out _ (bk0.trans (Below.mono hSw bk0.size)); go_simp
        try simp only [Act.put, List.setIfInBounds_toArray, List.set_cons_zero, List.set_cons_succ, List.getElem_toArray, List.getElem_cons_succ, List.getElem_cons_zero]
        refine wpAnyH_take (i := 4) (v := cV xa xb xc xd) rfl (by kernel_rfl) (by kernel_rfl) (by kernel_rfl) (fun _ _ _ h => h) (Or.inl ⟨by kernel_rfl, ?_⟩) hHeld ?_
        · intro w' hSw; obtain ⟨z0, z1, z2, z3, -⟩ := (A4u.below hSw).open4; go_simp
        try simp only [Act.put, List.setIfInBounds_toArray, List.set_cons_zero, List.set_cons_succ, List.getElem_toArray, List.getElem_cons_succ, List.getElem_cons_zero]
        refine wpAnyH_take (i := 5) (v := .bool true) rfl (by kernel_rfl) (by kernel_rfl) (by kernel_rfl) (fun _ _ _ h => h) (Or.inl ⟨by kernel_rfl, ?_⟩) hHeld ?_
        · intro w' hSw; have heq := HE1.out; go_simp
        try simp only [Act.put, List.setIfInBounds_toArray, List.set_cons_zero, List.set_cons_succ, List.getElem_toArray, List.getElem_cons_succ, List.getElem_cons_zero]
        refine wpAnyH_done (by kernel_rfl) ?_ _
        clear hHeld
        obtain ⟨wy, hwy⟩ : ∃ W, W = u0 := ⟨_, rfl⟩
        subst hwy
        clear bu A4u
        go_wp2_with fail
        cases e2
        · skip
          obtain ⟨u0, hu0, bb⟩ : ∃ uu, wy.drew = uu ∧ Below wy.heap.size wy uu := ⟨_, rfl, (Below.refl _ _).drew⟩
          replace A4 := A4.below bb
          replace A5 := A5.below bb
          replace B := B.trans (bb.mono B.size)
          have A5u := A5
          have bk0 : Kb wz u0 := bk0.trans (bb.mono bk0.size)
          clear bb
          refine wp_region_held_drew (S := Kb u0) (by kernel_rfl) (by rw [hu0]; exact Below.refl _ _) (fun hHeld => ?_)
          rw [hu0] at hHeld ⊢
          clear hu0
          have bu : Kb u0 u0 := Below.refl _ _
          change wpAnyH _ _ _ _ _ 6 #[false, false, false, false, false, false] _ _
          refine wpAnyH_take (i := 0) (v := .slice ((some ⟨g, 0, none⟩)) n c) rfl (by kernel_rfl) (by kernel_rfl) (by kernel_rfl) (fun _ _ _ h => h) (Or.inl ⟨by kernel_rfl, ?_⟩) hHeld ?_
          · intro w' hSw; go_simp
          try simp only [Act.put, List.setIfInBounds_toArray, List.set_cons_zero, List.set_cons_succ, List.getElem_toArray, List.getElem_cons_zero]
          refine wpAnyH_take (i := 1) (v := .int .i64 ((k : Int))) rfl (by kernel_rfl) (by kernel_rfl) (by kernel_rfl) (fun _ _ _ h => h) (Or.inl ⟨by kernel_rfl, ?_⟩) hHeld ?_
          · intro w' hSw; go_simp
          try simp only [Act.put, List.setIfInBounds_toArray, List.set_cons_zero, List.set_cons_succ, List.getElem_toArray, List.getElem_cons_succ, List.getElem_cons_zero]
          refine wpAnyH_take (i := 2) (v := .pointer (some ⟨g, k * 4, none⟩)) rfl (by kernel_rfl) (by kernel_rfl) (by kernel_rfl) (fun _ _ _ h => h) (Or.inl ⟨by kernel_rfl, ?_⟩) hHeld ?_
          · intro w' hSw; go_simp
          try simp only [Act.put, List.setIfInBounds_toArray, List.set_cons_zero, List.set_cons_succ, List.getElem_toArray, List.getElem_cons_succ, List.getElem_cons_zero]
          refine wpAnyH_take (i := 3) (v := cV pa pb pc pd) rfl (by kernel_rfl) (by kernel_rfl) (by kernel_rfl) (fun _ _ _ h => h) (Or.inl ⟨by kernel_rfl, ?_⟩) hHeld ?_
          · intro w' hSw; obtain ⟨z0, z1, z2, z3⟩ := CK.out _ (bk0.trans (Below.mono hSw bk0.size)); go_simp
          try simp only [Act.put, List.setIfInBounds_toArray, List.set_cons_zero, List.set_cons_succ, List.getElem_toArray, List.getElem_cons_succ, List.getElem_cons_zero]
          refine wpAnyH_take (i := 4) (v := cV ya yb yc xd) rfl (by kernel_rfl) (by kernel_rfl) (by kernel_rfl) (fun _ _ _ h => h) (Or.inl ⟨by kernel_rfl, ?_⟩) hHeld ?_
          · intro w' hSw; obtain ⟨z0, z1, z2, z3, -⟩ := (A5u.below hSw).open4; go_simp
          try simp only [Act.put, List.setIfInBounds_toArray, List.set_cons_zero, List.set_cons_succ, List.getElem_toArray, List.getElem_cons_succ, List.getElem_cons_zero]
          refine wpAnyH_take (i := 5) (v := .bool false) rfl (by kernel_rfl) (by kernel_rfl) (by kernel_rfl) (fun _ _ _ h => h) (Or.inl ⟨by kernel_rfl, ?_⟩) hHeld ?_
          · intro w' hSw; have heq := HE2.out; go_simp
          try simp only [Act.put, List.setIfInBounds_toArray, List.set_cons_zero, List.set_cons_succ, List.getElem_toArray, List.getElem_cons_succ, List.getElem_cons_zero]
          refine wpAnyH_done (by kernel_rfl) ?_ _
          clear hHeld
          clear bu A5u
          have HN2 : Hid (cns f (xa, xb, xc, xd) (ya, yb, yc, xd) (k + 1) = m + 1) := by
            rw [HN.out]; simp; trivial
          clear HN CK HE1 HE2 bk0
          go_wp2
          exact ⟨⟨k + 1, m + 1, by omega, by go_num, rfl, HN2, A4, A5, B⟩, by simp [intOf]; omega⟩
        · skip
          obtain ⟨u0, hu0, bb⟩ : ∃ uu, wy.drew = uu ∧ Below wy.heap.size wy uu := ⟨_, rfl, (Below.refl _ _).drew⟩
          replace A4 := A4.below bb
          replace A5 := A5.below bb
          replace B := B.trans (bb.mono B.size)
          have A5u := A5
          have bk0 : Kb wz u0 := bk0.trans (bb.mono bk0.size)
          clear bb
          refine wp_region_held_drew (S := Kb u0) (by kernel_rfl) (by rw [hu0]; exact Below.refl _ _) (fun hHeld => ?_)
          rw [hu0] at hHeld ⊢
          clear hu0
          have bu : Kb u0 u0 := Below.refl _ _
          change wpAnyH _ _ _ _ _ 6 #[false, false, false, false, false, false] _ _
          refine wpAnyH_take (i := 0) (v := .slice ((some ⟨g, 0, none⟩)) n c) rfl (by kernel_rfl) (by kernel_rfl) (by kernel_rfl) (fun _ _ _ h => h) (Or.inl ⟨by kernel_rfl, ?_⟩) hHeld ?_
          · intro w' hSw; go_simp
          try simp only [Act.put, List.setIfInBounds_toArray, List.set_cons_zero, List.set_cons_succ, List.getElem_toArray, List.getElem_cons_zero]
          refine wpAnyH_take (i := 1) (v := .int .i64 ((k : Int))) rfl (by kernel_rfl) (by kernel_rfl) (by kernel_rfl) (fun _ _ _ h => h) (Or.inl ⟨by kernel_rfl, ?_⟩) hHeld ?_
          · intro w' hSw; go_simp
          try simp only [Act.put, List.setIfInBounds_toArray, List.set_cons_zero, List.set_cons_succ, List.getElem_toArray, List.getElem_cons_succ, List.getElem_cons_zero]
          refine wpAnyH_take (i := 2) (v := .pointer (some ⟨g, k * 4, none⟩)) rfl (by kernel_rfl) (by kernel_rfl) (by kernel_rfl) (fun _ _ _ h => h) (Or.inl ⟨by kernel_rfl, ?_⟩) hHeld ?_
          · intro w' hSw; go_simp
          try simp only [Act.put, List.setIfInBounds_toArray, List.set_cons_zero, List.set_cons_succ, List.getElem_toArray, List.getElem_cons_succ, List.getElem_cons_zero]
          refine wpAnyH_take (i := 3) (v := cV pa pb pc pd) rfl (by kernel_rfl) (by kernel_rfl) (by kernel_rfl) (fun _ _ _ h => h) (Or.inl ⟨by kernel_rfl, ?_⟩) hHeld ?_
          · intro w' hSw; obtain ⟨z0, z1, z2, z3⟩ := CK.out _ (bk0.trans (Below.mono hSw bk0.size)); go_simp
          try simp only [Act.put, List.setIfInBounds_toArray, List.set_cons_zero, List.set_cons_succ, List.getElem_toArray, List.getElem_cons_succ, List.getElem_cons_zero]
          refine wpAnyH_take (i := 4) (v := cV ya yb yc xd) rfl (by kernel_rfl) (by kernel_rfl) (by kernel_rfl) (fun _ _ _ h => h) (Or.inl ⟨by kernel_rfl, ?_⟩) hHeld ?_
          · intro w' hSw; obtain ⟨z0, z1, z2, z3, -⟩ := (A5u.below hSw).open4; go_simp
          try simp only [Act.put, List.setIfInBounds_toArray, List.set_cons_zero, List.set_cons_succ, List.getElem_toArray, List.getElem_cons_succ, List.getElem_cons_zero]
          refine wpAnyH_take (i := 5) (v := .bool true) rfl (by kernel_rfl) (by kernel_rfl) (by kernel_rfl) (fun _ _ _ h => h) (Or.inl ⟨by kernel_rfl, ?_⟩) hHeld ?_
          · intro w' hSw; have heq := HE2.out; go_simp
          try simp only [Act.put, List.setIfInBounds_toArray, List.set_cons_zero, List.set_cons_succ, List.getElem_toArray, List.getElem_cons_succ, List.getElem_cons_zero]
          refine wpAnyH_done (by kernel_rfl) ?_ _
          clear hHeld
          clear bu A5u
          have HN2 : Hid (cns f (xa, xb, xc, xd) (ya, yb, yc, xd) (k + 1) = m) := by
            rw [HN.out]; simp; trivial
          clear HN CK HE1 HE2 bk0
          go_wp2
          exact ⟨⟨k + 1, m, by omega, by go_num, rfl, HN2, A4, A5, B⟩, by simp [intOf]; omega⟩
end Go.Proofs.Ytohboecnhneolaa
