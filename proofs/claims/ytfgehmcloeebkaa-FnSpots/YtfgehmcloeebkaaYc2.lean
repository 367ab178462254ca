/-
  Squeeze by the program, its answer's room told: walked.
-/
import Derived.Test.YtfgehmcloeebkaaYc
namespace Go.Proofs.Ytfgehmcloeebkaa
open Go.RowKit

/-- What Squeeze tells: a list with no room behind it. -/
def SqC (W H : Int) (len : Nat) (f : Nat → Int) (w : World) (e : Ending) (w' : World) : Prop := ∃ g cur, e = .returned (.slice (some ⟨g, 0, none⟩) (sqO W H len f).length (sqO W H len f).length) ∧ w.heap.size ≤ g ∧ At 5 w' g cur ∧ (sqO W H len f).length ≤ cur.size ∧ (∀ i, i < (sqO W H len f).length → cur[i]? = some (.int .u8 ((sqO W H len f).getD i 0))) ∧ Below w.heap.size w w'
set_option maxRecDepth 100000 in
set_option maxHeartbeats 8000000 in
theorem implSqC_any {w : World} {a : Option Addr} {len c : Nat} {f : Nat → Int} (W H : Int) (hs : Src w a len f) (hlen : len ≤ 1048576) :
    Calls Try.prog 12 #[fV W H (.slice a len c)] w (SqC W H len f w) := by
  obtain ⟨V, hV, b0, bW, -⟩ := boxed w 26 #[.int .i64 W, .int .i64 H, .slice a len c]
  have z_V := b0.lt
  go_enter Try.func12, Try.ntmps12
  obtain ⟨oc00, oc01, oc02, -⟩ := b0.open3
  go_wp2_with fail
  refine (implFrameOk_any W H (hs.below bW) hlen).mono ?_
  rintro e w3 ⟨rfl, bb⟩
  clear oc00 oc01 oc02
  replace b0 := b0.below bb
  replace bW := bW.trans (bb.mono bW.size)
  have z_w3 := bb.size
  clear bb
  clear hV
  rcases hfr : frB W H len f with _ | _
  · have hno := frB_not hfr
    have hbs : ∀ w, (Instr.buildSlice 22 0 #[]).run Try.prog w = .ok (.slice (some ⟨w.heap.size, 0, none⟩) 0 0) (w.alloc (.cells #[] 5)) := fun _ => by kernel_rfl
    clear hfr
    obtain ⟨V4, hV4, a4, bb, -⟩ := boxed w3 5 #[]
    have z4 := a4.lt
    replace bW := bW.trans (bb.mono bW.size)
    go_wp2
    go_ret
    unfold SqC
    rw [sqO_no hno]
    exact ⟨w3.heap.size, #[], rfl, by omega, a4, Nat.zero_le _, fun i hi => absurd hi (Nat.not_lt_zero _), bW⟩
  · have hok := frB_of hfr
    have HE : Hid (sqO W H len f = W :: H :: sqL f len) := sqO_yes hok
    obtain ⟨hW, hH, hl, hf⟩ := hok
    have p1 := mul_in (a := W) (b := H) (x := 64) (y := 64) (by omega) (by omega)
    have hl4 : len ≤ 4096 := by omega
    have hl0 : 0 < len := by
      have := Int.mul_pos (show (0 : Int) < W by omega) (show (0 : Int) < H by omega)
      omega
    rcases hs with h0 | ⟨b, off, rfl, hb, hr⟩
    · omega
    obtain ⟨oc00, oc01, oc02, -⟩ := b0.open3
    go_wp2_with fail
    refine (detectorOf_any W H _ len c _).mono ?_
    rintro e w4 ⟨rfl, bb⟩
    clear oc00 oc01 oc02
    replace bW := bW.trans (bb.mono bW.size)
    have z_w4 := bb.size
    clear bb
    clear b0 hfr
    obtain ⟨V5, hV5, d0, bb, -⟩ := boxed w4 58 #[.int .i64 W, .int .i64 H, .slice (some ⟨b, off, none⟩) len c]
    replace bW := bW.trans (bb.mono bW.size)
    have z_V5 := d0.lt
    clear bb
    obtain ⟨oc00, oc01, oc02, -⟩ := d0.open3
    go_wp2_with fail
    refine (size_any W H _ hW hH).mono ?_
    rintro e w6 ⟨rfl, bb⟩
    clear oc00 oc01 oc02
    replace d0 := d0.below bb
    replace bW := bW.trans (bb.mono bW.size)
    have z_w6 := bb.size
    clear bb
    clear hV5
    obtain ⟨R, hR⟩ : ∃ R : Nat, R = 2 + 3 * len := ⟨_, rfl⟩
    have hmk := make_bytes R (by omega)
    have hRI : (R : Int) = 2 + 3 * (W * H) := by omega
    rw [hRI] at hmk
    have HR : Hid (R = 2 + 3 * len) := hR
    have hR2 : 2 ≤ R ∧ R ≤ 20000 := by omega
    have hRl : ∀ k, k < len → 2 + 3 * k + 3 ≤ R := fun k hk => by omega
    have HRl : Hid (∀ k, k < len → 2 + 3 * k + 3 ≤ R) := hRl
    clear hR hRI hRl hl
    obtain ⟨V7, hV7, rm, bb, -⟩ := boxed w6 5 (madeCells #[.int .u8 0] R)
    replace d0 := d0.below bb
    replace bW := bW.trans (bb.mono bW.size)
    have z_V7 := rm.lt
    clear bb
    have hb2 : ∀ w, (Instr.buildSlice 22 2 #[(0, .int .u8 W), (1, .int .u8 H)]).run Try.prog w = .ok (.slice (some ⟨w.heap.size, 0, none⟩) 2 2) (w.alloc (.cells #[.int .u8 W, .int .u8 H] 5)) := fun _ => by kernel_rfl
    obtain ⟨c0, c1, c2, -⟩ := d0.open3
    obtain ⟨V8, hV8, wh, bb, -⟩ := boxed V7 5 #[.int .u8 W, .int .u8 H]
    replace d0 := d0.below bb
    replace rm := rm.below bb
    replace bW := bW.trans (bb.mono bW.size)
    have z_V8 := wh.lt
    clear bb
    have RM : Rm V8 w6.heap.size R [] := ⟨_, rm, by simp [madeCells], Nat.zero_le _, rfl⟩
    have hwh : ∀ j u, (bCl [W, H])[j]? = some u → V8.cell? ((⟨V7.heap.size, 0, none⟩ : Addr).add j) = some u := by
      intro j u hu
      rcases j with _ | _ | j
      · simp [bCl] at hu; subst hu; exact wh.cell 0 rfl
      · simp [bCl] at hu; subst hu; exact wh.cell 1 rfl
      · simp [bCl] at hu
    obtain ⟨V9, hrun, RM9, K9⟩ := RM.copy (l' := [W, H]) (c9 := 2) (by simp; omega) hwh (by omega)
    simp only [List.length_nil, Nat.sub_zero, List.length_cons, List.nil_append] at hrun RM9
    replace bW := bW.trans (K9.below (N := w.heap.size) (by omega) (by omega))
    have d9 := d0.kept K9 (by omega)
    have z_V9 := K9.size
    obtain ⟨e0, e1, e2, -⟩ := d9.open3
    clear RM K9 wh rm hwh
    go_wp2_with fail
    clear hrun hmk hb2 hV7 hV8 c0 c1 c2 e0 e1 e2 d0
    obtain ⟨g, hg⟩ : ∃ g, w6.heap.size = g := ⟨_, rfl⟩
    have hgw : w4.heap.size < g ∧ w.heap.size ≤ g := by omega
    rw [hg] at RM9 ⊢
    have r0 : Rm V9 g R (W :: H :: sqL f 0) ∧ At 58 V9 w4.heap.size #[.int .i64 W, .int .i64 H, .slice (some ⟨b, off, none⟩) len c] ∧ Below w.heap.size w V9 := ⟨RM9, d9, bW⟩
    clear RM9 d9 bW hg
    go_loopw [5, 6, 35] (fun s5 s6 s35 wr => ∃ k : Nat, ∃ l : List Int, k ≤ len ∧ s35 = .int .i64 (k : Int) ∧ s5 = .int .i64 (l.length : Int) ∧ s6 = .int .i64 (la f k) ∧ l = W :: H :: sqL f k ∧ Rm wr g R l ∧ At 58 wr w4.heap.size #[.int .i64 W, .int .i64 H, .slice (some ⟨b, off, none⟩) len c] ∧ Below w.heap.size w wr) (fun _ _ s35 _ => len - (intOf s35).toNat)
    case atStart => exact ⟨0, _, Nat.zero_le _, rfl, rfl, rfl, rfl, r0⟩
    case round =>
      clear r0
      obtain ⟨k, l, hk, rfl, rfl, rfl, hle, RM, d0, bW⟩ := hrel
      have hll : l.length ≤ 2 + 3 * k := by
        have := sqL_len f k
        rw [hle]
        simp
        omega
      by_cases hlt : k < len
      · have hlt' : (k : Int) < (len : Int) := by omega
        have hR3 := HRl.out k hlt
        have hgl := gr_len 2 (fo (f k - la f k))
        have hF := hf k hlt
        have hA : 0 ≤ la f k ∧ la f k ≤ 65535 := by
          unfold la
          split
          · omega
          · exact hf (k - 1) (by omega)
        have hnext : l ++ gr 2 (fo (f k - la f k)) = W :: H :: sqL f (k + 1) := by rw [hle]; rfl
        have hla : la f (k + 1) = f k := by simp [la]
        have g0 := (bW.cell (p := ⟨b, off + k, none⟩) hb).trans (hr k hlt)
        have HN : Hid (l ++ gr 2 (fo (f k - la f k)) = W :: H :: sqL f (k + 1) ∧ la f (k + 1) = f k) := ⟨hnext, hla⟩
        clear hnext hla hle
        generalize la f k = A at hA hgl HN ⊢
        generalize f k = F at g0 hF hgl HN
        obtain ⟨s, hs⟩ : ∃ s, F - A = s := ⟨_, rfl⟩
        have hs1 : -65535 ≤ s ∧ s ≤ 65535 := by omega
        have wr1 : IntKind.i64.wrap (F - A) = s := (IntWalk.i64_in _ (by omega)).trans hs
        rw [hs] at hgl HN
        have wr2 : IntKind.i64.wrap ((l.length : Int) + ((gr 2 (fo s)).length : Int)) = ((l.length + (gr 2 (fo s)).length : Nat) : Int) := (IntWalk.i64_in _ (by omega)).trans (by simp)
        have q1 : (l.length : Int) ≤ (R : Int) := by omega
        have q2 : ¬ R = l.length := by omega
        have q3 : (0 : Int) ≤ (l.length : Int) := by omega
        obtain ⟨c0, c1, c2, -⟩ := d0.open3
        clear hs
        go_upto_region 10 with (fail)
        clear c0 c1 c2 g0
        obtain ⟨u0, hu0, bb⟩ : ∃ uu, wr.drew = uu ∧ Below wr.heap.size wr uu := ⟨_, rfl, (Below.refl _ _).drew⟩
        replace d0 := d0.below bb
        replace RM := RM.below bb
        replace bW := bW.trans (bb.mono bW.size)
        have hz0 := bb.size
        clear bb
        refine wp_region_held_drew (S := AnyW) (by kernel_rfl) (by rw [hu0]; exact trivial) (fun hHeld => ?_)
        rw [hu0] at hHeld ⊢
        clear hu0
        change wpAnyH _ _ _ _ _ 12 #[false, false, false, false, false, false, false, false, false, false, false, false] _ _
        refine wpAnyH_take (i := 0) (v := .int .i64 ((l.length : Int))) rfl (by kernel_rfl) (by kernel_rfl) (by kernel_rfl) (fun _ _ _ h => h) (Or.inl ⟨by kernel_rfl, ?_⟩) hHeld ?_
        · intro w' hSw; go_simp
        try simp only [Act.put, List.setIfInBounds_toArray, List.set_cons_zero, List.set_cons_succ, List.getElem_toArray, List.getElem_cons_zero]
        refine wpAnyH_take (i := 1) (v := .slice ((some ⟨g, 0, none⟩)) R R) rfl (by kernel_rfl) (by kernel_rfl) (by kernel_rfl) (fun _ _ _ h => h) (Or.inl ⟨by kernel_rfl, ?_⟩) hHeld ?_
        · intro w' hSw; go_simp
        try simp only [Act.put, List.setIfInBounds_toArray, List.set_cons_zero, List.set_cons_succ, List.getElem_toArray, List.getElem_cons_succ, List.getElem_cons_zero]
        refine wpAnyH_take (i := 2) (v := .int .i64 ((l.length : Int))) rfl (by kernel_rfl) (by kernel_rfl) (by kernel_rfl) (fun _ _ _ h => h) (Or.inl ⟨by kernel_rfl, ?_⟩) hHeld ?_
        · intro w' hSw; go_simp
        try simp only [Act.put, List.setIfInBounds_toArray, List.set_cons_zero, List.set_cons_succ, List.getElem_toArray, List.getElem_cons_succ, List.getElem_cons_zero]
        refine wpAnyH_take (i := 3) (v := .slice (some ⟨g, l.length, none⟩) (R - l.length) (R - l.length)) rfl (by kernel_rfl) (by kernel_rfl) (by kernel_rfl) (fun _ _ _ h => h) (Or.inl ⟨by kernel_rfl, ?_⟩) hHeld ?_
        · intro w' hSw; go_simp
        try simp only [Act.put, List.setIfInBounds_toArray, List.set_cons_zero, List.set_cons_succ, List.getElem_toArray, List.getElem_cons_succ, List.getElem_cons_zero]
        refine wpAnyH_take (i := 4) (v := .int .i64 (F)) rfl (by kernel_rfl) (by kernel_rfl) (by kernel_rfl) (fun _ _ _ h => h) (Or.inl ⟨by kernel_rfl, ?_⟩) hHeld ?_
        · intro w' hSw; go_simp
        try simp only [Act.put, List.setIfInBounds_toArray, List.set_cons_zero, List.set_cons_succ, List.getElem_toArray, List.getElem_cons_succ, List.getElem_cons_zero]
        refine wpAnyH_take (i := 5) (v := .int .i64 (A)) rfl (by kernel_rfl) (by kernel_rfl) (by kernel_rfl) (fun _ _ _ h => h) (Or.inl ⟨by kernel_rfl, ?_⟩) hHeld ?_
        · intro w' hSw; go_simp
        try simp only [Act.put, List.setIfInBounds_toArray, List.set_cons_zero, List.set_cons_succ, List.getElem_toArray, List.getElem_cons_succ, List.getElem_cons_zero]
        refine wpAnyH_take (i := 6) (v := .int .i64 (s)) rfl (by kernel_rfl) (by kernel_rfl) (by kernel_rfl) (fun _ _ _ h => h) (Or.inl ⟨by kernel_rfl, ?_⟩) hHeld ?_
        · intro w' hSw; go_simp
        try simp only [Act.put, List.setIfInBounds_toArray, List.set_cons_zero, List.set_cons_succ, List.getElem_toArray, List.getElem_cons_succ, List.getElem_cons_zero]
        refine wpAnyH_ready (rs := [7]) (by kernel_rfl) (by simp) ?_
        refine AllReadyH.cons rfl (fun KK hK' => ?_) AllReadyH.nil
        go_simp
        refine (folded_any s _ (by omega)).mono ?_
        rintro e u1 ⟨rfl, rfl⟩
        try go_wp2_with fail
        clear hHeld
        refine hK'.out _ _ (trivial) (fun hHeld => ?_)
        clear hK' KK
        try simp only [List.setIfInBounds_toArray, List.set_cons_zero, List.set_cons_succ]
        refine wpAnyH_ready (rs := [8]) (by kernel_rfl) (by simp) ?_
        refine AllReadyH.cons rfl (fun KK hK' => ?_) AllReadyH.nil
        go_simp
        refine (groupsOf_any (fo s) _ (fo_le (by omega))).mono ?_
        rintro e u2 ⟨gv, rfl, GG⟩
        have bb := GG.b
        replace d0 := d0.below bb
        replace RM := RM.below bb
        replace bW := bW.trans (bb.mono bW.size)
        have hgu : u0.heap.size ≤ u2.heap.size := bb.size
        clear bb
        obtain ⟨g9, c9, GB, rfl, hg9, hc9⟩ := GG.open
        clear GG
        try go_wp2_with fail
        clear hHeld
        refine hK'.out _ _ (trivial) (fun hHeld => ?_)
        clear hK' KK
        try simp only [List.setIfInBounds_toArray, List.set_cons_zero, List.set_cons_succ]
        refine wpAnyH_ready (rs := [9]) (by kernel_rfl) (by simp) ?_
        refine AllReadyH.cons rfl (fun KK hK' => ?_) AllReadyH.nil
        obtain ⟨u3, hrun, RM3, K3⟩ := RM.copy (l' := gr 2 (fo s)) (c9 := c9) (by omega) GB (by omega)
        go_simp
        replace d0 := d0.kept K3 (by omega)
        replace bW := bW.trans (K3.below (N := w.heap.size) hgw.2 bW.size)
        have hgu3 := K3.size
        clear hrun RM K3
        clear hHeld
        refine hK'.out _ _ (trivial) (fun hHeld => ?_)
        clear hK' KK
        try simp only [List.setIfInBounds_toArray, List.set_cons_zero, List.set_cons_succ]
        refine wpAnyH_take (i := 10) (v := .int .i64 (((l.length + (gr 2 (fo s)).length : Nat) : Int))) rfl (by kernel_rfl) (by kernel_rfl) (by kernel_rfl) (fun _ _ _ h => h) (Or.inl ⟨by kernel_rfl, ?_⟩) hHeld ?_
        · intro w' hSw; go_simp
        try simp only [Act.put, List.setIfInBounds_toArray, List.set_cons_zero, List.set_cons_succ, List.getElem_toArray, List.getElem_cons_succ, List.getElem_cons_zero]
        refine wpAnyH_take (i := 11) (v := .int .i64 (((l.length + (gr 2 (fo s)).length : Nat) : Int))) rfl (by kernel_rfl) (by kernel_rfl) (by kernel_rfl) (fun _ _ _ h => h) (Or.inl ⟨by kernel_rfl, ?_⟩) hHeld ?_
        · intro w' hSw; go_simp
        try simp only [Act.put, List.setIfInBounds_toArray, List.set_cons_zero, List.set_cons_succ, List.getElem_toArray, List.getElem_cons_succ, List.getElem_cons_zero]
        refine wpAnyH_done (by kernel_rfl) ?_ _
        clear hHeld
        go_wp2
        refine ⟨⟨k + 1, l ++ gr 2 (fo s), by omega, by go_num, by simp, by rw [HN.out.2], HN.out.1, RM3, d0, bW⟩, by simp [intOf]; omega⟩
      · have hlt' : ¬ (k : Int) < (len : Int) := by omega
        obtain rfl : k = len := by omega
        have hRl : l.length ≤ R := by obtain ⟨cur, -, -, h3, -⟩ := RM; exact h3
        have q1 : (l.length : Int) ≤ (R : Int) := by omega
        have HL : Hid (l = W :: H :: sqL f k) := hle
        clear hle
        go_wp2
        go_ret
        unfold SqC
        rw [HE.out, ← HL.out]
        obtain ⟨cur, h1, h2, h3, h4⟩ := RM
        refine ⟨g, cur, rfl, hgw.2, h1, by omega, fun i hi => ?_, bW⟩
        have a1 : (bCl l)[i]? = some (.int .u8 (l.getD i 0)) := by simp [bCl, hi]
        rw [← h4, List.getElem?_take_of_lt hi] at a1
        simpa using a1
end Go.Proofs.Ytfgehmcloeebkaa
