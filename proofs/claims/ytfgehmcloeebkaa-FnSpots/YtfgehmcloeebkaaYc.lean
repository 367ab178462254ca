/-
  Squeeze, by the program, walked.
-/
import Derived.Test.YtfgehmcloeebkaaYb
import Derived.Laws.CopyOwn
import Derived.Laws.OwnMore
namespace Go.Proofs.Ytfgehmcloeebkaa
open Go.RowKit

theorem kept_setRow (w : World) (g : Nat) (cs : Array Value) : Kept g w (w.setRow g cs) := ⟨rfl, rfl, rfl, by simp [World.setRow], fun k _ hk => setRow_other w g k cs hk⟩
theorem At.kept {t : TypeId} {w w' : World} {q p : Nat} {vs : Array Value} (h : At t w q vs) (hk : Kept p w w') (hq : q ≠ p) : At t w' q vs := (hk.block q h.lt hq).trans h
def AnyW (_ : World) : Prop := True
theorem byte1 : (Try.prog.info? 5).map (·.size) = some 1 := by kernel_rfl
theorem make_bytes (M : Nat) (hM : M ≤ 1048576) : ∀ w, (Instr.makeSlice 22 (.int .i64 (M : Int)) (.int .i64 (M : Int))).run Try.prog w = .ok (.slice (some ⟨w.heap.size, 0, none⟩) M M) (w.alloc (.cells (madeCells #[.int .u8 0] M) 5)) := by
  obtain ⟨i0, hi0, hz0, hz1, hz2⟩ := info_parts infoB
  intro w
  have := run_make (P := Try.prog) w 22 5 i0 _ Try.underlying22 hi0 hz0 .i64 .i64 (M : Int) (M : Int) (by omega) (by omega) (by rw [hz2]; omega) (by omega)
  rw [this, hz1]
  simp [Value.cells]
/-- Room for bytes, the first of them laid. -/
def Rm (w : World) (g R : Nat) (l : List Int) : Prop := ∃ cur : Array Value, At 5 w g cur ∧ cur.size = R ∧ l.length ≤ R ∧ cur.toList.take l.length = bCl l
theorem Rm.below {w w' : World} {g R : Nat} {l : List Int} (h : Rm w g R l) (hb : Below w.heap.size w w') : Rm w' g R l := by
  obtain ⟨cur, h1, h2⟩ := h
  exact ⟨cur, h1.below hb, h2⟩
theorem Rm.lt {w : World} {g R : Nat} {l : List Int} (h : Rm w g R l) : g < w.heap.size := by
  obtain ⟨cur, h1, -⟩ := h
  exact h1.lt
/-- Bytes are copied behind those that lie there. -/
theorem Rm.copy {w : World} {g R : Nat} {l l' : List Int} {g9 c9 : Nat} (h : Rm w g R l) (hf : l.length + l'.length ≤ R) (hc : ∀ j u, (bCl l')[j]? = some u → w.cell? ((⟨g9, 0, none⟩ : Addr).add j) = some u) (_hR : R ≤ 1048576) :
    ∃ w', (Builtin.copy_ #[22, 22] 3 #[.slice (some ⟨g, l.length, none⟩) (R - l.length) (R - l.length), .slice (some ⟨g9, 0, none⟩) l'.length c9]).run Try.prog w = .ok (.int .i64 (l'.length : Int)) w' ∧ Rm w' g R (l ++ l') ∧ Kept g w w' := by
  obtain ⟨cur, h1, h2, h3, h4⟩ := h
  have hrun := run_copy_row (P := Try.prog) w 22 22 3 5 g l.length (R - l.length) (R - l.length) ⟨g9, 0, none⟩ l'.length c9 cur 5 (bCl l') Try.underlying22 byte1 h1 (by rw [bCl_len]; simp [Nat.min_def]; omega) hc (by rw [bCl_len]; omega) (bCl_one _)
  refine ⟨_, hrun.trans (by rw [bCl_len]; rfl), ⟨_, setRow_heap w g _ _ _ _ h1, ?_, by simp; omega, ?_⟩, kept_setRow _ _ _⟩
  · simp [bCl_len]; omega
  · rw [h4]
    simp only [bCl_app, List.length_append]
    rw [show l.length + l'.length = (bCl (l ++ l')).length by simp [bCl_len]]
    exact List.take_left
theorem GaB.open {w0 w : World} {B : Nat} {v : Value} {l : List Int} (s : GaB w0 w B v l) : ∃ g c, (∀ j u, (bCl l)[j]? = some u → w.cell? ((⟨g, 0, none⟩ : Addr).add j) = some u) ∧ v = .slice (some ⟨g, 0, none⟩) l.length c ∧ B ≤ g ∧ g < w.heap.size := by
  rcases s.own.2 with ⟨e, _⟩ | ⟨g, c, cur, e, hb, hh, hc1, hc2, hsz, ht⟩
  · exact absurd e s.nn
  · refine ⟨g, c, fun j u hu => ?_, e, hb, (Array.getElem?_eq_some_iff.1 hh).1⟩
    have hj : j < l.length := by
      have := (List.getElem?_eq_some_iff.1 hu).1
      rwa [bCl_len] at this
    rw [← ht, List.getElem?_take_of_lt (by omega)] at hu
    have : w.cell? ⟨g, j, none⟩ = some u := by simpa [World.cell?, hh] using hu
    by_cases e : j = 0
    · subst e; simpa [Addr.add] using this
    · simpa [Addr.add, e] using this
/-- The bytes of a frame. -/
noncomputable def sqO (W H : Int) (len : Nat) (f : Nat → Int) : List Int := @ite _ (frOk W H len f) (Classical.propDecidable _) (W :: H :: sqL f len) []
theorem sqO_yes {W H : Int} {len : Nat} {f : Nat → Int} (h : frOk W H len f) : sqO W H len f = W :: H :: sqL f len := by unfold sqO; rw [if_pos h]
theorem sqO_no {W H : Int} {len : Nat} {f : Nat → Int} (h : ¬ frOk W H len f) : sqO W H len f = [] := by unfold sqO; rw [if_neg h]
theorem sqO_le (W H : Int) (len : Nat) (f : Nat → Int) : (sqO W H len f).length ≤ 20000 := by
  by_cases h : frOk W H len f
  · rw [sqO_yes h]
    have p1 := mul_in (a := W) (b := H) (x := 64) (y := 64) (by have := h.1; omega) (by have := h.2.1; omega)
    have := sqL_len f len
    have := h.2.2.1
    simp
    omega
  · rw [sqO_no h]; exact Nat.zero_le _
def SqP (W H : Int) (len : Nat) (f : Nat → Int) (w : World) (e : Ending) (w' : World) : Prop := ∃ v, e = .returned v ∧ ByA w' w.heap.size w'.heap.size v (sqO W H len f).length (fun i => (sqO W H len f).getD i 0) ∧ Below w.heap.size w w'
set_option maxRecDepth 100000 in
set_option maxHeartbeats 8000000 in
theorem implSq_any {w : World} {a : Option Addr} {len c : Nat} {f : Nat → Int} (W H : Int) (hs : Src w a len f) (hlen : len ≤ 1048576) :
    Calls Try.prog 12 #[fV W H (.slice a len c)] w (SqP W H len f w) := by
  obtain ⟨V, hV, b0, bW, -⟩ := boxed w 26 #[.int .i64 W, .int .i64 H, .slice a len c]
  have z_V := b0.lt
  go_enter Try.func12, Try.ntmps12
  obtain ⟨oc00, oc01, oc02, -⟩ := b0.open3
  go_wp2_with fail
  refine (implFrameOk_any W H (hs.below bW) hlen).mono ?_
  rintro e w3 ⟨rfl, bb⟩
  clear oc00 oc01 oc02
  replace b0 := b0.below bb
  replace bW := bW.trans (bb.mono bW.size)
  have z_w3 := bb.size
  clear bb
  clear hV
  rcases hfr : frB W H len f with _ | _
  · have hno := frB_not hfr
    have hbs : ∀ w, (Instr.buildSlice 22 0 #[]).run Try.prog w = .ok (.slice (some ⟨w.heap.size, 0, none⟩) 0 0) (w.alloc (.cells #[] 5)) := fun _ => by kernel_rfl
    clear hfr
    obtain ⟨V4, hV4, a4, bb, -⟩ := boxed w3 5 #[]
    have z4 := a4.lt
    replace bW := bW.trans (bb.mono bW.size)
    go_wp2
    go_ret
    refine ⟨_, rfl, ?_, bW⟩
    rw [sqO_no hno]
    exact ⟨w3.heap.size, 0, #[], rfl, by omega, z4, Nat.le_refl _, Nat.zero_le _, a4, fun i hi => absurd hi (Nat.not_lt_zero _)⟩
  · have hok := frB_of hfr
    have HE : Hid (sqO W H len f = W :: H :: sqL f len) := sqO_yes hok
    obtain ⟨hW, hH, hl, hf⟩ := hok
    have p1 := mul_in (a := W) (b := H) (x := 64) (y := 64) (by omega) (by omega)
    have hl4 : len ≤ 4096 := by omega
    have hl0 : 0 < len := by
      have := Int.mul_pos (show (0 : Int) < W by omega) (show (0 : Int) < H by omega)
      omega
    rcases hs with h0 | ⟨b, off, rfl, hb, hr⟩
    · omega
    obtain ⟨oc00, oc01, oc02, -⟩ := b0.open3
    go_wp2_with fail
    refine (detectorOf_any W H _ len c _).mono ?_
    rintro e w4 ⟨rfl, bb⟩
    clear oc00 oc01 oc02
    replace bW := bW.trans (bb.mono bW.size)
    have z_w4 := bb.size
    clear bb
    clear b0 hfr
    obtain ⟨V5, hV5, d0, bb, -⟩ := boxed w4 58 #[.int .i64 W, .int .i64 H, .slice (some ⟨b, off, none⟩) len c]
    replace bW := bW.trans (bb.mono bW.size)
    have z_V5 := d0.lt
    clear bb
    obtain ⟨oc00, oc01, oc02, -⟩ := d0.open3
    go_wp2_with fail
    refine (size_any W H _ hW hH).mono ?_
    rintro e w6 ⟨rfl, bb⟩
    clear oc00 oc01 oc02
    replace d0 := d0.below bb
    replace bW := bW.trans (bb.mono bW.size)
    have z_w6 := bb.size
    clear bb
    clear hV5
    obtain ⟨R, hR⟩ : ∃ R : Nat, R = 2 + 3 * len := ⟨_, rfl⟩
    have hmk := make_bytes R (by omega)
    have hRI : (R : Int) = 2 + 3 * (W * H) := by omega
    rw [hRI] at hmk
    have HR : Hid (R = 2 + 3 * len) := hR
    have hR2 : 2 ≤ R ∧ R ≤ 20000 := by omega
    have hRl : ∀ k, k < len → 2 + 3 * k + 3 ≤ R := fun k hk => by omega
    have HRl : Hid (∀ k, k < len → 2 + 3 * k + 3 ≤ R) := hRl
    clear hR hRI hRl hl
    obtain ⟨V7, hV7, rm, bb, -⟩ := boxed w6 5 (madeCells #[.int .u8 0] R)
    replace d0 := d0.below bb
    replace bW := bW.trans (bb.mono bW.size)
    have z_V7 := rm.lt
    clear bb
    have hb2 : ∀ w, (Instr.buildSlice 22 2 #[(0, .int .u8 W), (1, .int .u8 H)]).run Try.prog w = .ok (.slice (some ⟨w.heap.size, 0, none⟩) 2 2) (w.alloc (.cells #[.int .u8 W, .int .u8 H] 5)) := fun _ => by kernel_rfl
    obtain ⟨c0, c1, c2, -⟩ := d0.open3
    obtain ⟨V8, hV8, wh, bb, -⟩ := boxed V7 5 #[.int .u8 W, .int .u8 H]
    replace d0 := d0.below bb
    replace rm := rm.below bb
    replace bW := bW.trans (bb.mono bW.size)
    have z_V8 := wh.lt
    clear bb
    have RM : Rm V8 w6.heap.size R [] := ⟨_, rm, by simp [madeCells], Nat.zero_le _, rfl⟩
    have hwh : ∀ j u, (bCl [W, H])[j]? = some u → V8.cell? ((⟨V7.heap.size, 0, none⟩ : Addr).add j) = some u := by
      intro j u hu
      rcases j with _ | _ | j
      · simp [bCl] at hu; subst hu; exact wh.cell 0 rfl
      · simp [bCl] at hu; subst hu; exact wh.cell 1 rfl
      · simp [bCl] at hu
    obtain ⟨V9, hrun, RM9, K9⟩ := RM.copy (l' := [W, H]) (c9 := 2) (by simp; omega) hwh (by omega)
    simp only [List.length_nil, Nat.sub_zero, List.length_cons, List.nil_append] at hrun RM9
    replace bW := bW.trans (K9.below (N := w.heap.size) (by omega) (by omega))
    have d9 := d0.kept K9 (by omega)
    have z_V9 := K9.size
    obtain ⟨e0, e1, e2, -⟩ := d9.open3
    clear RM K9 wh rm hwh
    go_wp2_with fail
    clear hrun hmk hb2 hV7 hV8 c0 c1 c2 e0 e1 e2 d0
    obtain ⟨g, hg⟩ : ∃ g, w6.heap.size = g := ⟨_, rfl⟩
    have hgw : w4.heap.size < g ∧ w.heap.size ≤ g := by omega
    rw [hg] at RM9 ⊢
    have r0 : Rm V9 g R (W :: H :: sqL f 0) ∧ At 58 V9 w4.heap.size #[.int .i64 W, .int .i64 H, .slice (some ⟨b, off, none⟩) len c] ∧ Below w.heap.size w V9 := ⟨RM9, d9, bW⟩
    clear RM9 d9 bW hg
    go_loopw [5, 6, 35] (fun s5 s6 s35 wr => ∃ k : Nat, ∃ l : List Int, k ≤ len ∧ s35 = .int .i64 (k : Int) ∧ s5 = .int .i64 (l.length : Int) ∧ s6 = .int .i64 (la f k) ∧ l = W :: H :: sqL f k ∧ Rm wr g R l ∧ At 58 wr w4.heap.size #[.int .i64 W, .int .i64 H, .slice (some ⟨b, off, none⟩) len c] ∧ Below w.heap.size w wr) (fun _ _ s35 _ => len - (intOf s35).toNat)
    case atStart => exact ⟨0, _, Nat.zero_le _, rfl, rfl, rfl, rfl, r0⟩
    case round =>
      clear r0
      obtain ⟨k, l, hk, rfl, rfl, rfl, hle, RM, d0, bW⟩ := hrel
      have hll : l.length ≤ 2 + 3 * k := by
        have := sqL_len f k
        rw [hle]
        simp
        omega
      by_cases hlt : k < len
      · have hlt' : (k : Int) < (len : Int) := by omega
        have hR3 := HRl.out k hlt
        have hgl := gr_len 2 (fo (f k - la f k))
        have hF := hf k hlt
        have hA : 0 ≤ la f k ∧ la f k ≤ 65535 := by
          unfold la
          split
          · omega
          · exact hf (k - 1) (by omega)
        have hnext : l ++ gr 2 (fo (f k - la f k)) = W :: H :: sqL f (k + 1) := by rw [hle]; rfl
        have hla : la f (k + 1) = f k := by simp [la]
        have g0 := (bW.cell (p := ⟨b, off + k, none⟩) hb).trans (hr k hlt)
        have HN : Hid (l ++ gr 2 (fo (f k - la f k)) = W :: H :: sqL f (k + 1) ∧ la f (k + 1) = f k) := ⟨hnext, hla⟩
        clear hnext hla hle
        generalize la f k = A at hA hgl HN ⊢
        generalize f k = F at g0 hF hgl HN
        obtain ⟨s, hs⟩ : ∃ s, F - A = s := ⟨_, rfl⟩
        have hs1 : -65535 ≤ s ∧ s ≤ 65535 := by omega
        have wr1 : IntKind.i64.wrap (F - A) = s := (IntWalk.i64_in _ (by omega)).trans hs
        rw [hs] at hgl HN
        have wr2 : IntKind.i64.wrap ((l.length : Int) + ((gr 2 (fo s)).length : Int)) = ((l.length + (gr 2 (fo s)).length : Nat) : Int) := (IntWalk.i64_in _ (by omega)).trans (by simp)
        have q1 : (l.length : Int) ≤ (R : Int) := by omega
        have q2 : ¬ R = l.length := by omega
        have q3 : (0 : Int) ≤ (l.length : Int) := by omega
        obtain ⟨c0, c1, c2, -⟩ := d0.open3
        clear hs
        go_upto_region 10 with (fail)
        clear c0 c1 c2 g0
        obtain ⟨u0, hu0, bb⟩ : ∃ uu, wr.drew = uu ∧ Below wr.heap.size wr uu := ⟨_, rfl, (Below.refl _ _).drew⟩
        replace d0 := d0.below bb
        replace RM := RM.below bb
        replace bW := bW.trans (bb.mono bW.size)
        have hz0 := bb.size
        clear bb
        refine wp_region_held_drew (S := AnyW) (by kernel_rfl) (by rw [hu0]; exact trivial) (fun hHeld => ?_)
        rw [hu0] at hHeld ⊢
        clear hu0
        change wpAnyH _ _ _ _ _ 12 #[false, false, false, false, false, false, false, false, false, false, false, false] _ _
        refine wpAnyH_take (i := 0) (v := .int .i64 ((l.length : Int))) rfl (by kernel_rfl) (by kernel_rfl) (by kernel_rfl) (fun _ _ _ h => h) (Or.inl ⟨by kernel_rfl, ?_⟩) hHeld ?_
        · intro w' hSw; go_simp
        try simp only [Act.put, List.setIfInBounds_toArray, List.set_cons_zero, List.set_cons_succ, List.getElem_toArray, List.getElem_cons_zero]
        refine wpAnyH_take (i := 1) (v := .slice ((some ⟨g, 0, none⟩)) R R) rfl (by kernel_rfl) (by kernel_rfl) (by kernel_rfl) (fun _ _ _ h => h) (Or.inl ⟨by kernel_rfl, ?_⟩) hHeld ?_
        · intro w' hSw; go_simp
        try simp only [Act.put, List.setIfInBounds_toArray, List.set_cons_zero, List.set_cons_succ, List.getElem_toArray, List.getElem_cons_succ, List.getElem_cons_zero]
        refine wpAnyH_take (i := 2) (v := .int .i64 ((l.length : Int))) rfl (by kernel_rfl) (by kernel_rfl) (by kernel_rfl) (fun _ _ _ h => h) (Or.inl ⟨by kernel_rfl, ?_⟩) hHeld ?_
        · intro w' hSw; go_simp
        try simp only [Act.put, List.setIfInBounds_toArray, List.set_cons_zero, List.set_cons_succ, List.getElem_toArray, List.getElem_cons_succ, List.getElem_cons_zero]
        refine wpAnyH_take (i := 3) (v := .slice (some ⟨g, l.length, none⟩) (R - l.length) (R - l.length)) rfl (by kernel_rfl) (by kernel_rfl) (by kernel_rfl) (fun _ _ _ h => h) (Or.inl ⟨by kernel_rfl, ?_⟩) hHeld ?_
        · intro w' hSw; go_simp
        try simp only [Act.put, List.setIfInBounds_toArray, List.set_cons_zero, List.set_cons_succ, List.getElem_toArray, List.getElem_cons_succ, List.getElem_cons_zero]
        refine wpAnyH_take (i := 4) (v := .int .i64 (F)) rfl (by kernel_rfl) (by kernel_rfl) (by kernel_rfl) (fun _ _ _ h => h) (Or.inl ⟨by kernel_rfl, ?_⟩) hHeld ?_
        · intro w' hSw; go_simp
        try simp only [Act.put, List.setIfInBounds_toArray, List.set_cons_zero, List.set_cons_succ, List.getElem_toArray, List.getElem_cons_succ, List.getElem_cons_zero]
        refine wpAnyH_take (i := 5) (v := .int .i64 (A)) rfl (by kernel_rfl) (by kernel_rfl) (by kernel_rfl) (fun _ _ _ h => h) (Or.inl ⟨by kernel_rfl, ?_⟩) hHeld ?_
        · intro w' hSw; go_simp
        try simp only [Act.put, List.setIfInBounds_toArray, List.set_cons_zero, List.set_cons_succ, List.getElem_toArray, List.getElem_cons_succ, List.getElem_cons_zero]
        refine wpAnyH_take (i := 6) (v := .int .i64 (s)) rfl (by kernel_rfl) (by kernel_rfl) (by kernel_rfl) (fun _ _ _ h => h) (Or.inl ⟨by kernel_rfl, ?_⟩) hHeld ?_
        · intro w' hSw; go_simp
        try simp only [Act.put, List.setIfInBounds_toArray, List.set_cons_zero, List.set_cons_succ, List.getElem_toArray, List.getElem_cons_succ, List.getElem_cons_zero]
        refine wpAnyH_ready (rs := [7]) (by kernel_rfl) (by simp) ?_
        refine AllReadyH.cons rfl (fun KK hK' => ?_) AllReadyH.nil
        go_simp
        refine (folded_any s _ (by omega)).mono ?_
        rintro e u1 ⟨rfl, rfl⟩
        try go_wp2_with fail
        clear hHeld
        refine hK'.out _ _ (trivial) (fun hHeld => ?_)
        clear hK' KK
        try simp only [List.setIfInBounds_toArray, List.set_cons_zero, List.set_cons_succ]
        refine wpAnyH_ready (rs := [8]) (by kernel_rfl) (by simp) ?_
        refine AllReadyH.cons rfl (fun KK hK' => ?_) AllReadyH.nil
        go_simp
        refine (groupsOf_any (fo s) _ (fo_le (by omega))).mono ?_
        rintro e u2 ⟨gv, rfl, GG⟩
        have bb := GG.b
        replace d0 := d0.below bb
        replace RM := RM.below bb
        replace bW := bW.trans (bb.mono bW.size)
        have hgu : u0.heap.size ≤ u2.heap.size := bb.size
        clear bb
        obtain ⟨g9, c9, GB, rfl, hg9, hc9⟩ := GG.open
        clear GG
        try go_wp2_with fail
        clear hHeld
        refine hK'.out _ _ (trivial) (fun hHeld => ?_)
        clear hK' KK
        try simp only [List.setIfInBounds_toArray, List.set_cons_zero, List.set_cons_succ]
        refine wpAnyH_ready (rs := [9]) (by kernel_rfl) (by simp) ?_
        refine AllReadyH.cons rfl (fun KK hK' => ?_) AllReadyH.nil
        obtain ⟨u3, hrun, RM3, K3⟩ := RM.copy (l' := gr 2 (fo s)) (c9 := c9) (by omega) GB (by omega)
        go_simp
        replace d0 := d0.kept K3 (by omega)
        replace bW := bW.trans (K3.below (N := w.heap.size) hgw.2 bW.size)
        have hgu3 := K3.size
        clear hrun RM K3
        clear hHeld
        refine hK'.out _ _ (trivial) (fun hHeld => ?_)
        clear hK' KK
        try simp only [List.setIfInBounds_toArray, List.set_cons_zero, List.set_cons_succ]
        refine wpAnyH_take (i := 10) (v := .int .i64 (((l.length + (gr 2 (fo s)).length : Nat) : Int))) rfl (by kernel_rfl) (by kernel_rfl) (by kernel_rfl) (fun _ _ _ h => h) (Or.inl ⟨by kernel_rfl, ?_⟩) hHeld ?_
        · intro w' hSw; go_simp
        try simp only [Act.put, List.setIfInBounds_toArray, List.set_cons_zero, List.set_cons_succ, List.getElem_toArray, List.getElem_cons_succ, List.getElem_cons_zero]
        refine wpAnyH_take (i := 11) (v := .int .i64 (((l.length + (gr 2 (fo s)).length : Nat) : Int))) rfl (by kernel_rfl) (by kernel_rfl) (by kernel_rfl) (fun _ _ _ h => h) (Or.inl ⟨by kernel_rfl, ?_⟩) hHeld ?_
        · intro w' hSw; go_simp
        try simp only [Act.put, List.setIfInBounds_toArray, List.set_cons_zero, List.set_cons_succ, List.getElem_toArray, List.getElem_cons_succ, List.getElem_cons_zero]
        refine wpAnyH_done (by kernel_rfl) ?_ _
        clear hHeld
        go_wp2
        refine ⟨⟨k + 1, l ++ gr 2 (fo s), by omega, by go_num, by simp, by rw [HN.out.2], HN.out.1, RM3, d0, bW⟩, by simp [intOf]; omega⟩
      · have hlt' : ¬ (k : Int) < (len : Int) := by omega
        obtain rfl : k = len := by omega
        have hRl : l.length ≤ R := by obtain ⟨cur, -, -, h3, -⟩ := RM; exact h3
        have q1 : (l.length : Int) ≤ (R : Int) := by omega
        have HL : Hid (l = W :: H :: sqL f k) := hle
        clear hle
        go_wp2
        go_ret
        refine ⟨_, rfl, ?_, bW⟩
        rw [HE.out, ← HL.out]
        obtain ⟨cur, h1, h2, h3, h4⟩ := RM
        refine ⟨g, l.length, cur, rfl, hgw.2, h1.lt, Nat.le_refl _, by omega, h1, fun i hi => ?_⟩
        have a1 : (bCl l)[i]? = some (.int .u8 (l.getD i 0)) := by simp [bCl, hi]
        rw [← h4, List.getElem?_take_of_lt hi] at a1
        simpa using a1
end Go.Proofs.Ytfgehmcloeebkaa
