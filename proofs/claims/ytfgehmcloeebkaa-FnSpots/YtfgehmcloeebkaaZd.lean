/-
  Unsqueeze, by the program, walked.
-/
import Derived.Test.YtfgehmcloeebkaaZc
import Derived.Test.YtfgehmcloeebkaaVh
import Derived.Deep.CutRange
namespace Go.Proofs.Ytfgehmcloeebkaa
open Go.RowKit

/-- The zero frame. -/
theorem zero_fr (w : World) (lo hi : Nat) : FrAt w lo hi (fV 0 0 (.slice none 0 0)) 0 0 0 (fun _ => 0) := ⟨_, rfl, .inl ⟨rfl, rfl⟩⟩
def UnP (F : Nat → Int) (n : Nat) (w : World) (e : Ending) (w' : World) : Prop := ∃ m W' H' l' f' r, e = .returned (.tuple #[m, .int .i64 r]) ∧ UnT F n W' H' l' f' r ∧ FrAt w' w.heap.size w'.heap.size m W' H' l' f' ∧ Below w.heap.size w w'
theorem Made.cong {w : World} {g n k : Nat} {f h : Nat → Int} (m : Made w g n k f) (e : ∀ i, i < k → f i = h i) : Made w g n k h := by
  obtain ⟨cur, h1, h2, h3⟩ := m
  exact ⟨cur, h1, h2, fun i hi => by rw [h3 i hi, e i hi]⟩
theorem srcB_at {w : World} {g n p : Nat} {F : Nat → Int} (h : SrcB w (some ⟨g, 0, none⟩) n F) : SrcB w (some ⟨g, p, none⟩) (n - p) (fun i => F (p + i)) := by
  rcases h with h0 | ⟨b, off, e, hb, hr⟩
  · exact .inl (by omega)
  · simp only [Option.some.injEq, Addr.mk.injEq] at e
    obtain ⟨rfl, rfl, -⟩ := e
    refine .inr ⟨g, p, rfl, hb, fun i hi => ?_⟩
    have := hr (p + i) (by omega)
    simpa using this
set_option maxRecDepth 100000 in
set_option maxHeartbeats 8000000 in
theorem implUn_any {w : World} {gb n cb : Nat} {F : Nat → Int} (hs : SrcB w (some ⟨gb, 0, none⟩) n F) (hn : n ≤ 1048576) (hcb : n ≤ cb) (hcm : cb ≤ 9223372036854775807) (hF : ∀ i, i < n → 0 ≤ F i ∧ F i ≤ 255) :
    Calls Try.prog 14 #[.slice (some ⟨gb, 0, none⟩) n cb] w (UnP F n w) := by
  have hn' : (n : Int) ≤ 1048576 := by omega
  obtain ⟨V, hV, b2, bW, -⟩ := boxed w 26 #[.int .i64 0, .int .i64 0, .slice none 0 0]
  have z_V := b2.lt
  go_enter Try.func14, Try.ntmps14
  go_wp2_with fail
  refine (gridAhead_any (hs.below bW) hn hF).mono ?_
  rintro e w1 ⟨X0, X1, o, rfl, bb, hyes, hno⟩
  replace b2 := b2.below bb
  replace bW := bW.trans (bb.mono bW.size)
  have z_w1 := bb.size
  clear bb
  clear hV
  obtain ⟨V1, hV1, gx, bb, -⟩ := boxed w1 56 #[.int .i64 X0, .int .i64 X1]
  replace b2 := b2.below bb
  replace bW := bW.trans (bb.mono bW.size)
  have z_V1 := gx.lt
  clear bb
  by_cases hh : hdr F n
  · obtain ⟨rfl, rfl, rfl⟩ := hyes hh
    clear hno hyes
    obtain ⟨hn2, hW, hH⟩ := id hh
    have p1 := mul_in (a := F 0) (b := F 1) (x := 64) (y := 64) (by omega) (by omega)
    obtain ⟨L, hL⟩ : ∃ L : Nat, L = (F 0 * F 1).toNat := ⟨_, rfl⟩
    have hLI : (L : Int) = F 0 * F 1 := by omega
    have hL4 : L ≤ 4096 := by omega
    have HU : Hid (∀ k p a P, k < L → unS F n k = some (p, a, P) → unS F n (k + 1) = none → UnT F n 0 0 0 (fun _ => 0) (p : Int)) := fun k p a P h1 h2 h3 => .inr (.inl ⟨⟨hh, k, p, a, P, by omega, h2, h3, rfl⟩, rfl, rfl, rfl, rfl⟩)
    have HU2 : Hid (∀ p a P, unS F n L = some (p, a, P) → p < n → UnT F n 0 0 0 (fun _ => 0) (p : Int)) := fun p a P h1 h2 => .inr (.inr (.inl ⟨⟨hh, p, a, P, by rw [← hL]; exact h1, h2, rfl⟩, rfl, rfl, rfl, rfl⟩))
    have HU3 : Hid (∀ p a P, unS F n L = some (p, a, P) → ¬ p < n → UnT F n (F 0) (F 1) L (fun i => P.getD i 0) (-1)) := fun p a P h1 h2 => .inr (.inr (.inr ⟨hh, p, a, P, by rw [← hL]; exact h1, h2, rfl, rfl, rfl, hL, rfl⟩))
    obtain ⟨oc00, oc01, -⟩ := gx.open2
    go_wp2_with fail
    refine (blank_any (F 0) (F 1) L _ hW hH hLI).mono ?_
    rintro e w2 ⟨g, rfl, hg, o2, bb⟩
    clear oc00 oc01
    replace b2 := b2.below bb
    replace bW := bW.trans (bb.mono bW.size)
    have z_w2 := bb.size
    clear bb
    clear hV1 gx
    have hg2 := o2.lt
    obtain ⟨V3, hV3, dd, bb, -⟩ := boxed w2 58 #[.int .i64 (F 0), .int .i64 (F 1), .slice (some ⟨g, 0, none⟩) L L]
    replace b2 := b2.below bb
    replace o2 := o2.below bb
    replace bW := bW.trans (bb.mono bW.size)
    have z_V3 := dd.lt
    clear bb
    clear hL hLI
    obtain ⟨qd, hqd⟩ : ∃ q, w2.heap.size = q := ⟨_, rfl⟩
    have hgq : g < qd ∧ w.heap.size < g ∧ w.heap.size < qd := by
      have := b2.lt
      omega
    rw [hqd] at dd
    have r0 : At 26 V3 w.heap.size #[.int .i64 0, .int .i64 0, .slice none 0 0] ∧ At 58 V3 qd #[.int .i64 (F 0), .int .i64 (F 1), .slice (some ⟨g, 0, none⟩) L L] ∧ Made V3 g L 0 (fun i => ([] : List Int).getD i 0) ∧ Below w.heap.size w V3 := by
      refine ⟨b2, dd, ?_, bW⟩
      obtain ⟨cur, k1, k2, -⟩ := o2
      exact ⟨cur, k1, k2, fun i hi => absurd hi (Nat.not_lt_zero _)⟩
    have dd9 := dd.open3
    obtain ⟨c0, c1, c2, -⟩ := dd9
    go_wp2_with fail
    clear b2 dd o2 bW hV3 c0 c1 c2 hqd
    go_loopw [7, 8, 25] (fun s7 s8 s25 wr => ∃ k p : Nat, ∃ a : Int, ∃ P : List Int, k ≤ L ∧ s25 = .int .i64 (k : Int) ∧ s7 = .int .i64 (p : Int) ∧ s8 = .int .i64 a ∧ unS F n k = some (p, a, P) ∧ p ≤ n ∧ At 26 wr w.heap.size #[.int .i64 0, .int .i64 0, .slice none 0 0] ∧ At 58 wr qd #[.int .i64 (F 0), .int .i64 (F 1), .slice (some ⟨g, 0, none⟩) L L] ∧ Made wr g L k (fun i => P.getD i 0) ∧ Below w.heap.size w wr) (fun _ _ s25 _ => L - (intOf s25).toNat)
    case atStart => exact ⟨0, 2, 0, [], Nat.zero_le _, rfl, rfl, rfl, rfl, hn2, r0⟩
    case round =>
      clear r0
      obtain ⟨k, p, a, P, hk, rfl, rfl, rfl, hu, hpn, b2, dd, mm, bW⟩ := hrel
      obtain ⟨hPl, -, ha, hp2⟩ := unS_len hu
      have HUN : Hid (unS F n k = some (p, a, P)) := hu
      clear hu
      have hpc : (p : Int) ≤ (cb : Int) := by omega
      have hpn' : (p : Int) ≤ (n : Int) := by omega
      have hs' := srcB_at (p := p) (hs.below bW)
      by_cases hlt : k < L
      · have hlt' : (k : Int) < (L : Int) := by omega
        have hst : ∀ a' c', SrcB wr a' (n - p) (fun i => F (p + i)) → n - p ≤ c' → Calls Try.prog 45 #[.slice a' (n - p) c'] wr fun e w' => e = .returned (.tuple #[.int .i64 (sV (st F n p)), .int .i64 (sC (st F n p) : Int)]) ∧ wr = w' := fun a' c' h1 h2 => by
          have := stepAhead_any (c := c') h1 (by omega) h2 (fun i hi => hF (p + i) (by omega))
          rw [st_shift] at this
          exact this
        have HST : Hid (∀ a' c', SrcB wr a' (n - p) (fun i => F (p + i)) → n - p ≤ c' → Calls Try.prog 45 #[.slice a' (n - p) c'] wr fun e w' => e = .returned (.tuple #[.int .i64 (sV (st F n p)), .int .i64 (sC (st F n p) : Int)]) ∧ wr = w') := hst
        clear hst
        go_upto_region 8 with (fail)
        go_cut [10, 11] from 28 to 34 (fun s10 s11 wc => s10 = .int .i64 (sV (st F n p)) ∧ s11 = .int .i64 (sC (st F n p) : Int) ∧ wr = wc)
        case first =>
          by_cases hpe : cb = p
          · subst hpe
            have hn0 : n - cb = 0 := by omega
            have h9 := HST.out (some ⟨gb, 0, none⟩) 0 (.inl hn0) (by omega)
            rw [hn0] at h9
            have H9 : Hid (Calls Try.prog 45 #[.slice (some ⟨gb, 0, none⟩) 0 0] wr fun e w' => e = .returned (.tuple #[.int .i64 (sV (st F n cb)), .int .i64 (sC (st F n cb) : Int)]) ∧ wr = w') := h9
            clear h9
            go_wp2_with fail
            refine H9.out.mono ?_
            rintro e w5 ⟨rfl, rfl⟩
            go_wp2_with fail
            go_meet
            case rel => exact ⟨rfl, rfl, rfl⟩
          · go_wp2_with fail
            refine (HST.out _ (cb - p) hs' (by omega)).mono ?_
            rintro e w5 ⟨rfl, rfl⟩
            go_wp2_with fail
            go_meet
            case rel => exact ⟨rfl, rfl, rfl⟩
        case rest =>
          obtain ⟨rfl, rfl, rfl⟩ := hcut
          clear HST hs'
          rcases ho : st F n p with _ | ⟨s, c⟩
          · have hU := HU.out k p a P hlt HUN.out (unS_none HUN.out ho)
            have HUU : Hid (UnT F n 0 0 0 (fun _ => 0) (p : Int)) := hU
            clear hU ho
            simp only [sV, sC]
            have wr1 : IntKind.i64.wrap a = a := IntWalk.i64_in _ (by omega)
            obtain ⟨d0, d1, d2, f0, f1, f2⟩ := b2.open3
            go_wp2
            have a7 := put3_at b2 (.int .i64 0) (.int .i64 0) (.slice none 0 0)
            obtain ⟨p0, p1, p2, -⟩ := a7.open3
            refine bodyPost_ret (v := .tuple #[fV 0 0 (.slice none 0 0), .int .i64 (p : Int)]) (by simp [results, Try.results14, go_sem, p0, p1, p2]) rfl ?_
            exact ⟨_, _, _, _, _, _, rfl, HUU.out, zero_fr _ _ _, below_put3 bW (by omega) _ _ _⟩
          · obtain ⟨hs1, hc1, hc3, hpc2⟩ := st_in hF ho
            simp only [sV, sC]
            obtain ⟨A2, hA2⟩ : ∃ A2, a + s = A2 := ⟨_, rfl⟩
            have wr1 : IntKind.i64.wrap (a + s) = A2 := (IntWalk.i64_in _ (by omega)).trans hA2
            have hcz : ((c : Int) == 0) = false := by simp; omega
            by_cases hr : 0 ≤ A2 ∧ A2 ≤ 65535
            · have hi : decide (0 ≤ A2 ∧ A2 ≤ 65535) = true := decide_eq_true hr
              have hu2 := unS_step HUN.out ho (by rw [hA2]; exact hr)
              rw [hA2] at hu2
              have HU9 : Hid (unS F n (k + 1) = some (p + c, A2, P ++ [A2])) := hu2
              clear hu2 hA2 ho
              have mm2 : Made wr g L k (fun i => (P ++ [A2]).getD i 0) := mm.cong (fun i hi9 => by
                have h8 : i < P.length := by omega
                simp only [List.getD_eq_getElem?_getD, List.getElem?_append_left h8])
              have hk9 : (P ++ [A2]).getD k 0 = A2 := by rw [← hPl]; simp
              have mset := mm2.set hlt
              simp only [hk9] at mset
              obtain ⟨z0, y0⟩ := mm2.open hlt
              have HM : Hid (Made (wr.setCell ⟨g, k, none⟩ (.int .i64 A2)) g L (k + 1) (fun i => (P ++ [A2]).getD i 0)) := mset
              clear mm mm2 mset hk9
              obtain ⟨c0, c1, c2, -⟩ := dd.open3
              go_wp2_with (go_at_call 46; refine (isCount_any _ _).mono ?_; rintro e w2 ⟨rfl, rfl⟩; rw [hi])
              refine ⟨⟨k + 1, p + c, A2, P ++ [A2], by omega, by go_num, by simp, rfl, HU9.out, by omega, b2.setOther (by omega) _, dd.setOther (by omega) _, HM.out, bW.setCell (show w.heap.size ≤ g by omega) _⟩, by simp [intOf]; omega⟩
            · have hi : decide (0 ≤ A2 ∧ A2 ≤ 65535) = false := decide_eq_false hr
              have hU := HU.out k p a P hlt HUN.out (unS_out HUN.out ho (by rw [hA2]; exact hr))
              have HUU : Hid (UnT F n 0 0 0 (fun _ => 0) (p : Int)) := hU
              clear hU ho hA2
              obtain ⟨d0, d1, d2, f0, f1, f2⟩ := b2.open3
              go_wp2_with (go_at_call 46; refine (isCount_any _ _).mono ?_; rintro e w2 ⟨rfl, rfl⟩; rw [hi])
              have a7 := put3_at b2 (.int .i64 0) (.int .i64 0) (.slice none 0 0)
              obtain ⟨p0, p1, p2, -⟩ := a7.open3
              refine bodyPost_ret (v := .tuple #[fV 0 0 (.slice none 0 0), .int .i64 (p : Int)]) (by simp [results, Try.results14, go_sem, p0, p1, p2]) rfl ?_
              exact ⟨_, _, _, _, _, _, rfl, HUU.out, zero_fr _ _ _, below_put3 bW (by omega) _ _ _⟩
      · have hlt' : ¬ (k : Int) < (L : Int) := by omega
        obtain rfl : k = L := by omega
        by_cases hpl : p < n
        · have hpl' : (p : Int) < (n : Int) := by omega
          have HUU : Hid (UnT F n 0 0 0 (fun _ => 0) (p : Int)) := HU2.out p a P HUN.out hpl
          obtain ⟨d0, d1, d2, f0, f1, f2⟩ := b2.open3
          go_wp2
          have a7 := put3_at b2 (.int .i64 0) (.int .i64 0) (.slice none 0 0)
          obtain ⟨p0, p1, p2, -⟩ := a7.open3
          refine bodyPost_ret (v := .tuple #[fV 0 0 (.slice none 0 0), .int .i64 (p : Int)]) (by simp [results, Try.results14, go_sem, p0, p1, p2]) rfl ?_
          exact ⟨_, _, _, _, _, _, rfl, HUU.out, zero_fr _ _ _, below_put3 bW (by omega) _ _ _⟩
        · have hpl' : ¬ (p : Int) < (n : Int) := by omega
          have HUU : Hid (UnT F n (F 0) (F 1) k (fun i => P.getD i 0) (-1)) := HU3.out p a P HUN.out hpl
          replace mm : Own wr g k (fun i => P.getD i 0) := mm
          obtain ⟨oc00, oc01, oc02, -⟩ := dd.open3
          go_wp2_with fail
          refine (frame_any (F 0) (F 1) _ k k _).mono ?_
          rintro e w8 ⟨rfl, bb⟩
          clear oc00 oc01 oc02
          replace b2 := b2.below bb
          replace mm := mm.below bb
          replace bW := bW.trans (bb.mono bW.size)
          have z_w8 := bb.size
          clear bb
          obtain ⟨d0, d1, d2, f0, f1, f2⟩ := b2.open3
          go_wp2
          have a7 := put3_at b2 (.int .i64 (F 0)) (.int .i64 (F 1)) (.slice (some ⟨g, 0, none⟩) k k)
          obtain ⟨p0, p1, p2, -⟩ := a7.open3
          refine bodyPost_ret (v := .tuple #[fV (F 0) (F 1) (.slice (some ⟨g, 0, none⟩) k k), .int .i64 (-1)]) (by simp [results, Try.results14, go_sem, p0, p1, p2]) rfl ?_
          have oo := Made.setOther (Made.setOther (Made.setOther (q := w.heap.size) (i := 0) mm (by omega) (.int .i64 (F 0))) (q := w.heap.size) (i := 1) (by omega) (.int .i64 (F 1))) (q := w.heap.size) (i := 2) (by omega) (.slice (some ⟨g, 0, none⟩) k k)
          exact ⟨_, _, _, _, _, _, rfl, HUU.out, ⟨_, rfl, arr_of_own oo (by omega)⟩, below_put3 bW (Nat.le_refl _) _ _ _⟩
  · obtain rfl := hno hh
    have hU : UnT F n 0 0 0 (fun _ => 0) 0 := .inl ⟨⟨hh, rfl⟩, rfl, rfl, rfl, rfl⟩
    have HU : Hid (UnT F n 0 0 0 (fun _ => 0) 0) := hU
    clear hU hno hyes hh
    obtain ⟨d0, d1, d2, f0, f1, f2⟩ := b2.open3
    go_wp2
    have a7 := put3_at b2 (.int .i64 0) (.int .i64 0) (.slice none 0 0)
    obtain ⟨p0, p1, p2, -⟩ := a7.open3
    refine bodyPost_ret (v := .tuple #[fV 0 0 (.slice none 0 0), .int .i64 0]) (by simp [results, Try.results14, go_sem, p0, p1, p2]) rfl ?_
    exact ⟨_, _, _, _, _, _, rfl, HU.out, zero_fr _ _ _, below_put3 bW (by omega) _ _ _⟩
end Go.Proofs.Ytfgehmcloeebkaa
