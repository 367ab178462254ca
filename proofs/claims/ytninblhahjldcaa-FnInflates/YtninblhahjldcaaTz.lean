/-
  The law FnInflates: walked.
-/
import Derived.Test.YtninblhahjldcaaTn
import Derived.Test.YtninblhahjldcaaTy
namespace Go.Proofs.Ytninblhahjldcaa
open Go.RowKit

set_option maxRecDepth 100000 in
set_option maxHeartbeats 2000000 in
theorem drawInfl_any {w : World} {a : Option Addr} {len cap : Nat} (hr : Row w w.heap.size a len) :
    Calls Try.prog 10 #[.slice a len cap] w fun e w' => ∃ (s : ByteArray) (t : Int), e = .returned (.tuple #[.string s, .int .i64 t]) ∧ Below w.heap.size w w' := by
  go_enter Try.func10, Try.ntmps10
  go_wp2_with fail
  refine (new_any hr).mono ?_
  rintro e w1 ⟨rfl, hb1, hc⟩
  replace hc := Dr.start hc
  obtain ⟨p, hp⟩ : ∃ p, w.heap.size = p := ⟨_, rfl⟩
  rw [hp] at hc ⊢
  go_wp2_with fail
  refine (l9Draw_any hc).mono ?_
  clear hc
  rintro e w2 ⟨s, rfl, hc⟩
  go_wp2_with fail
  refine (below_dr hc 6 (by decide) (by decide)).mono ?_
  clear hc
  rintro e w3 ⟨x, rfl, x0, x1, hc⟩
  go_wp2_with fail
  refine (once_dr hc 12 (by decide) (by decide)).mono ?_
  clear hc
  rintro e w4 ⟨b, rfl, hc⟩
  cases b with
  | false =>
    go_wp2
    exact bodyPost_ret (v := .tuple #[.string s, .int .i64 x]) (by simp [results, Try.results10, go_sem]) rfl ⟨_, _, rfl, hb1.trans (hc.1.below (N := w.heap.size) (by omega) hb1.size)⟩
  | true =>
    go_wp2_with fail
    obtain ⟨V, hV, bx, bV, -⟩ := boxed w4 2 #[.int .i64 (-1), .int .i64 30, .int .i64 31, .int .i64 18, .int .i64 20]
    rw [hV]
    have lp : p < w4.heap.size := hc.2.lt
    obtain ⟨q, hqq⟩ : ∃ q, w4.heap.size = q := ⟨_, rfl⟩
    rw [hqq] at bx lp ⊢
    have hk0 := (hc.below bV).1
    replace hc := Dr.start (hc.below bV).2
    clear hV bV hqq
    refine (below_dr hc 5 (by decide) (by decide)).mono ?_
    clear hc
    rintro e w5 ⟨u, rfl, u0, u1, hc⟩
    replace bx := bx.kept9 hc.1 (by omega)
    replace hc := hc.from hk0
    clear hk0
    obtain ⟨i, rfl⟩ : ∃ i : Nat, u = i := ⟨u.toNat, by omega⟩
    have hi : i < 5 := by omega
    obtain ⟨y, hcell⟩ : ∃ y : Int, w5.cell? ⟨q, i, none⟩ = some (.int .i64 y) := by
      match i, hi with
      | 0, _ => exact ⟨-1, bx.cell 0 rfl⟩
      | 1, _ => exact ⟨30, bx.cell 1 rfl⟩
      | 2, _ => exact ⟨31, bx.cell 2 rfl⟩
      | 3, _ => exact ⟨18, bx.cell 3 rfl⟩
      | 4, _ => exact ⟨20, bx.cell 4 rfl⟩
    have hi' : (i : Int) < 5 := by omega
    clear bx
    go_wp2
    exact bodyPost_ret (v := .tuple #[.string s, .int .i64 y]) (by simp [results, Try.results10, go_sem]) rfl ⟨_, _, rfl, hb1.trans (hc.1.below (N := w.heap.size) (by omega) hb1.size)⟩
/-- L inflated: what is told, and that it is cut from 0 on. -/
theorem fromL {n : Nat} (hn : n ≤ 20) : ∃ M : List UInt8, gr n [76] = some M ∧ M = cutR 0 M.length ∧ 0 < M.length ∧ M.length ≤ 20000 := by
  refine ⟨it [76] n, gr_some fun i hi => ?_, it_cut n hn, ?_, ?_⟩
  · rw [(it_counts i).1]; exact (fibs_le i (by omega)).1
  · rw [(it_counts n).1]; exact (fibs_le n hn).2
  · rw [(it_counts n).1]; exact (fibs_le n hn).1
theorem rowL : rowOk (tx [76]) 20000 = true := by decide
set_option maxRecDepth 100000 in
set_option maxHeartbeats 2000000 in
theorem inflates_walk {w : World} {a : Option Addr} {len cap : Nat} (hr : Row w w.heap.size a len) :
    Calls Try.prog 3 #[.slice a len cap] w fun e w' => e = .returned (.bool true) ∧ Below w.heap.size w w' := by
  have hm : len ≤ maxLen := hr.1
  by_cases hbig : 1048576 < len
  · have hd := decide_eq_true hbig
    go_enter Try.func3, Try.ntmps3
    go_wp2_with (go_at_call 9; refine (big_any _ _ _ _ hm).mono ?_; rintro e w1 ⟨rfl, rfl⟩)
    go_ret
    exact ⟨rfl, Below.refl _ _⟩
  · have hd := decide_eq_false hbig
    go_enter Try.func3, Try.ntmps3
    go_wp2_with (go_at_call 9; refine (big_any _ _ _ _ hm).mono ?_; rintro e w1 ⟨rfl, rfl⟩)
    refine (drawInfl_any hr).mono ?_
    rintro e w2 ⟨s, t, rfl, b2⟩
    obtain ⟨L, rfl⟩ : ∃ L, s = tx L := ⟨s.data.toList, by simp [tx]⟩
    by_cases hrow : rowOk (tx L) 20000 = true
    · by_cases hl : (infl L).length ≤ 20000
      · have hg : gr 1 L = some (infl L) := by rw [gr, if_pos hl]; rfl
        have sp := specInfl_yes L 1 w2 hrow (by decide)
        rw [hg] at sp
        go_wp2_with fail
        refine sp.mono ?_
        rintro e w3 ⟨rfl, b3⟩
        have im := implInfl_yes L 1 w3 hrow (by decide)
        rw [hg] at im
        go_wp2_with fail
        refine im.mono ?_
        rintro e w4 ⟨rfl, b4⟩
        clear sp im hg
        have hrow2 : rowOk (tx (infl L)) 20000 = true := rowOk_of (infl_letters L) hl
        go_wp2_with fail
        refine (implDeflate_yes _ _ hrow2).mono ?_
        rintro e w5 ⟨r, hdf, rfl, b5⟩
        obtain rfl : r = some L := hdf.det (dfl_infl L (letters_of hrow))
        have hne := bne_self_eq_false (tx L).toList
        go_wp2_with fail
        have b25 := b2.trans ((b3.trans ((b4.trans (b5.mono b4.size)).mono b3.size)).mono b2.size)
        obtain ⟨N, hN, hN2⟩ : ∃ N : Nat, (len : Int) % 21 = N ∧ N ≤ 20 := ⟨len % 21, by omega, by omega⟩
        rw [hN]
        obtain ⟨M, hM, hcut, hM0, hM1⟩ := fromL hN2
        have iL := implInfl_yes [76] N w5 rowL (by omega)
        rw [hM] at iL
        refine iL.mono ?_
        rintro e w6 ⟨rfl, b6⟩
        clear iL hN hM
        have cR := implCut_yes 0 M.length w6 (by decide) (by decide) hM1
        rw [← hcut] at cR
        clear hcut
        have hsz := tx_size M
        have hM0' : (0 : Int) < M.length := by omega
        have heq : ((tx M).toList == (tx M).toList) = true := by simp
        have bl : Below w.heap.size w w6 := b25.trans (b6.mono (b25).size)
        go_wp2_with (go_at_call 14; refine cR.mono ?_; rintro e w7 ⟨rfl, b7⟩)
        go_ret
        exact ⟨rfl, bl.trans (b7.mono bl.size)⟩
      · have hg : gr 1 L = none := by rw [gr, if_neg hl]
        have sp := specInfl_yes L 1 w2 hrow (by decide)
        rw [hg] at sp
        go_wp2_with fail
        refine sp.mono ?_
        rintro e w3 ⟨rfl, b3⟩
        clear sp hg
        go_wp2_with fail
        have b23 := b2.trans (b3.mono b2.size)
        obtain ⟨N, hN, hN2⟩ : ∃ N : Nat, (len : Int) % 21 = N ∧ N ≤ 20 := ⟨len % 21, by omega, by omega⟩
        rw [hN]
        obtain ⟨M, hM, hcut, hM0, hM1⟩ := fromL hN2
        have iL := implInfl_yes [76] N w3 rowL (by omega)
        rw [hM] at iL
        refine iL.mono ?_
        rintro e w6 ⟨rfl, b6⟩
        clear iL hN hM
        have cR := implCut_yes 0 M.length w6 (by decide) (by decide) hM1
        rw [← hcut] at cR
        clear hcut
        have hsz := tx_size M
        have hM0' : (0 : Int) < M.length := by omega
        have heq : ((tx M).toList == (tx M).toList) = true := by simp
        have bl : Below w.heap.size w w6 := b23.trans (b6.mono (b23).size)
        go_wp2_with (go_at_call 14; refine cR.mono ?_; rintro e w7 ⟨rfl, b7⟩)
        go_ret
        exact ⟨rfl, bl.trans (b7.mono bl.size)⟩
    · have hno : ¬ infOk (tx L) 1 := fun e => hrow e.1
      go_wp2_with fail
      refine (specInfl_no _ _ _ hno).mono ?_
      rintro e w3 ⟨rfl, b3⟩
      go_wp2_with fail
      have b23 := b2.trans (b3.mono b2.size)
      obtain ⟨N, hN, hN2⟩ : ∃ N : Nat, (len : Int) % 21 = N ∧ N ≤ 20 := ⟨len % 21, by omega, by omega⟩
      rw [hN]
      obtain ⟨M, hM, hcut, hM0, hM1⟩ := fromL hN2
      have iL := implInfl_yes [76] N w3 rowL (by omega)
      rw [hM] at iL
      refine iL.mono ?_
      rintro e w6 ⟨rfl, b6⟩
      clear iL hN hM
      have cR := implCut_yes 0 M.length w6 (by decide) (by decide) hM1
      rw [← hcut] at cR
      clear hcut
      have hsz := tx_size M
      have hM0' : (0 : Int) < M.length := by omega
      have heq : ((tx M).toList == (tx M).toList) = true := by simp
      have bl : Below w.heap.size w w6 := b23.trans (b6.mono (b23).size)
      go_wp2_with (go_at_call 14; refine cR.mono ?_; rintro e w7 ⟨rfl, b7⟩)
      go_ret
      exact ⟨rfl, bl.trans (b7.mono bl.size)⟩
theorem inflates_of {w : World} {a : Option Addr} {len cap : Nat} {zs : List Int} (h : IsRow .u8 w a len cap zs) :
    Calls Try.prog 3 #[.slice a len cap] w fun e w' => e = .returned (.bool true) ∧ Below w.heap.size w w' := inflates_walk (row_of h)
end Go.Proofs.Ytninblhahjldcaa
