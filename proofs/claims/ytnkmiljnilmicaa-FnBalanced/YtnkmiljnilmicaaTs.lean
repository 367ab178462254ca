/-
  The draw of a place and a length: walked.
-/
import Derived.Test.YtnkmiljnilmicaaTy
namespace Go.Proofs.Ytnkmiljnilmicaa
open Go.RowKit

set_option maxRecDepth 100000 in
set_option maxHeartbeats 2000000 in
theorem drawCut_any {w : World} {a : Option Addr} {len cap : Nat} (hr : Row w w.heap.size a len) :
    Calls Try.prog 6 #[.slice a len cap] w fun e w' => ∃ (f n : Int), e = .returned (.tuple #[.int .i64 f, .int .i64 n]) ∧ Below w.heap.size w w' := by
  go_enter Try.func6, Try.ntmps6
  go_wp2_with fail
  refine (new_any hr).mono ?_
  rintro e w1 ⟨rfl, hb1, hc⟩
  replace hc := Dr.start hc
  obtain ⟨p, hp⟩ : ∃ p, w.heap.size = p := ⟨_, rfl⟩
  rw [hp] at hc ⊢
  go_wp2_with fail
  refine (below_dr hc 1000 (by decide) (by decide)).mono ?_
  clear hc
  rintro e w2 ⟨f, rfl, f0, f1, hc⟩
  go_wp2_with fail
  refine (below_dr hc 60 (by decide) (by decide)).mono ?_
  clear hc
  rintro e w3 ⟨n, rfl, n0, n1, hc⟩
  go_wp2_with fail
  refine (once_dr hc 12 (by decide) (by decide)).mono ?_
  clear hc
  rintro e w4 ⟨b, rfl, hc⟩
  cases b with
  | false =>
    go_wp2_with fail
    refine (once_dr hc 20 (by decide) (by decide)).mono ?_
    clear hc
    rintro e w7 ⟨b', rfl, hc⟩
    cases b' with
    | false =>
      go_wp2
      exact bodyPost_ret (v := .tuple #[.int .i64 f, .int .i64 n]) (by simp [results, Try.results6, go_sem]) rfl ⟨_, _, rfl, hb1.trans (hc.1.below (N := w.heap.size) (by omega) hb1.size)⟩
    | true =>
      go_wp2_with fail
      obtain ⟨V, hV, bx, bV, -⟩ := boxed w7 2 #[.int .i64 (-1), .int .i64 20000, .int .i64 20001]
      rw [hV]
      have lp : p < w7.heap.size := hc.2.lt
      obtain ⟨q, hqq⟩ : ∃ q, w7.heap.size = q := ⟨_, rfl⟩
      rw [hqq] at bx lp ⊢
      have hk0 := (hc.below bV).1
      replace hc := Dr.start (hc.below bV).2
      clear hV bV hqq
      refine (below_dr hc 3 (by decide) (by decide)).mono ?_
      clear hc
      rintro e w8 ⟨u, rfl, u0, u1, hc⟩
      replace bx := bx.kept9 hc.1 (by omega)
      replace hc := hc.from hk0
      clear hk0
      obtain ⟨i, rfl⟩ : ∃ i : Nat, u = i := ⟨u.toNat, by omega⟩
      have hi : i < 3 := by omega
      obtain ⟨m, hcell⟩ : ∃ y : Int, w8.cell? ⟨q, i, none⟩ = some (.int .i64 y) := by
        match i, hi with
        | 0, _ => exact ⟨-1, bx.cell 0 rfl⟩
        | 1, _ => exact ⟨20000, bx.cell 1 rfl⟩
        | 2, _ => exact ⟨20001, bx.cell 2 rfl⟩
      have hi' : (i : Int) < 3 := by omega
      clear bx
      go_wp2
      exact bodyPost_ret (v := .tuple #[.int .i64 f, .int .i64 m]) (by simp [results, Try.results6, go_sem]) rfl ⟨_, _, rfl, hb1.trans (hc.1.below (N := w.heap.size) (by omega) hb1.size)⟩
  | true =>
    go_wp2_with fail
    obtain ⟨V, hV, bx, bV, -⟩ := boxed w4 2 #[.int .i64 (-1), .int .i64 100000000, .int .i64 100000001]
    rw [hV]
    have lp : p < w4.heap.size := hc.2.lt
    obtain ⟨q, hqq⟩ : ∃ q, w4.heap.size = q := ⟨_, rfl⟩
    rw [hqq] at bx lp ⊢
    have hk0 := (hc.below bV).1
    replace hc := Dr.start (hc.below bV).2
    clear hV bV hqq
    refine (below_dr hc 3 (by decide) (by decide)).mono ?_
    clear hc
    rintro e w5 ⟨u, rfl, u0, u1, hc⟩
    replace bx := bx.kept9 hc.1 (by omega)
    replace hc := hc.from hk0
    clear hk0
    obtain ⟨i, rfl⟩ : ∃ i : Nat, u = i := ⟨u.toNat, by omega⟩
    have hi : i < 3 := by omega
    obtain ⟨y, hcell⟩ : ∃ y : Int, w5.cell? ⟨q, i, none⟩ = some (.int .i64 y) := by
      match i, hi with
      | 0, _ => exact ⟨-1, bx.cell 0 rfl⟩
      | 1, _ => exact ⟨100000000, bx.cell 1 rfl⟩
      | 2, _ => exact ⟨100000001, bx.cell 2 rfl⟩
    have hi' : (i : Int) < 3 := by omega
    clear bx
    go_wp2_with fail
    refine (once_dr hc 20 (by decide) (by decide)).mono ?_
    clear hc
    rintro e w7 ⟨b', rfl, hc⟩
    cases b' with
    | false =>
      go_wp2
      exact bodyPost_ret (v := .tuple #[.int .i64 y, .int .i64 n]) (by simp [results, Try.results6, go_sem]) rfl ⟨_, _, rfl, hb1.trans (hc.1.below (N := w.heap.size) (by omega) hb1.size)⟩
    | true =>
      go_wp2_with fail
      obtain ⟨V, hV, bx, bV, -⟩ := boxed w7 2 #[.int .i64 (-1), .int .i64 20000, .int .i64 20001]
      rw [hV]
      have lp : p < w7.heap.size := hc.2.lt
      obtain ⟨q, hqq⟩ : ∃ q, w7.heap.size = q := ⟨_, rfl⟩
      rw [hqq] at bx lp ⊢
      have hk0 := (hc.below bV).1
      replace hc := Dr.start (hc.below bV).2
      clear hV bV hqq
      refine (below_dr hc 3 (by decide) (by decide)).mono ?_
      clear hc
      rintro e w8 ⟨u, rfl, u0, u1, hc⟩
      replace bx := bx.kept9 hc.1 (by omega)
      replace hc := hc.from hk0
      clear hk0
      obtain ⟨i, rfl⟩ : ∃ i : Nat, u = i := ⟨u.toNat, by omega⟩
      have hi : i < 3 := by omega
      obtain ⟨m, hcell⟩ : ∃ y : Int, w8.cell? ⟨q, i, none⟩ = some (.int .i64 y) := by
        match i, hi with
        | 0, _ => exact ⟨-1, bx.cell 0 rfl⟩
        | 1, _ => exact ⟨20000, bx.cell 1 rfl⟩
        | 2, _ => exact ⟨20001, bx.cell 2 rfl⟩
      have hi' : (i : Int) < 3 := by omega
      clear bx
      go_wp2
      exact bodyPost_ret (v := .tuple #[.int .i64 y, .int .i64 m]) (by simp [results, Try.results6, go_sem]) rfl ⟨_, _, rfl, hb1.trans (hc.1.below (N := w.heap.size) (by omega) hb1.size)⟩
end Go.Proofs.Ytnkmiljnilmicaa
