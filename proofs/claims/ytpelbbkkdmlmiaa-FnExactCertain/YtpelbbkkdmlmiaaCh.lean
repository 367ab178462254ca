/-
  Signs of numbers p and q roots of 3, by the specification: numbers of three limbs, walked.
-/
import Derived.Test.YtpelbbkkdmlmiaaCd
import Derived.Test.YtpelbbkkdmlmiaaSm
namespace Go.Proofs.Ytpelbbkkdmlmiaa
open Go.RowKit

abbrev wV (h m l : Int) : Value := .agg #[.int .i64 h, .int .i64 m, .int .i64 l]
theorem mul_bound {x y M N : Int} (hx : -M ≤ x ∧ x ≤ M) (hy : -N ≤ y ∧ y ≤ N) : -(M * N) ≤ x * y ∧ x * y ≤ M * N := by
  have h1 : x.natAbs ≤ M.natAbs := by omega
  have h2 : y.natAbs ≤ N.natAbs := by omega
  have h3 := Nat.mul_le_mul h1 h2
  rw [← Int.natAbs_mul, ← Int.natAbs_mul] at h3
  have : 0 ≤ M * N := Int.mul_nonneg (by omega) (by omega)
  omega
theorem put3_at {t : TypeId} {w : World} {q : Nat} {u0 u1 u2 : Value} (h : At t w q #[u0, u1, u2]) (v0 v1 v2 : Value) : At t (((w.setCell ⟨q, 0, none⟩ v0).setCell ⟨q, 1, none⟩ v1).setCell ⟨q, 2, none⟩ v2) q #[v0, v1, v2] := by
  have := ((h.set 0 v0).set 1 v1).set 2 v2
  simpa using this
def fits (x : Int) : Prop := -10000000000000000 ≤ x ∧ x ≤ 10000000000000000
theorem limbs {a : Int} (h : inC a) : (-60000 ≤ a / 16777216 ∧ a / 16777216 ≤ 60000) ∧ (0 ≤ a % 16777216 ∧ a % 16777216 < 16777216) := by
  obtain ⟨h1, h2⟩ := h
  omega
theorem plus_any (h m l s a b : Int) (w : World) (hh : fits h) (hm : fits m) (hl : fits l) (hs : -3 ≤ s ∧ s ≤ 3) (ha : inC a) (hb : inC b) :
    Calls Try.prog 56 #[wV h m l, .int .i64 s, .int .i64 a, .int .i64 b] w fun e w' =>
      e = .returned (wV (h + s * (a / 16777216) * (b / 16777216)) (m + s * (a / 16777216 * (b % 16777216) + a % 16777216 * (b / 16777216))) (l + s * (a % 16777216) * (b % 16777216))) ∧ Below w.heap.size w w' := by
  obtain ⟨⟨u1, u2⟩, u3, u4⟩ := limbs ha
  obtain ⟨⟨v1, v2⟩, v3, v4⟩ := limbs hb
  obtain ⟨hh1, hh2⟩ := hh
  obtain ⟨hm1, hm2⟩ := hm
  obtain ⟨hl1, hl2⟩ := hl
  have D := fun w => sdown_any a 16777216 w ⟨by have := ha.1; omega, by have := ha.2; omega⟩ (by omega)
  have E := fun w => smod_any a 16777216 w ⟨by have := ha.1; omega, by have := ha.2; omega⟩ (by omega)
  have F := fun w => sdown_any b 16777216 w ⟨by have := hb.1; omega, by have := hb.2; omega⟩ (by omega)
  have G := fun w => smod_any b 16777216 w ⟨by have := hb.1; omega, by have := hb.2; omega⟩ (by omega)
  obtain ⟨a1, ea1⟩ : ∃ x, a / 16777216 = x := ⟨_, rfl⟩
  obtain ⟨a0, ea0⟩ : ∃ x, a % 16777216 = x := ⟨_, rfl⟩
  obtain ⟨b1, eb1⟩ : ∃ x, b / 16777216 = x := ⟨_, rfl⟩
  obtain ⟨b0, eb0⟩ : ∃ x, b % 16777216 = x := ⟨_, rfl⟩
  rw [ea1, ea0, eb1, eb0]
  rw [ea1] at u1 u2 D
  rw [ea0] at u3 u4 E
  rw [eb1] at v1 v2 F
  rw [eb0] at v3 v4 G
  clear ea1 ea0 eb1 eb0 ha hb
  have p1 := mul_bound (x := s) (y := a1) (M := 3) (N := 60000) hs ⟨u1, u2⟩
  have p2 := mul_bound (x := s * a1) (y := b1) (M := 180000) (N := 60000) (by omega) ⟨v1, v2⟩
  have p3 := mul_bound (x := a1) (y := b0) (M := 60000) (N := 16777216) ⟨u1, u2⟩ (by omega)
  have p4 := mul_bound (x := a0) (y := b1) (M := 16777216) (N := 60000) (by omega) ⟨v1, v2⟩
  have p5 := mul_bound (x := s) (y := a1 * b0 + a0 * b1) (M := 3) (N := 2013265920000) hs (by omega)
  have p6 := mul_bound (x := s) (y := a0) (M := 3) (N := 16777216) hs (by omega)
  have p7 := mul_bound (x := s * a0) (y := b0) (M := 50331648) (N := 16777216) (by omega) (by omega)
  obtain ⟨W, hW, B, R, bW, -⟩ := boxed2 w 89 89 #[.int .i64 h, .int .i64 m, .int .i64 l] #[.int .i64 0, .int .i64 0, .int .i64 0]
  obtain ⟨c0, c1, c2, -⟩ := B.open3
  obtain ⟨d0, d1, d2, f0, f1, f2⟩ := R.open3
  go_enter Try.func56, Try.ntmps56
  go_wp2_with (fail)
  refine (D _).mono ?_
  rintro e w2 ⟨rfl, rfl⟩
  go_wp2_with (fail)
  refine (E _).mono ?_
  rintro e w2 ⟨rfl, rfl⟩
  go_wp2_with (fail)
  refine (F _).mono ?_
  rintro e w2 ⟨rfl, rfl⟩
  go_wp2_with (fail)
  refine (G _).mono ?_
  rintro e w2 ⟨rfl, rfl⟩
  clear D E F G
  go_wp2
  obtain ⟨q0, q1, q2, -⟩ := (put3_at R (.int .i64 (h + s * a1 * b1)) (.int .i64 (m + s * (a1 * b0 + a0 * b1))) (.int .i64 (l + s * a0 * b0))).open3
  exact bodyPost_ret (v := wV (h + s * a1 * b1) (m + s * (a1 * b0 + a0 * b1)) (l + s * a0 * b0)) (by simp [results, Try.results56, go_sem, q0, q1, q2]) rfl ⟨rfl, ((bW.setCell (by show _ ≤ w.heap.size + 1; omega) _).setCell (by show _ ≤ w.heap.size + 1; omega) _).setCell (by show _ ≤ w.heap.size + 1; omega) _⟩
set_option maxHeartbeats 1600000 in
theorem even_any (h m l : Int) (w : World) (hh : fits h) (hm : fits m) (hl : fits l) :
    Calls Try.prog 63 #[wV h m l] w fun e w' =>
      e = .returned (wV (h + (m + l / 16777216) / 16777216) ((m + l / 16777216) % 16777216) (l % 16777216)) ∧ Below w.heap.size w w' := by
  obtain ⟨hh1, hh2⟩ := hh
  obtain ⟨hm1, hm2⟩ := hm
  obtain ⟨hl1, hl2⟩ := hl
  have D := fun w => sdown_any l 16777216 w ⟨by omega, by omega⟩ (by omega)
  have E := fun w => smod_any l 16777216 w ⟨by omega, by omega⟩ (by omega)
  obtain ⟨l1, e1⟩ : ∃ x, l / 16777216 = x := ⟨_, rfl⟩
  obtain ⟨l0, e0⟩ : ∃ x, l % 16777216 = x := ⟨_, rfl⟩
  have b1 : -10000000000000000 ≤ l1 ∧ l1 ≤ 10000000000000000 := by omega
  rw [e1, e0]
  rw [e1] at D
  rw [e0] at E
  clear e1 e0
  have F := fun w => sdown_any (m + l1) 16777216 w ⟨by omega, by omega⟩ (by omega)
  have G := fun w => smod_any (m + l1) 16777216 w ⟨by omega, by omega⟩ (by omega)
  have b2 : -10000000000000000 ≤ (m + l1) / 16777216 ∧ (m + l1) / 16777216 ≤ 10000000000000000 := by omega
  obtain ⟨m1, e1⟩ : ∃ x, (m + l1) / 16777216 = x := ⟨_, rfl⟩
  obtain ⟨m0, e0⟩ : ∃ x, (m + l1) % 16777216 = x := ⟨_, rfl⟩
  rw [e1, e0]
  rw [e1] at F b2
  rw [e0] at G
  clear e1 e0
  obtain ⟨W, hW, B, R, bW, -⟩ := boxed2 w 89 89 #[.int .i64 h, .int .i64 m, .int .i64 l] #[.int .i64 0, .int .i64 0, .int .i64 0]
  obtain ⟨c0, c1, c2, g0, g1, g2⟩ := B.open3
  obtain ⟨d0, d1, d2, f0, f1, f2⟩ := R.open3
  go_enter Try.func63, Try.ntmps63
  have k1 : IntKind.i64.wrap (m + l1) = m + l1 := by rw [IntKind.wrap_i64]; omega
  have k2 : IntKind.i64.wrap (h + m1) = h + m1 := by rw [IntKind.wrap_i64]; omega
  go_wp2_with (fail)
  go_cut [] from 3 (fun wc => At 89 wc w.heap.size #[.int .i64 h, .int .i64 (m + l1), .int .i64 l] ∧ At 89 wc (w.heap.size + 1) #[.int .i64 0, .int .i64 0, .int .i64 0] ∧ Below w.heap.size w wc)
  case first =>
    go_region_with (go_at_call 64; refine (D _).mono ?_; rintro e w2 ⟨rfl, rfl⟩)
    all_goals
      go_wp2_with fail
      go_meet
      case rel => exact ⟨by have := B.set 1 (.int .i64 (m + l1)); simp at this; exact this, R.setOther (by omega) _, (bW.setCell (by show _ ≤ w.heap.size; omega) _).drew⟩
  case rest =>
    clear B R bW c0 c1 c2 g0 g1 g2 d0 d1 d2 f0 f1 f2
    obtain ⟨B, R, bW⟩ := hcut
    obtain ⟨c0, c1, c2, g0, g1, g2⟩ := B.open3
    go_wp2_with (go_at_call 65; refine (E _).mono ?_; rintro e w2 ⟨rfl, rfl⟩)
    obtain ⟨W2, hW2, B, R, bW⟩ : ∃ W2, wc.setCell ⟨w.heap.size, 2, none⟩ (.int .i64 l0) = W2 ∧ At 89 W2 w.heap.size #[.int .i64 h, .int .i64 (m + l1), .int .i64 l0] ∧ At 89 W2 (w.heap.size + 1) #[.int .i64 0, .int .i64 0, .int .i64 0] ∧ Below w.heap.size w W2 :=
      ⟨_, rfl, by have := B.set 2 (.int .i64 l0); simp at this; exact this, R.setOther (by omega) _, bW.setCell (by show _ ≤ w.heap.size; omega) _⟩
    rw [hW2]
    clear hW2 c0 c1 c2 g0 g1 g2
    obtain ⟨c0, c1, c2, g0, g1, g2⟩ := B.open3
    go_cut [] from 3 (fun wc => At 89 wc w.heap.size #[.int .i64 (h + m1), .int .i64 (m + l1), .int .i64 l0] ∧ At 89 wc (w.heap.size + 1) #[.int .i64 0, .int .i64 0, .int .i64 0] ∧ Below w.heap.size w wc)
    case first =>
      go_region_with (go_at_call 64; refine (F _).mono ?_; rintro e w2 ⟨rfl, rfl⟩)
      all_goals
        go_wp2_with fail
        go_meet
        case rel => exact ⟨by have := B.set 0 (.int .i64 (h + m1)); simp at this; exact this, R.setOther (by omega) _, (bW.setCell (by show _ ≤ w.heap.size; omega) _).drew⟩
    case rest =>
      clear B R bW c0 c1 c2 g0 g1 g2
      obtain ⟨B, R, bW⟩ := hcut
      obtain ⟨c0, c1, c2, g0, g1, g2⟩ := B.open3
      obtain ⟨d0, d1, d2, f0, f1, f2⟩ := R.open3
      go_wp2_with (go_at_call 65; refine (G _).mono ?_; rintro e w2 ⟨rfl, rfl⟩)
      have R' := R.setOther (p := w.heap.size) (i := 1) (by omega) (.int .i64 m0)
      obtain ⟨q0, q1, q2, -⟩ := (put3_at R' (.int .i64 (h + m1)) (.int .i64 m0) (.int .i64 l0)).open3
      exact bodyPost_ret (v := wV (h + m1) m0 l0) (by simp [results, Try.results63, go_sem, q0, q1, q2]) rfl ⟨rfl, (((bW.setCell (by show _ ≤ w.heap.size; omega) _).setCell (by show _ ≤ w.heap.size + 1; omega) _).setCell (by show _ ≤ w.heap.size + 1; omega) _).setCell (by show _ ≤ w.heap.size + 1; omega) _⟩
end Go.Proofs.Ytpelbbkkdmlmiaa
