/-
  Lists of Site of one's own: held against each other, marked, the marks held: walked.
-/
import Derived.Test.YtgjhbkpocbihbaaGreatRSite
namespace Go.Proofs.YtgjhbkpocbihbaaGreat
open Go.RowKit

set_option maxRecDepth 100000 in
set_option maxHeartbeats 1600000 in
theorem eqSiteL_true {w : World} {a1 a2 : Option Addr} {n c1 c2 : Nat} {f : Nat → Int} (h1 : Ls 2 w a1 n f) (h2 : Ls 2 w a2 n f) (hn : n ≤ 1048576) :
    Calls Tryz.prog 14 #[.slice a1 n c1, .slice a2 n c2] w fun e w' => e = .returned (.bool true) ∧ Below w.heap.size w w' := by
  rcases h1 with rfl | ⟨g1, rfl, r1⟩
  · go_enter Tryz.func14, Tryz.ntmps14
    go_wp2
    go_loopw [5] (fun s wr => s = .int .i64 0 ∧ w = wr) (fun _ _ => 0)
    case atStart => exact ⟨rfl, rfl⟩
    case round =>
      obtain ⟨rfl, rfl⟩ := hrel
      go_wp2
      go_ret
      exact ⟨rfl, Below.refl _ _⟩
  · rcases h2 with rfl | ⟨g2, rfl, r2⟩
    · go_enter Tryz.func14, Tryz.ntmps14
      go_wp2
      go_loopw [5] (fun s wr => s = .int .i64 0 ∧ w = wr) (fun _ _ => 0)
      case atStart => exact ⟨rfl, rfl⟩
      case round =>
        obtain ⟨rfl, rfl⟩ := hrel
        go_wp2
        go_ret
        exact ⟨rfl, Below.refl _ _⟩
    · exact eqSiteS_true r1 r2 hn
set_option maxRecDepth 100000 in
set_option maxHeartbeats 3200000 in
theorem markSiteK_any {w : World} {lo hi : Nat} {v : Value} {n : Nat} {f : Nat → Int} (h : ArK 2 31 w lo hi v n f) (hn : n ≤ 1048576) (x : Nat) (hx : x ≤ 10000000) :
    Calls Tryz.prog 17 #[v, .int .i64 (x : Int)] w fun e w' => e = .returned (.int .i64 ((x + n * 2 : Nat) : Int)) ∧ ArK 2 31 w' lo hi v n (fun i => (x + i : Nat)) ∧ Only v w w' := by
  rcases h with ⟨rfl, rfl⟩ | ⟨g, c, rfl, hl, hh, hc, hcm, hm⟩
  · go_enter Tryz.func17, Tryz.ntmps17
    go_wp2
    go_loopw [1, 5] (fun s t wr => s = .int .i64 (x : Int) ∧ t = .int .i64 0 ∧ w = wr) (fun _ _ _ => 0)
    case atStart => exact ⟨rfl, rfl, rfl⟩
    case round =>
      obtain ⟨rfl, rfl, rfl⟩ := hrel
      go_wp2
      go_ret
      exact ⟨by simp, .inl ⟨rfl, rfl⟩, .of_below (Below.refl _ _)⟩
  · have m0 : LaidK 2 31 w g c 0 (fun i => ((x + i : Nat) : Int)) := by
      obtain ⟨cur, h1, h2, -⟩ := hm
      exact ⟨cur, h1, h2, fun i hi => by omega⟩
    clear hm
    have hn' : (n : Int) ≤ 1048576 := by omega
    go_enter Tryz.func17, Tryz.ntmps17
    go_wp2
    go_loopw [1, 5] (fun s t wr => ∃ k : Nat, k ≤ n ∧ s = .int .i64 ((x + k * 2 : Nat) : Int) ∧ t = .int .i64 k ∧ LaidK 2 31 wr g c k (fun i => ((x + i : Nat) : Int)) ∧ Kept g w wr) (fun _ t _ => n - (intOf t).toNat)
    case atStart => exact ⟨0, Nat.zero_le _, by simp, rfl, m0, Kept.refl _ _⟩
    case round =>
      clear m0
      obtain ⟨k, hk, rfl, rfl, hm, hK⟩ := hrel
      by_cases hlt : k < n
      · have hlt' : (k : Int) < (n : Int) := by omega
        obtain ⟨X, hX⟩ : ∃ X : Int, ((x + k * 2 : Nat) : Int) = X := ⟨_, rfl⟩
        have hX1 : 0 ≤ X ∧ X ≤ 20000000 := by omega
        have h0 := hm.room
        have HP : Hid (LaidK 2 31 ((wr.setCell ⟨g, k * 2, none⟩ (.int .i64 (X))).setCell ⟨g, k * 2 + 1, none⟩ (.int .i64 (X + 1))) g c (k + 1) (fun i => ((x + i : Nat) : Int))) := by
          have := Site.put hm (show k < c by omega)
          simp only [show ((x + (k * 2) : Nat) : Int) = X by omega, show ((x + (k * 2 + 1) : Nat) : Int) = X + 1 by omega] at this
          exact this
        clear hm
        obtain ⟨c0, f0⟩ := h0.cell (i := k * 2) (by omega)
        obtain ⟨V1, hV1⟩ : ∃ V, wr.setCell ⟨g, k * 2, none⟩ (.int .i64 (X)) = V := ⟨_, rfl⟩
        have h1 : RoomK 2 31 V1 g c := by rw [← hV1]; exact h0.set _ _
        have K1 : Kept g w V1 := by rw [← hV1]; exact hK.set _
        obtain ⟨c1, f1⟩ := h1.cell (i := k * 2 + 1) (by omega)
        have w1 : IntKind.i64.wrap (X + 1) = X + 1 := by rw [IntKind.wrap_i64]; omega
        have w2 : IntKind.i64.wrap (X + 1 + 1) = X + 2 := by rw [IntKind.wrap_i64]; omega
        have HQ : Hid (LaidK 2 31 (V1.setCell ⟨g, k * 2 + 1, none⟩ (.int .i64 (X + 1))) g c (k + 1) (fun i => ((x + i : Nat) : Int))) := by
          have := HP.out
          rw [hV1] at this
          exact this
        clear HP
        rw [hX]
        go_wp2
        refine ⟨⟨k + 1, by omega, ?_, by go_num, HQ.out, K1.set _⟩, by simp [intOf]; omega⟩
        rw [show ((x + (k + 1) * 2 : Nat) : Int) = X + 2 by omega]
      · have hlt' : ¬ (k : Int) < (n : Int) := by omega
        obtain rfl : k = n := by omega
        go_wp2
        go_ret
        exact ⟨rfl, .inr ⟨g, c, rfl, hl, hh, hc, hcm, hm⟩, .of_kept hK⟩
set_option maxRecDepth 100000 in
set_option maxHeartbeats 1600000 in
theorem heldSiteK_any {w : World} {lo hi : Nat} {v : Value} {n : Nat} (x : Nat) (h : ArK 2 31 w lo hi v n (fun i => (x + i : Nat))) (hn : n ≤ 1048576) (hx : x ≤ 10000000) :
    Calls Tryz.prog 18 #[v, .int .i64 (x : Int)] w fun e w' => e = .returned (.int .i64 ((x + n * 2 : Nat) : Int)) ∧ Below w.heap.size w w' := by
  obtain ⟨a, c, rfl, -, hs⟩ := h.ls
  have hn' : (n : Int) ≤ 1048576 := by omega
  go_enter Tryz.func18, Tryz.ntmps18
  go_wp2
  go_loopw [1, 5] (fun s t wr => ∃ k : Nat, k ≤ n ∧ s = .int .i64 ((x + k * 2 : Nat) : Int) ∧ t = .int .i64 k ∧ w = wr) (fun _ t _ => n - (intOf t).toNat)
  case atStart => exact ⟨0, Nat.zero_le _, by simp, rfl, rfl⟩
  case round =>
    obtain ⟨k, hk, rfl, rfl, rfl⟩ := hrel
    by_cases hlt : k < n
    · have hlt' : (k : Int) < (n : Int) := by omega
      obtain ⟨g, rfl, r⟩ := hs.some hlt
      obtain ⟨X, hX⟩ : ∃ X : Int, ((x + k * 2 : Nat) : Int) = X := ⟨_, rfl⟩
      have hX1 : 0 ≤ X ∧ X ≤ 20000000 := by omega
      have d0 : w.cell? ⟨g, k * 2, none⟩ = some (.int .i64 (X)) := by rw [show X = ((x + (k * 2) : Nat) : Int) by omega]; exact r.2 _ (by omega)
      have d1 : w.cell? ⟨g, k * 2 + 1, none⟩ = some (.int .i64 (X + 1)) := by rw [show X + 1 = ((x + (k * 2 + 1) : Nat) : Int) by omega]; exact r.2 _ (by omega)
      have w1 : IntKind.i64.wrap (X + 1) = X + 1 := by rw [IntKind.wrap_i64]; omega
      have w2 : IntKind.i64.wrap (X + 1 + 1) = X + 2 := by rw [IntKind.wrap_i64]; omega
      rw [hX]
      clear r
      go_wp2
      refine ⟨⟨k + 1, by omega, ?_, by go_num, trivial⟩, by simp [intOf]; omega⟩
      rw [show ((x + (k + 1) * 2 : Nat) : Int) = X + 2 by omega]
    · have hlt' : ¬ (k : Int) < (n : Int) := by omega
      obtain rfl : k = n := by omega
      go_wp2
      go_ret
      exact ⟨rfl, Below.refl _ _⟩
end Go.Proofs.YtgjhbkpocbihbaaGreat
