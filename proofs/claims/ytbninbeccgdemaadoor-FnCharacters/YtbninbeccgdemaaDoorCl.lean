/-
  Counts of the root's powers, and their sums: walked.
-/
import Derived.Test.YtbninbeccgdemaaDoorCk
namespace Go.Proofs.YtbninbeccgdemaaDoor
open Go.RowKit

/-- Partial sums. -/
def psum (f : Nat → Int) : Nat → Int
  | 0 => 0
  | k + 1 => psum f k + f k
theorem sumOf_any {w : World} {b off cap n : Nat} {f : Nat → Int} (h : Ints w b off n f) (hn : n ≤ 1000) (hs : ∀ k, k ≤ n → is64 (psum f k)) :
    Calls Tryd.prog 63 #[.slice (some ⟨b, off, none⟩) n cap] w fun e w' => e = .returned (.int .i64 (psum f n)) ∧ w = w' := by
  go_enter Tryd.func63, Tryd.ntmps63
  go_wp2
  go_loopw [3, 8] (fun s3 s8 wr => ∃ k : Nat, k ≤ n ∧ s8 = .int .i64 k ∧ s3 = .int .i64 (psum f k) ∧ w = wr) (fun _ s8 _ => n - (intOf s8).toNat)
  case atStart => exact ⟨0, Nat.zero_le _, rfl, rfl, rfl⟩
  case round =>
    obtain ⟨k, hk, rfl, rfl, rfl⟩ := hrel
    by_cases hlt : k < n
    · have hlt' : (k : Int) < (n : Int) := by omega
      have c0 := h k hlt
      have hnx : psum f (k + 1) = psum f k + f k := rfl
      obtain ⟨b1, b2⟩ := hs (k + 1) hlt
      rw [hnx] at b1 b2
      have HN : Hid (psum f (k + 1) = psum f k + f k) := hnx
      clear hnx
      go_wp2
      exact ⟨⟨k + 1, by omega, by go_num, by rw [HN.out], by trivial⟩, by simp [intOf]; omega⟩
    · have hlt' : ¬ (k : Int) < (n : Int) := by omega
      obtain rfl : k = n := by omega
      go_wp2
      go_ret
      exact ⟨rfl, rfl⟩
theorem add_any {w : World} {q : Nat} {cs : Array Value} (m : Nat) (p c x : Int) (hp : is64 p) (hm : m < 12) (hpm : p % 12 = (m : Int)) (hc : is64 (x + c)) (hat : At 60 w q cs) (hx : cs[m]? = some (.int .i64 x)) :
    Calls Tryd.prog 34 #[.pointer (some ⟨q, 0, none⟩), .int .i64 p, .int .i64 c] w fun e w' => e = .returned (.tuple #[]) ∧ ∃ d, w' = (w.setCell ⟨q, m, none⟩ (.int .i64 (x + c))).drewN d := by
  have M := fun w => modulo_any p 12 w hp (by omega)
  rw [hpm] at M
  have c0 := hat.cell m hx
  have f0 := hat.frozen m
  obtain ⟨hc1, hc2⟩ := hc
  have hm' : (m : Int) < 12 := by omega
  have k1 : IntKind.i64.wrap (x + c) = x + c := by rw [IntKind.wrap_i64]; omega
  go_enter Tryd.func34, Tryd.ntmps34
  go_wp2_with (fail)
  go_region_with (go_at_call 62; refine (M _).mono ?_; rintro e w2 ⟨rfl, rfl⟩)
  exact bodyPost_end (v := .tuple #[]) (by simp [results, Tryd.results34, go_sem]) rfl ⟨rfl, 1, rfl⟩
end Go.Proofs.YtbninbeccgdemaaDoor
