/-
  A play drawn: walked, over what one deed's draw tells.
-/
import Derived.Test.YtnjnffemidaopaaL17z
namespace Go.Proofs.Ytnjnffemidaopaa
open Go.RowKit

def sLen (v : Value) : Nat := match v with | .slice _ n _ => n | _ => 0
theorem below_kept {w0 w w' : World} {N p : Nat} (b : Below N w0 w) (hk : Kept p w w') (hN : N ≤ p) (hs : N ≤ w.heap.size) : Below N w0 w' :=
  { os := hk.os.trans b.os, tape := hk.tape.trans b.tape, output := hk.output.trans b.output, size := Nat.le_trans b.size hk.size, block := fun k h => (hk.block k (Nat.lt_of_lt_of_le h hs) (by omega)).trans (b.block k h) }
def DpP (w : World) (e : Ending) (w' : World) : Prop := ∃ v m f, e = .returned v ∧ m ≤ 1001 ∧ v ≠ .slice none 0 0 ∧ ArK 4 29 w' w.heap.size w'.heap.size v m f ∧ Below w.heap.size w w'
set_option maxRecDepth 100000 in
set_option maxHeartbeats 6400000 in
theorem drawPlay_any (hD : DeedC) {w : World} {a : Option Addr} {len cap : Nat} (hr : Row w w.heap.size a len) :
    Calls Try.prog 16 #[.slice a len cap] w (DpP w) := by
  go_enter Try.func16, Try.ntmps16
  go_wp2_with fail
  refine (new_any hr).mono ?_
  rintro e w1 ⟨rfl, B, hc⟩
  obtain ⟨p, hp⟩ : ∃ q, w.heap.size = q := ⟨_, rfl⟩
  rw [hp] at hc ⊢
  have hpw : w.heap.size ≤ p := by omega
  clear hp
  go_wp2_with fail
  refine (drawDeeds_any hD hc).mono ?_
  rintro e w2 ⟨v, m, f, rfl, hm, R⟩
  clear hc
  obtain ⟨g7, c7, rfl⟩ := R.open
  have hbs1 := B.size
  go_wp2_with fail
  refine (once_dr R.st 60 (by omega) (by omega)).mono ?_
  rintro e w3 ⟨b, rfl, hd⟩
  replace R := R.draw hd
  clear hd
  cases b
  · go_wp2
    exact bodyPost_ret (v := .slice (some ⟨g7, 0, none⟩) m c7) (by simp [results, Try.results16, go_sem]) rfl ⟨_, _, _, rfl, by omega, R.nn, R.own.wide hbs1 (Nat.le_refl _), below_kept B R.kp hpw hbs1⟩
  · go_wp2
    go_loopw [4, 5] (fun s t wr => ∃ (m : Nat) (f : Nat → Int), m ≤ 1001 ∧ t = .int .i64 (m : Int) ∧ DG w1 wr p a len cap s m f) (fun s _ _ => 1001 - sLen s)
    case atStart => exact ⟨m, f, by omega, rfl, R⟩
    case round =>
      clear R hm
      obtain ⟨m, f, hm, rfl, R⟩ := hrel
      obtain ⟨g7, c7, rfl⟩ := R.open
      go_wp2_with fail
      refine (below_dr R.st 2 (by omega) (by omega)).mono ?_
      rintro e w5 ⟨x9, rfl, x90, x91, hd⟩
      replace R := R.draw hd
      clear hd
      by_cases hc9 : (m : Int) < 1000 + x9
      · obtain ⟨Y5, hY5⟩ : ∃ Y5 : Int, Int.tmod (m : Int) 110 = Y5 := ⟨_, rfl⟩
        have e2 : Int.tmod (m : Int) 110 = (m : Int) % 110 := Int.tmod_eq_emod_of_nonneg (by omega)
        have byy : 0 ≤ Y5 ∧ Y5 ≤ 110 := by omega
        clear e2
        obtain ⟨V9, hV9, A9, b9, -⟩ := boxed w5 29 #[.int .i64 1, .int .i64 (1 + Y5), .int .i64 0, .int .i64 0]
        have R9 := R.below b9
        obtain ⟨gx, hgx⟩ : ∃ q, w5.heap.size = q := ⟨_, rfl⟩
        rw [hgx] at A9
        have hb2 : ∀ w, (Instr.buildSlice 40 1 #[(0, .agg #[.int .i64 1, .int .i64 (1 + Y5), .int .i64 0, .int .i64 0])]).run Try.prog w = .ok (.slice (some ⟨w.heap.size, 0, none⟩) 1 1) (w.alloc (.cells #[.int .i64 1, .int .i64 (1 + Y5), .int .i64 0, .int .i64 0] 29)) := fun _ => by kernel_rfl
        go_wp2_with (at_builtin; refine Hid.out (?_ : Hid _))
        clear hb2 hV9 hgx b9 R
        refine (?_ : wpList _ _ _ _ _ _)
        refine wpListK_append Try.underlying40 infoDeed rfl (by omega) (by omega) V9 rfl _ _ rfl rfl R9.own rfl (.inr ⟨gx, rfl, lit_recs (l := [1, 1 + Y5, 0, 0]) A9 rfl⟩) (fun h => by cases h) (by omega) R9.kp.size ?_
        intro v' u3 C' ho hN
        have R3 := R9.grow C' ho (hN R9.nn)
        clear C' ho hN A9 R9
        obtain ⟨g8, c8, rfl⟩ := R3.open
        go_wp2
        exact ⟨⟨m + 1, _, by omega, by go_num, R3⟩, by simp [sLen]; omega⟩
      · go_wp2
        exact bodyPost_ret (v := .slice (some ⟨g7, 0, none⟩) m c7) (by simp [results, Try.results16, go_sem]) rfl ⟨_, _, _, rfl, by omega, R.nn, R.own.wide hbs1 (Nat.le_refl _), below_kept B R.kp hpw hbs1⟩
end Go.Proofs.Ytnjnffemidaopaa
