/-
  A tape's value by the program: walked.
-/
import Derived.Test.YtloailicdoknbaaV15c
namespace Go.Proofs.Ytloailicdoknbaa
open Go.RowKit

/-- A tape with a node, for these inputs. -/
def TpN (n inp : Nat) (f : Nat → Int) : Prop := TpOk n (inp : Int) f ∧ 0 < n
def EfP (w : World) (n inp : Nat) (f : Nat → Int) (e : Ending) (w' : World) : Prop :=
  ((¬ TpN n inp f ∧ ∃ v, e = .returned (.tuple #[v, .bool false])) ∨ (TpN n inp f ∧ ∃ g c, e = .returned (.tuple #[.slice (some ⟨g, 0, none⟩) n c, .bool true]) ∧ w.heap.size ≤ g ∧ n ≤ c ∧ ElAt w' g n (els (inp : Int) f))) ∧ Below w.heap.size w w'
theorem elementsFor_any {w : World} {g n cap inp c : Nat} {a : Option Addr} {f : Nat → Int} (h : Recs 3 w g n f) (hn : n ≤ 1048576) (hi : inp ≤ 1048576) :
    Calls Try.prog 35 #[.slice (some ⟨g, 0, none⟩) n cap, .slice a inp c] w (EfP w n inp f) := by
  have E := elementsOf_any (cap := cap) (inp : Int) h hn
  have hi' : (inp : Int) ≤ 1048576 := by omega
  have hn' : (n : Int) ≤ 1048576 := by omega
  go_enter Try.func35, Try.ntmps35
  go_wp2_with fail
  refine E.mono ?_
  rintro e w2 ⟨hh, bb⟩
  rcases hh with ⟨ho, rfl⟩ | ⟨ho, gg, cc, rfl, o1, o2, o3⟩
  · have HO : Hid (¬ TpOk n (inp : Int) f) := ho
    clear ho
    go_wp2
    exact bodyPost_ret (v := .tuple #[.slice none 0 0, .bool false]) (by simp [results, Try.results35, go_sem]) rfl ⟨.inl ⟨fun k => HO.out k.1, _, rfl⟩, bb⟩
  · have HO : Hid (TpOk n (inp : Int) f) := ho
    clear ho
    by_cases h0 : 0 < n
    · have h0' : (0 : Int) < (n : Int) := by omega
      go_wp2
      exact bodyPost_ret (v := .tuple #[.slice (some ⟨gg, 0, none⟩) n cc, .bool true]) (by simp [results, Try.results35, go_sem]; try omega) rfl ⟨.inr ⟨⟨HO.out, h0⟩, gg, cc, rfl, o1, o2, o3⟩, bb⟩
    · obtain rfl : n = 0 := by omega
      go_wp2
      exact bodyPost_ret (v := .tuple #[.slice (some ⟨gg, 0, none⟩) 0 cc, .bool false]) (by simp [results, Try.results35, go_sem]) rfl ⟨.inl ⟨fun k => absurd k.2 (by omega), _, rfl⟩, bb⟩
/-- The last node's value. -/
def lastV (n : Nat) (f x : Nat → Int) : Int := tv mp f x (n - 1)
theorem implValue_any {w : World} {g n cap b o c inp : Nat} {f x : Nat → Int} (h : Recs 3 w g n f) (hx : Ints w b o inp x) (hb : b < w.heap.size) (hn : n ≤ 1048576) (hi : inp ≤ 1048576) (hx64 : ∀ i, i < inp → is64 (x i)) (hf64 : ∀ i, i < n * 3 → is64 (f i)) (R : Bool) (hR : Hid (R = true ↔ TpN n inp f)) :
    Calls Try.prog 13 #[.slice (some ⟨g, 0, none⟩) n cap, .slice (some ⟨b, o, none⟩) inp c] w fun e w' => e = .returned (.tuple #[.int .i64 (if R then lastV n f x else 0), .bool R]) ∧ Below w.heap.size w w' := by
  go_enter Try.func13, Try.ntmps13
  go_wp2_with fail
  refine (elementsFor_any h hn hi).mono ?_
  rintro e w2 ⟨hh, bb⟩
  rcases hh with ⟨ho, v, rfl⟩ | ⟨ho, ge, ce, rfl, o1, o2, o3⟩
  · obtain rfl : R = false := by cases R; rfl; exact absurd (hR.out.1 rfl) ho
    clear ho
    go_wp2
    exact bodyPost_ret (v := .tuple #[.int .i64 0, .bool false]) (by simp [results, Try.results13, go_sem]) rfl ⟨rfl, bb⟩
  · obtain rfl : R = true := hR.out.2 ho
    have hn0 := ho.2
    have hn200 := ho.1.1
    have hi20 := ho.1.2.1.2
    have x2 := hx.below hb bb
    have hb2 : b < w2.heap.size := Nat.lt_of_lt_of_le hb bb.size
    have HO : Hid (TpN n inp f) := ho
    clear ho
    go_wp2_with fail
    refine (residues_any o3 x2 hb2 HO.out.1 hx64 hf64).mono ?_
    rintro e w3 ⟨v, rfl, G⟩
    obtain ⟨gg, cc, rfl, p1, p2, p3, I1⟩ := G.ints
    have c0 := cellAt I1 (a := inp + (n - 1)) (by omega)
    rw [Fx_at] at c0
    obtain ⟨N, hN⟩ : ∃ N, inp + (n - 1) = N := ⟨_, rfl⟩
    rw [hN] at c0
    have hN' : ((inp + n : Nat) : Int) - 1 = (N : Int) := by omega
    have hN2 : (N : Int) < ((inp + n : Nat) : Int) := by omega
    have hN3 : ((inp + n : Nat) : Int) ≤ 1000 := by omega
    have B3 := bb.trans (G.b.mono bb.size)
    obtain ⟨M, hM⟩ : ∃ M, inp + n = M := ⟨_, rfl⟩
    rw [hM] at hN' hN2 hN3 ⊢
    clear I1 G hN hM
    go_wp2
    exact bodyPost_ret (v := .tuple #[.int .i64 (tv mp f x (n - 1)), .bool true]) (by simp [results, Try.results13, go_sem]) rfl ⟨rfl, B3⟩
end Go.Proofs.Ytloailicdoknbaa
