/-
  Drawn groups, right and wrong, handed out: walked.
-/
import Derived.Test.YtpolnkjmojofoaaD17c
namespace Go.Proofs.Ytpolnkjmojofoaa
open Go.RowKit

theorem OpsL.cur {w w' : World} {p lo g n c : Nat} {A : Nat → OpD} (hL : OpsL w g n A) (HG : 0 < n → ∃ X Y, OpsG w lo (.slice (some ⟨g, 0, none⟩) n c) n X Y A ∧ ∀ i, i < n → (A i).ok) (hk : Kept p w w') (hp : p < lo) : OpsL w' g n A := by
  by_cases h : 0 < n
  · obtain ⟨X, Y, G, -⟩ := HG h
    obtain ⟨_, _, e, A5⟩ := (G.cur hk hp).opsA
    cases e
    exact A5.opsL
  · exact ⟨Nat.lt_of_lt_of_le hL.1 hk.size, fun i hi => by omega⟩
set_option maxRecDepth 100000 in
theorem draw4Any_dr {w : World} {p : Nat} {a : Option Addr} {len cap : Nat} (hc : Cur w p a len cap) :
    Calls Try.prog 37 #[.pointer (some ⟨p, 0, none⟩)] w (SpoE w p a len cap) := by
  have hlt := hc.lt
  go_enter Try.func37, Try.ntmps37
  go_wp2_with fail
  refine (draw4_dr hc).mono ?_
  rintro e w1 ⟨g, n, c, H, rfl, hn, hg, L, HG, D1⟩
  go_wp2_with fail
  refine (once_dr (Dr.start D1.2) 14 (by omega) (by omega)).mono ?_
  rintro e w2 ⟨b, rfl, D2⟩
  have L2 := L.cur HG D2.1 hlt
  have HG2 : 0 < n → ∃ X Y, OpsG w2 w.heap.size (.slice (some ⟨g, 0, none⟩) n c) n X Y H ∧ ∀ i, i < n → (H i).ok := fun h => by
    obtain ⟨X, Y, G, ok⟩ := HG h
    exact ⟨X, Y, G.cur D2.1 hlt, ok⟩
  have D2' := D2.from D1.1
  clear L HG D1 D2
  cases b
  · have N : Hid (SpoE w p a len cap (.returned (.slice (some ⟨g, 0, none⟩) n c)) w2) := ⟨g, n, c, H, rfl, by omega, L2, D2'⟩
    clear L2 HG2 D2'
    go_wp2
    go_ret
    exact N.out
  · go_wp2_with fail
    refine (spoil4_dr D2' hlt hn hg L2 HG2).mono ?_
    rintro e w3 ⟨g', n', c', A, rfl, hn', L3, D3⟩
    have N : Hid (SpoE w p a len cap (.returned (.slice (some ⟨g', 0, none⟩) n' c')) w3) := ⟨g', n', c', A, rfl, hn', L3, D3⟩
    clear L2 HG2 D2' L3 D3
    go_wp2
    go_ret
    exact N.out
/-- What is told of a group handed out. -/
def GivG (w : World) (e : Ending) (w' : World) : Prop :=
  ∃ g n c A, e = .returned (.slice (some ⟨g, 0, none⟩) n c) ∧ n ≤ 193 ∧ OpsL w' g n A ∧ Below w.heap.size w w'
set_option maxRecDepth 100000 in
theorem drawPoint_any {w : World} {a : Option Addr} {len cap : Nat} (hr : Row w w.heap.size a len) :
    Calls Try.prog 44 #[.slice a len cap] w (GivG w) := by
  go_enter Try.func44, Try.ntmps44
  go_wp2_with fail
  refine (new_any hr).mono ?_
  rintro e w2 ⟨rfl, b2, hc⟩
  go_wp2_with fail
  refine (draw4Any_dr hc).mono ?_
  rintro e w3 ⟨g, n, c, A, rfl, hn, L, D⟩
  have N : Hid (GivG w (.returned (.slice (some ⟨g, 0, none⟩) n c)) w3) := ⟨g, n, c, A, rfl, hn, L, b2.trans (D.1.below (N := w.heap.size) (Nat.le_refl _) b2.size)⟩
  clear hc D L b2 hr
  go_wp2
  go_ret
  exact N.out
theorem drawTable_any {w : World} {a : Option Addr} {len cap : Nat} (hr : Row w w.heap.size a len) :
    Calls Try.prog 18 #[.slice a len cap] w (GivG w) := by
  go_enter Try.func18, Try.ntmps18
  go_wp2_with fail
  refine (drawPoint_any hr).mono ?_
  rintro e w3 ⟨g, n, c, A, rfl, hn, L, B⟩
  have N : Hid (GivG w (.returned (.slice (some ⟨g, 0, none⟩) n c)) w3) := ⟨g, n, c, A, rfl, hn, L, B⟩
  clear L B hr
  go_wp2
  go_ret
  exact N.out
end Go.Proofs.Ytpolnkjmojofoaa
