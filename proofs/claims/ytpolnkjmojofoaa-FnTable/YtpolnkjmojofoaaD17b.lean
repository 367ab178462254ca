/-
  Groups of operators being drawn: walked.
-/
import Derived.Test.YtpolnkjmojofoaaD17a
namespace Go.Proofs.Ytpolnkjmojofoaa
open Go.RowKit

/-- What is told of a drawn group. -/
def DrwG (w : World) (p : Nat) (a : Option Addr) (len cap : Nat) (e : Ending) (w' : World) : Prop :=
  ∃ g n c H, e = .returned (.slice (some ⟨g, 0, none⟩) n c) ∧ n ≤ 192 ∧ w.heap.size ≤ g ∧ OpsL w' g n H ∧ (0 < n → ∃ X Y, OpsG w' w.heap.size (.slice (some ⟨g, 0, none⟩) n c) n X Y H ∧ ∀ i, i < n → (H i).ok) ∧ Dr w p a len cap w'
theorem arr_cur {w w' : World} {p lo m : Nat} {u : Value} {f : Nat → Int} (r : Arr w lo w.heap.size u m f) (hk : Kept p w w') (hp : p < lo) : Arr w' lo w'.heap.size u m f := by
  rcases r with r | ⟨g', c, rfl, h1, h2, h3, cur, h4, h5⟩
  · exact .inl r
  · exact .inr ⟨g', c, rfl, h1, Nat.lt_of_lt_of_le h2 hk.size, h3, cur, (hk.block g' h4.lt (by omega)).trans h4, h5⟩
theorem OpsG.cur {w w' : World} {p lo n : Nat} {v : Value} {X Y : Nat → Value} {A : Nat → OpD} (h : OpsG w lo v n X Y A) (hk : Kept p w w') (hp : p < lo) : OpsG w' lo v n X Y A :=
  ⟨ownsRow_kept h.row hk hp, h.nn, fun i hi => arr_cur (h.xs i hi) hk hp, fun i hi => arr_cur (h.ys i hi) hk hp, h.dj⟩
theorem drwG_of {w w3 w4 w5 : World} {p n g m c : Nat} {b : Bool} {a : Option Addr} {len cap : Nat} {A H : Nat → OpD} {X Y : Nat → Value} (hs3 : w.heap.size ≤ w3.heap.size) (hp : p < w.heap.size) (hA : OpsA w4 w3.heap.size w4.heap.size g m X Y H) (hC : ClsS n A m H b) (hG : b = true → OpsG w4 w3.heap.size (.slice (some ⟨g, 0, none⟩) m c) m X Y H) (hk : Kept p w4 w5) (D5 : Dr w p a len cap w5) : DrwG w p a len cap (.returned (.slice (some ⟨g, 0, none⟩) m c)) w5 := by
  have h1 := hA.blk.1
  have h2 := hA.blk.2.1
  have h3 := hk.size
  rcases hC with ⟨rfl, -, -, W, hI⟩ | ⟨rfl, rfl, -⟩
  · have G5 := ((hG rfl).lowerG hs3).cur hk hp
    obtain ⟨_, _, e, A5⟩ := G5.opsA
    cases e
    exact ⟨g, m, c, H, rfl, hI.few, by omega, A5.opsL, fun _ => ⟨X, Y, G5, hI.ok⟩, D5⟩
  · exact ⟨g, 0, c, H, rfl, by omega, by omega, ⟨by omega, fun i hi => by omega⟩, fun h => by omega, D5⟩
set_option maxRecDepth 100000 in
set_option maxHeartbeats 3000000 in
theorem draw4_dr {w : World} {p : Nat} {a : Option Addr} {len cap : Nat} (hc : Cur w p a len cap) :
    Calls Try.prog 59 #[.pointer (some ⟨p, 0, none⟩)] w (DrwG w p a len cap) := by
  have hbs : ∀ w, (Instr.buildSlice 24 0 #[]).run Try.prog w = .ok (.slice (some ⟨w.heap.size, 0, none⟩) 0 0) (w.alloc (.cells #[] 33)) := fun _ => by kernel_rfl
  have hlt := hc.lt
  have D0 := Dr.start hc
  clear hc
  go_enter Try.func59, Try.ntmps59
  go_wp2
  go_loopw [3] (fun s wr => ∃ i : Nat, i ≤ 6 ∧ s = .int .i64 (i : Int) ∧ Hid (Dr w p a len cap wr)) (fun s _ => 6 - (intOf s).toNat)
  case atStart => exact ⟨0, by omega, rfl, D0⟩
  case round =>
    clear D0
    obtain ⟨i, hi, rfl, D⟩ := hrel
    by_cases hk : i < 6
    · have hk' : (i : Int) < 6 := by omega
      go_wp2_with fail
      refine (gens_dr D.2).mono ?_
      rintro e w3 ⟨g1, n1, c1, A, rfl, hn1, L1, D3⟩
      replace D3 := D3.from D.1
      clear D
      go_wp2_with fail
      refine (specClose_any L1 (by omega)).mono ?_
      rintro e w4 ⟨⟨g, m, c, b, X, Y, H, rfl, hA, hC, hG⟩, b4⟩
      have D4 := D3.below b4
      have hs3 := D3.1.size
      clear D3 b4 L1
      cases b
      · go_wp2
        exact ⟨⟨i + 1, by omega, by go_num, D4⟩, by simp [intOf]; omega⟩
      · by_cases hm : m ≤ 24
        · have hm' : (m : Int) ≤ 24 := by omega
          have N : Hid (DrwG w p a len cap (.returned (.slice (some ⟨g, 0, none⟩) m c)) w4) := drwG_of hs3 hlt hA hC hG (Kept.refl _ _) D4
          clear hA hC hG D4
          go_wp2
          go_ret
          exact N.out
        · have hm' : ¬ (m : Int) ≤ 24 := by omega
          go_wp2_with fail
          refine (once_dr (Dr.start D4.2) 8 (by omega) (by omega)).mono ?_
          rintro e w5 ⟨b, rfl, D5⟩
          have N : Hid (DrwG w p a len cap (.returned (.slice (some ⟨g, 0, none⟩) m c)) w5) := drwG_of hs3 hlt hA hC (fun _ => hG trivial) D5.1 (D5.from D4.1)
          have D5' := D5.from D4.1
          clear hA hC hG D4 D5
          cases b
          · clear N
            go_wp2
            exact ⟨⟨i + 1, by omega, by go_num, D5'⟩, by simp [intOf]; omega⟩
          · clear D5'
            go_wp2
            go_ret
            exact N.out
    · have hk' : ¬ (i : Int) < 6 := by omega
      obtain ⟨W1, hW1, a1, B1, -⟩ := boxed wr 33 #[]
      have D1 := D.below B1
      have hs3 := D1.1.size
      have L1 : OpsL W1 wr.heap.size 0 (fun _ => oneD) := ⟨a1.lt, fun i hi => by omega⟩
      clear B1 a1 D
      go_wp2_with fail
      refine (specClose_any L1 (by omega)).mono ?_
      rintro e w4 ⟨⟨g, m, c, b, X, Y, H, rfl, hA, hC, hG⟩, b4⟩
      have D4 := D1.below b4
      have N : Hid (DrwG w p a len cap (.returned (.slice (some ⟨g, 0, none⟩) m c)) w4) := drwG_of hs3 hlt hA hC hG (Kept.refl _ _) D4
      clear hA hC hG D4 D1 hW1 L1 b4
      go_wp2
      go_ret
      exact N.out
end Go.Proofs.Ytpolnkjmojofoaa
