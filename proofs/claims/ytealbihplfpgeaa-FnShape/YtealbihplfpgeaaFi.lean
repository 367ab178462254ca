/-
  Covered, by the program: walked.
-/
import Derived.Test.YtealbihplfpgeaaFh
namespace Go.Proofs.Ytealbihplfpgeaa
open Go.RowKit

/-- There is a facet of this number, and it is right. -/
def Has (f : Nat → Int) (n : Nat) (i : Int) : Prop := 0 ≤ i ∧ i < (n : Int) ∧ Rt f i.toNat = true
def HasTo (f q : Nat → Int) (n k : Nat) : Prop := ∀ i, i < k → Has f n (q i)
set_option maxHeartbeats 1600000 in
theorem have_any {w : World} {g n c p m d : Nat} {f : Nat → Int} {q : Nat → Int} (h : Trips w g n f) (hp : Ints w p 0 m q) (hpl : p < w.heap.size) (hm : m ≤ 1048576) (b : Bool) (hb : Tells b (HasTo f q n m)) :
    Calls Try.prog 42 #[.slice (some ⟨g, 0, none⟩) n c, .slice (some ⟨p, 0, none⟩) m d] w fun e w' => e = .returned (.bool b) ∧ Below w.heap.size w w' := by
  go_enter Try.func42, Try.ntmps42
  go_wp2
  go_loopw [9] (fun s wr => ∃ k : Nat, k ≤ m ∧ s = .int .i64 k ∧ HasTo f q n k ∧ Below w.heap.size w wr) (fun s _ => m - (intOf s).toNat)
  case atStart => exact ⟨0, Nat.zero_le _, rfl, fun i hi => by omega, Below.refl _ _⟩
  case round =>
    obtain ⟨k, hk, rfl, hok, B⟩ := hrel
    by_cases hlt : k < m
    · have hlt' : (k : Int) < (m : Int) := by omega
      have L := h.below B
      have hq := L.1
      have P := hp.below hpl B k hlt
      rw [Nat.zero_add] at P
      obtain ⟨z, hz⟩ : ∃ z, q k = z := ⟨_, rfl⟩
      rw [hz] at P
      by_cases hin : 0 ≤ z ∧ z < (n : Int)
      · obtain ⟨y, rfl⟩ : ∃ y : Nat, (y : Int) = z := ⟨z.toNat, by omega⟩
        have hy : y < n := by omega
        obtain ⟨c0, c1, c2⟩ := L.open y hy
        have hneg : ¬ (y : Int) < 0 := by omega
        cases ho : Rt f y
        · obtain rfl : b = false := by
            rw [Bool.eq_false_iff]
            intro e
            have := (hb.1 e k hlt).2.2
            rw [hz, Int.toNat_natCast, ho] at this
            cases this
          clear hb hok L
          go_wp2_with fail
          refine (right_any _ _ _ _).mono ?_
          rintro e w3 ⟨rfl, b3⟩
          rw [show fOk (f (y * 3)) (f (y * 3 + 1)) (f (y * 3 + 2)) = false from ho]
          go_wp2
          go_ret
          exact ⟨rfl, B.trans (b3.mono B.size)⟩
        · have HO : HasTo f q n (k + 1) := fun i hi => by
            by_cases e : i = k
            · rw [e, hz]; exact ⟨hin.1, hin.2, by rw [Int.toNat_natCast]; exact ho⟩
            · exact hok i (by omega)
          clear hb hok L
          go_wp2_with fail
          refine (right_any _ _ _ _).mono ?_
          rintro e w3 ⟨rfl, b3⟩
          rw [show fOk (f (y * 3)) (f (y * 3 + 1)) (f (y * 3 + 2)) = true from ho]
          go_wp2
          exact ⟨⟨k + 1, by omega, by go_num, HO, B.trans (b3.mono B.size)⟩, by simp [intOf]; omega⟩
      · obtain rfl : b = false := by
          rw [Bool.eq_false_iff]
          intro e
          have := hb.1 e k hlt
          rw [hz] at this
          exact hin ⟨this.1, this.2.1⟩
        clear hb hok L
        by_cases hneg : z < 0
        · go_wp2
          go_ret
          exact ⟨rfl, B⟩
        · have hge : (n : Int) ≤ z := by omega
          go_wp2
          go_ret
          exact ⟨rfl, B⟩
    · have hlt' : ¬ (k : Int) < (m : Int) := by omega
      obtain rfl : k = m := by omega
      obtain rfl : b = true := hb.2 hok
      go_wp2
      go_ret
      exact ⟨rfl, B⟩
end Go.Proofs.Ytealbihplfpgeaa
