/-
  Whether a vector lies in a lattice, by the specification, walked.
-/
import Derived.Test.YtlgkohiempcbhabWalkF
namespace Go.Proofs.Ytlgkohiempcbhab
open Go.RowKit

/-- Cramer's sums. -/
def cram (f : Nat → Int) (x y z : Int) (k : Nat) : Int := x * adj f k + y * adj f (3 + k) + z * adj f (6 + k)
/-- Does the vector lie in the lattice? -/
def spanned (f : Nat → Int) (x y z : Int) : Bool := decide ((cram f x y z 0).tmod (det3 f) = 0) && (decide ((cram f x y z 1).tmod (det3 f) = 0) && decide ((cram f x y z 2).tmod (det3 f) = 0))
def inIx (x : Int) : Prop := -1000000000 ≤ x ∧ x ≤ 1000000000
instance (x : Int) : Decidable (inIx x) := by unfold inIx; infer_instance
def contains (n : Nat) (f : Nat → Int) (x y z : Int) : Bool := decide (detOf n f ≠ 0) && (decide (inIx x) && (decide (inIx y) && (decide (inIx z) && spanned f x y z)))
theorem cram_bound {f : Nat → Int} (hf : ∀ i, i < 9 → -1000 ≤ f i ∧ f i ≤ 1000) {x y z : Int} (hx : inIx x) (hy : inIx y) (hz : inIx z) (k : Nat) :
    (-2000000000000000 ≤ x * adj f k ∧ x * adj f k ≤ 2000000000000000) ∧ (-2000000000000000 ≤ y * adj f (3 + k) ∧ y * adj f (3 + k) ≤ 2000000000000000) ∧ (-2000000000000000 ≤ z * adj f (6 + k) ∧ z * adj f (6 + k) ≤ 2000000000000000) :=
  ⟨mul_bound (M := 1000000000) (N := 2000000) hx (adj_bound hf k), mul_bound (M := 1000000000) (N := 2000000) hy (adj_bound hf _), mul_bound (M := 1000000000) (N := 2000000) hz (adj_bound hf _)⟩
theorem specContains_any {w : World} {a : Option Addr} {n cap : Nat} {f : Nat → Int} (hs : Src w a n f) (x y z : Int) :
    Calls Try.prog 13 #[.slice a n cap, .int .i64 x, .int .i64 y, .int .i64 z] w fun e w' => e = .returned (.bool (contains n f x y z)) ∧ Below w.heap.size w w' := by
  by_cases h0 : detOf n f = 0
  · go_enter Try.func13, Try.ntmps13
    go_wp2_with (go_at_call 27; refine (specDet_any hs).mono ?_; rintro e w2 ⟨rfl, hb2⟩)
    go_ret
    exact ⟨by simp [contains, h0], hb2⟩
  by_cases hx : inIx x
  rotate_left
  · have hx' : ¬ (-1000000000 ≤ x ∧ x ≤ 1000000000) := hx
    go_enter Try.func13, Try.ntmps13
    go_wp2_with (first
      | (go_at_call 27; refine (specDet_any hs).mono ?_; rintro e w2 ⟨rfl, hb2⟩)
      | (go_at_call 32; refine (in_any _ _ _ _).mono ?_; rintro e w3 ⟨rfl, rfl⟩))
    go_ret
    exact ⟨by simp [contains, hx], hb2⟩
  by_cases hy : inIx y
  rotate_left
  · have hx' : (-1000000000 ≤ x ∧ x ≤ 1000000000) := hx
    have hy' : ¬ (-1000000000 ≤ y ∧ y ≤ 1000000000) := hy
    go_enter Try.func13, Try.ntmps13
    go_wp2_with (first
      | (go_at_call 27; refine (specDet_any hs).mono ?_; rintro e w2 ⟨rfl, hb2⟩)
      | (go_at_call 32; refine (in_any _ _ _ _).mono ?_; rintro e w3 ⟨rfl, rfl⟩))
    go_ret
    exact ⟨by simp [contains, hy], hb2⟩
  by_cases hz : inIx z
  rotate_left
  · have hx' : (-1000000000 ≤ x ∧ x ≤ 1000000000) := hx
    have hy' : (-1000000000 ≤ y ∧ y ≤ 1000000000) := hy
    have hz' : ¬ (-1000000000 ≤ z ∧ z ≤ 1000000000) := hz
    go_enter Try.func13, Try.ntmps13
    go_wp2_with (first
      | (go_at_call 27; refine (specDet_any hs).mono ?_; rintro e w2 ⟨rfl, hb2⟩)
      | (go_at_call 32; refine (in_any _ _ _ _).mono ?_; rintro e w3 ⟨rfl, rfl⟩))
    go_ret
    exact ⟨by simp [contains, hz], hb2⟩
  have hM : isM n f := by
    by_cases h : isM n f
    · exact h
    · exact absurd (show detOf n f = 0 by rw [detOf, if_neg h]) h0
  obtain ⟨b, off, rfl, hlt, hr⟩ := hs.ints9 hM
  obtain rfl := hM.1
  have hd : detOf 9 f = det3 f := by rw [detOf, if_pos hM]
  rw [hd] at h0
  have hx' : (-1000000000 ≤ x ∧ x ≤ 1000000000) := hx
  have hy' : (-1000000000 ≤ y ∧ y ≤ 1000000000) := hy
  have hz' : (-1000000000 ≤ z ∧ z ≤ 1000000000) := hz
  have hcn : contains 9 f x y z = spanned f x y z := by simp [contains, hd, h0, hx, hy, hz]
  rw [hcn]
  obtain ⟨D, hD⟩ : ∃ D, det3 f = D := ⟨_, rfl⟩
  rw [hD] at hd h0
  go_enter Try.func13, Try.ntmps13
  go_wp2_with (first
    | (go_at_call 27; refine (specDet_any hs).mono ?_; rintro e w2 ⟨rfl, hb2⟩; rw [hd]; replace hr := hr.below hlt hb2; replace hlt := Nat.lt_of_lt_of_le hlt hb2.size)
    | (go_at_call 32; refine (in_any _ _ _ _).mono ?_; rintro e w3 ⟨rfl, rfl⟩)
    | (go_at_call 33; refine (specDet0_any hr hM.2).mono ?_; rintro e w4 ⟨rfl, hb4⟩; rw [hD]; replace hr := hr.below hlt hb4)
    | (go_at_call 34; refine (specAdj_any hr hM.2).mono ?_; rintro e w5 ⟨g, rfl, hg, hO, hb5⟩))
  have bW : Below w.heap.size w w5 := (hb2.trans (hb4.mono hb2.size)).trans (hb5.mono (Nat.le_trans hb2.size hb4.size))
  have HB : Hid (∀ k, (-2000000000000000 ≤ x * adj f k ∧ x * adj f k ≤ 2000000000000000) ∧ (-2000000000000000 ≤ y * adj f (3 + k) ∧ y * adj f (3 + k) ≤ 2000000000000000) ∧ (-2000000000000000 ≤ z * adj f (6 + k) ∧ z * adj f (6 + k) ≤ 2000000000000000)) := cram_bound hM.2 hx hy hz
  have hsp : spanned f x y z = (decide ((cram f x y z 0).tmod D = 0) && (decide ((cram f x y z 1).tmod D = 0) && decide ((cram f x y z 2).tmod D = 0))) := by rw [spanned, hD]
  have HSP : Hid (spanned f x y z = (decide ((cram f x y z 0).tmod D = 0) && (decide ((cram f x y z 1).tmod D = 0) && decide ((cram f x y z 2).tmod D = 0)))) := hsp
  clear hsp hb2 hb4 hb5 hr hM hs hx hy hz hcn hD hd hg hlt hx' hy' hz'
  go_loopw [11] (fun s wr => ∃ k : Nat, k ≤ 3 ∧ s = .int .i64 k ∧ (∀ i, i < k → (cram f x y z i).tmod D = 0) ∧ Own wr g 9 (adj f) ∧ Below w.heap.size w wr) (fun s _ => 3 - (intOf s).toNat)
  case atStart => exact ⟨0, Nat.zero_le _, rfl, fun i hi => by omega, hO, bW⟩
  case round =>
    clear hO bW
    obtain ⟨k, hk, rfl, hall, hO, bW⟩ := hrel
    by_cases hlt : k < 3
    · have hlt' : (k : Int) < 3 := by omega
      have g0 := hO.row k (by omega)
      have g1 := hO.row (3 + k) (by omega)
      have g2 := hO.row (6 + k) (by omega)
      rw [Nat.zero_add] at g0 g1 g2
      obtain ⟨m1, m2, m3⟩ := HB.out k
      have hck : cram f x y z k = x * adj f k + y * adj f (3 + k) + z * adj f (6 + k) := rfl
      have HA : Hid (∀ i, i < k → (cram f x y z i).tmod D = 0) := hall
      have HO : Hid (Own wr g 9 (adj f)) := hO
      clear hall hO
      by_cases hz : (x * adj f k + y * adj f (3 + k) + z * adj f (6 + k)).tmod D = 0
      · have HZ : Hid ((cram f x y z k).tmod D = 0) := by rw [hck]; exact hz
        clear hck
        go_wp2
        go_quiet (fail)
        go_wp2
        go_roundw
        case rel =>
          refine ⟨k + 1, by omega, by go_num, fun i hi => ?_, HO.out.below (below_drewN (Below.refl _ _) _), below_drewN bW _⟩
          by_cases e : i = k
          · rw [e]; exact HZ.out
          · exact HA.out i (by omega)
        case measure => simp [intOf]; omega
      · have HZ : Hid (¬ (cram f x y z k).tmod D = 0) := by rw [hck]; exact hz
        clear hck
        go_wp2
        go_quiet (fail)
        go_wp2
        go_ret
        refine ⟨?_, below_drewN bW _⟩
        have hne := HZ.out
        rw [HSP.out]
        rcases (by omega : k = 0 ∨ k = 1 ∨ k = 2) with rfl | rfl | rfl <;> simp [hne]
    · have hlt' : ¬ (k : Int) < 3 := by omega
      obtain rfl : k = 3 := by omega
      go_wp2
      go_ret
      refine ⟨?_, bW⟩
      rw [HSP.out]
      simp [hall 0 (by decide), hall 1 (by decide), hall 2 (by decide)]
end Go.Proofs.Ytlgkohiempcbhab
