/-
  Lists taken over and compared; matrices, their determinants and adjugates by the specification, walked.
-/
import Derived.Test.YtglkddhifpnniaaWalkA
namespace Go.Proofs.Ytglkddhifpnniaa
open Go.RowKit

/-- Is it a matrix? -/
def isM (n : Nat) (f : Nat → Int) : Prop := n = 9 ∧ ∀ i, i < 9 → -1000 ≤ f i ∧ f i ≤ 1000
instance (n : Nat) (f : Nat → Int) : Decidable (isM n f) := by unfold isM; infer_instance
def det3 (m : Nat → Int) : Int := m 0 * (m 4 * m 8 - m 5 * m 7) - m 1 * (m 3 * m 8 - m 5 * m 6) + m 2 * (m 3 * m 7 - m 4 * m 6)
def adj (m : Nat → Int) (k : Nat) : Int :=
  match k with
  | 0 => m 4 * m 8 - m 5 * m 7
  | 1 => m 2 * m 7 - m 1 * m 8
  | 2 => m 1 * m 5 - m 2 * m 4
  | 3 => m 5 * m 6 - m 3 * m 8
  | 4 => m 0 * m 8 - m 2 * m 6
  | 5 => m 2 * m 3 - m 0 * m 5
  | 6 => m 3 * m 7 - m 4 * m 6
  | 7 => m 1 * m 6 - m 0 * m 7
  | _ => m 0 * m 4 - m 1 * m 3

theorem Ints.open9 {w : World} {b off : Nat} {f : Nat → Int} (h : Ints w b off 9 f) : (w.cell? ⟨b, off, none⟩ = some (.int .i64 (f 0)) ∧ w.cell? ⟨b, off + 1, none⟩ = some (.int .i64 (f 1)) ∧ w.cell? ⟨b, off + 2, none⟩ = some (.int .i64 (f 2)) ∧ w.cell? ⟨b, off + 3, none⟩ = some (.int .i64 (f 3)) ∧ w.cell? ⟨b, off + 4, none⟩ = some (.int .i64 (f 4))) ∧ w.cell? ⟨b, off + 5, none⟩ = some (.int .i64 (f 5)) ∧ w.cell? ⟨b, off + 6, none⟩ = some (.int .i64 (f 6)) ∧ w.cell? ⟨b, off + 7, none⟩ = some (.int .i64 (f 7)) ∧ w.cell? ⟨b, off + 8, none⟩ = some (.int .i64 (f 8)) :=
  ⟨⟨h 0 (by decide), h 1 (by decide), h 2 (by decide), h 3 (by decide), h 4 (by decide)⟩, h 5 (by decide), h 6 (by decide), h 7 (by decide), h 8 (by decide)⟩

set_option maxHeartbeats 1600000 in
theorem specDet0_any {w : World} {b off cap : Nat} {f : Nat → Int} (h : Ints w b off 9 f) (hb : ∀ i, i < 9 → -1000 ≤ f i ∧ f i ≤ 1000) :
    Calls Try.prog 27 #[.slice (some ⟨b, off, none⟩) 9 cap] w fun e w' => e = .returned (.int .i64 (det3 f)) ∧ Below w.heap.size w w' := by
  obtain ⟨⟨c0, c1, c2, c3, c4⟩, c5, c6, c7, c8⟩ := h.open9
  have p1 := mul_bound (hb 4 (by decide)) (hb 8 (by decide))
  have p2 := mul_bound (hb 5 (by decide)) (hb 7 (by decide))
  have p3 := mul_bound (hb 3 (by decide)) (hb 8 (by decide))
  have p4 := mul_bound (hb 5 (by decide)) (hb 6 (by decide))
  have p5 := mul_bound (hb 3 (by decide)) (hb 7 (by decide))
  have p6 := mul_bound (hb 4 (by decide)) (hb 6 (by decide))
  have q1 := mul_bound (N := 2000000) (hb 0 (by decide)) (show -2000000 ≤ f 4 * f 8 - f 5 * f 7 ∧ f 4 * f 8 - f 5 * f 7 ≤ 2000000 by omega)
  have q2 := mul_bound (N := 2000000) (hb 1 (by decide)) (show -2000000 ≤ f 3 * f 8 - f 5 * f 6 ∧ f 3 * f 8 - f 5 * f 6 ≤ 2000000 by omega)
  have q3 := mul_bound (N := 2000000) (hb 2 (by decide)) (show -2000000 ≤ f 3 * f 7 - f 4 * f 6 ∧ f 3 * f 7 - f 4 * f 6 ≤ 2000000 by omega)
  clear h
  go_enter Try.func27, Try.ntmps27
  go_wp2
  go_quiet (fail)
  go_wp2
  go_ret
  exact ⟨rfl, below_drewN (Below.refl _ _) _⟩
theorem Try.info2 : (Try.prog.info? 2).map (fun i => (i.zero, i.size, i.bytes)) = some (some (.int .i64 0), 1, 8) := by kernel_rfl
theorem make_ints (M : Nat) (hM : M ≤ 1048576) : ∃ C : Array Value, C.size = M ∧ ∀ w, (Instr.makeSlice 22 (.int .i64 (M : Int)) (.int .i64 (M : Int))).run Try.prog w = .ok (.slice (some ⟨w.heap.size, 0, none⟩) M M) (w.alloc (.cells C 2)) := by
  obtain ⟨i0, hi0, hz0, hz1, hz2⟩ := info_parts Try.info2
  refine ⟨madeCells (Value.int .i64 0).cells M, by simp [madeCells], fun w => ?_⟩
  have := run_make (P := Try.prog) w 22 2 i0 _ Try.underlying22 hi0 hz0 .i64 .i64 (M : Int) (M : Int) (by omega) (by omega) (by rw [hz2]; omega) (by omega)
  rw [this, hz1]
  simp
/-- The list that is being made. -/
def Made (w : World) (g n k : Nat) (f : Nat → Int) : Prop :=
  ∃ cur : Array Value, At 2 w g cur ∧ cur.size = n ∧ ∀ i, i < k → cur[i]? = some (.int .i64 (f i))
theorem Made.open {w : World} {g n k : Nat} {f : Nat → Int} (h : Made w g n k f) (hk : k < n) : w.cell? ⟨g, k, none⟩ = some (cv w g k) ∧ w.frozen? ⟨g, k, none⟩ = false := by
  obtain ⟨cur, h1, h2, h3⟩ := h
  have l0 : k < cur.size := by omega
  have := h1.cell k (Array.getElem?_eq_getElem l0)
  exact ⟨by simp [cv, this], h1.frozen k⟩
theorem Made.set {w : World} {g n k : Nat} {f : Nat → Int} (h : Made w g n k f) (hk : k < n) : Made (w.setCell ⟨g, k, none⟩ (.int .i64 (f k))) g n (k + 1) f := by
  obtain ⟨cur, h1, h2, h3⟩ := h
  refine ⟨_, h1.set k _, by simpa using h2, fun i hi => ?_⟩
  by_cases e : i = k
  · subst e
    have l0 : i < cur.size := by omega
    simp [l0]
  · have := h3 i (by omega)
    rw [Array.getElem?_setIfInBounds, if_neg (by omega)]
    exact this
theorem Made.row {w : World} {g n : Nat} {f : Nat → Int} (h : Made w g n n f) : Ints w g 0 n f := by
  obtain ⟨cur, h1, h2, h3⟩ := h
  intro i hi
  rw [Nat.zero_add]
  exact h1.cell i (h3 i hi)
theorem Made.lt {w : World} {g n k : Nat} {f : Nat → Int} (h : Made w g n k f) : g < w.heap.size := by
  obtain ⟨cur, h1, -⟩ := h
  exact h1.lt
/-- A list of its own. -/
def Own (w : World) (g n : Nat) (f : Nat → Int) : Prop := Made w g n n f
theorem Own.below {w w' : World} {g n : Nat} {f : Nat → Int} (h : Own w g n f) (hb : Below w.heap.size w w') : Own w' g n f := by
  obtain ⟨cur, h1, h2⟩ := h
  exact ⟨cur, h1.below hb, h2⟩
theorem toInts_any {w : World} {a : Option Addr} {n cap : Nat} {f : Nat → Int} (hs : Src w a n f) (hn : n ≤ 1048576) :
    Calls Try.prog 20 #[.slice a n cap] w fun e w' => ∃ g, e = .returned (.slice (some ⟨g, 0, none⟩) n n) ∧ w.heap.size ≤ g ∧ Own w' g n f ∧ Below w.heap.size w w' := by
  obtain ⟨C, hC, hmk⟩ := make_ints n hn
  go_enter Try.func20, Try.ntmps20
  go_wp2
  clear hmk
  have m0 : Made (w.alloc (.cells C 2)) w.heap.size n 0 f := ⟨C, at_new _ _ _, hC, fun i hi => by omega⟩
  have B0 : Below w.heap.size w (w.alloc (.cells C 2)) := below_alloc _ _
  go_loopw [4] (fun s wr => ∃ k : Nat, k ≤ n ∧ s = .int .i64 k ∧ Made wr w.heap.size n k f ∧ Below w.heap.size w wr) (fun s _ => n - (intOf s).toNat)
  case atStart => exact ⟨0, Nat.zero_le _, rfl, m0, B0⟩
  case round =>
    clear m0 B0 hC
    obtain ⟨k, hk, rfl, hm, hbel⟩ := hrel
    by_cases hlt : k < n
    · have hlt' : (k : Int) < (n : Int) := by omega
      rcases hs with h0 | ⟨b, off, rfl, hb, hr⟩
      · omega
      have g0 := hr k hlt
      replace g0 := (hbel.cell (p := ⟨b, off + k, none⟩) hb).trans g0
      obtain ⟨z0, y0⟩ := hm.open hlt
      have HM : Hid (Made wr w.heap.size n k f) := hm
      clear hm
      go_wp2
      refine ⟨⟨k + 1, by omega, by go_num, HM.out.set hlt, ?_⟩, by simp [intOf]; omega⟩
      exact hbel.setCell (Nat.le_refl _) _
    · have hlt' : ¬ (k : Int) < (n : Int) := by omega
      obtain rfl : k = n := by omega
      go_wp2
      go_ret
      exact ⟨_, rfl, Nat.le_refl _, hm, hbel⟩
theorem eqInts_true {w : World} {g1 g2 n cap1 cap2 : Nat} {f : Nat → Int} (h1 : Ints w g1 0 n f) (h2 : Ints w g2 0 n f) (l1 : g1 < w.heap.size) (l2 : g2 < w.heap.size) (hn : n ≤ 1048576) :
    Calls Try.prog 24 #[.slice (some ⟨g1, 0, none⟩) n cap1, .slice (some ⟨g2, 0, none⟩) n cap2] w fun e w' => e = .returned (.bool true) ∧ Below w.heap.size w w' := by
  go_enter Try.func24, Try.ntmps24
  go_wp2
  go_loopw [5] (fun s wr => ∃ k : Nat, k ≤ n ∧ s = .int .i64 k ∧ Below w.heap.size w wr) (fun s _ => n - (intOf s).toNat)
  case atStart => exact ⟨0, Nat.zero_le _, rfl, Below.refl _ _⟩
  case round =>
    obtain ⟨k, hk, rfl, hbel⟩ := hrel
    by_cases hlt : k < n
    · have hlt' : (k : Int) < (n : Int) := by omega
      have hk0 : (0 : Int) ≤ (k : Int) := by omega
      have a0 := (hbel.cell (p := ⟨g1, 0 + k, none⟩) l1).trans (h1 k hlt)
      have a2 := (hbel.cell (p := ⟨g2, 0 + k, none⟩) l2).trans (h2 k hlt)
      rw [Nat.zero_add] at a0 a2
      go_wp2
      go_quiet (fail)
      go_wp2
      go_roundw
      case rel => exact ⟨k + 1, by omega, by go_num, below_drewN hbel _⟩
      case measure => simp [intOf]; omega
    · have hlt' : ¬ (k : Int) < (n : Int) := by omega
      go_wp2
      go_ret
      exact ⟨rfl, hbel⟩
/-- The determinant that is told. -/
def detOf (n : Nat) (f : Nat → Int) : Int := if isM n f then det3 f else 0
theorem Src.ints9 {w : World} {a : Option Addr} {n : Nat} {f : Nat → Int} (hs : Src w a n f) (h : isM n f) : ∃ b off, a = some ⟨b, off, none⟩ ∧ b < w.heap.size ∧ Ints w b off 9 f := by
  obtain ⟨rfl, -⟩ := h
  rcases hs with h0 | h
  · omega
  · exact h
end Go.Proofs.Ytglkddhifpnniaa
