/-
  Lists of complex numbers taken over and compared, walked.
-/
import Derived.Test.YtmlgkmgkicdnbaaMWalkU
namespace Go.Proofs.Ytmlgkmgkicdnbaa
open Go.RowKit Fl

theorem lanes_big (a : Option Addr) (n cap : Nat) (w : World) (hn : 4096 < n) : Calls Try.prog 8 #[.slice a n cap] w fun e w' => e = .returned (.agg #[.float .f64 0, .float .f64 0]) ∧ Below w.heap.size w w' := by
  have hn1 : (4096 : Int) < (n : Int) := by omega
  go_enter Try.func8, Try.ntmps8
  go_wp2
  exact bodyPost_ret (v := .agg #[.float .f64 0, .float .f64 0]) (by simp [results, Try.results8, go_sem]) rfl ⟨rfl, below_alloc _ _⟩
theorem specLanes_big (a : Option Addr) (n cap : Nat) (w : World) (hn : 4096 < n) : Calls Try.prog 21 #[.slice a n cap] w fun e w' => e = .returned (.agg #[.float .f64 0, .float .f64 0]) ∧ Below w.heap.size w w' := by
  have hn1 : (4096 : Int) < (n : Int) := by omega
  go_enter Try.func21, Try.ntmps21
  go_wp2
  exact bodyPost_ret (v := .agg #[.float .f64 0, .float .f64 0]) (by simp [results, Try.results21, go_sem]) rfl ⟨rfl, below_alloc _ _⟩

theorem szCxS_small (a : Option Addr) (n cap : Nat) (w : World) (hn : n ≤ 1048576) : Calls Try.prog 20 #[.slice a n cap, .int .i64 1048576] w fun e w' => e = .returned (.int .i64 (1048576 - n)) ∧ w = w' := by
  have hn1 : ¬ (1048576 : Int) - (n : Int) < 0 := by omega
  go_enter Try.func20, Try.ntmps20
  go_wp2
  go_ret
  exact ⟨rfl, rfl⟩
theorem szCxS_big (a : Option Addr) (n cap : Nat) (w : World) (hn : 1048576 < n) (hm : n ≤ maxLen) : Calls Try.prog 20 #[.slice a n cap, .int .i64 1048576] w fun e w' => e = .returned (.int .i64 (-1)) ∧ w = w' := by
  have hn1 : (1048576 : Int) - (n : Int) < 0 := by omega
  have hn2 : (n : Int) ≤ 9223372036854775807 := by unfold maxLen at hm; omega
  go_enter Try.func20, Try.ntmps20
  go_wp2
  go_ret
  exact ⟨rfl, rfl⟩

/-- The list that came in. -/
def SrcRow (w : World) (a : Option Addr) (n : Nat) (f : Nat → Nat × Nat) : Prop :=
  n = 0 ∨ ∃ b off, a = some ⟨b, off, none⟩ ∧ b < w.heap.size ∧ CxRow w b off n f
theorem SrcRow.below {w w' : World} {a : Option Addr} {n : Nat} {f : Nat → Nat × Nat} (h : SrcRow w a n f) (hb : Below w.heap.size w w') : SrcRow w' a n f := by
  refine h.imp id ?_
  rintro ⟨b, off, rfl, hlt, hr⟩
  refine ⟨b, off, rfl, Nat.lt_of_lt_of_le hlt hb.size, fun i hi => ?_⟩
  obtain ⟨g0, g1⟩ := hr i hi
  exact ⟨(hb.cell (p := ⟨b, off + i * 2, none⟩) hlt).trans g0, (hb.cell (p := ⟨b, off + i * 2 + 1, none⟩) hlt).trans g1⟩
theorem CxRow.below {w w' : World} {b off n : Nat} {f : Nat → Nat × Nat} (h : CxRow w b off n f) (hlt : b < w.heap.size) (hb : Below w.heap.size w w') : CxRow w' b off n f := by
  intro i hi
  obtain ⟨g0, g1⟩ := h i hi
  exact ⟨(hb.cell (p := ⟨b, off + i * 2, none⟩) hlt).trans g0, (hb.cell (p := ⟨b, off + i * 2 + 1, none⟩) hlt).trans g1⟩

theorem Try.info28 : (Try.prog.info? 28).map (fun i => (i.zero, i.size, i.bytes)) = some (some (.agg #[.float .f64 0, .float .f64 0]), 2, 16) := by kernel_rfl
theorem make_cx (M : Nat) (hM : M ≤ 1048576) : ∃ C : Array Value, C.size = M * 2 ∧ ∀ w, (Instr.makeSlice 24 (.int .i64 (M : Int)) (.int .i64 (M : Int))).run Try.prog w = .ok (.slice (some ⟨w.heap.size, 0, none⟩) M M) (w.alloc (.cells C 28)) := by
  obtain ⟨i0, hi0, hz0, hz1, hz2⟩ := info_parts Try.info28
  refine ⟨madeCells (Value.agg #[.float .f64 0, .float .f64 0]).cells (M * 2), by simp [madeCells], fun w => ?_⟩
  have := run_make (P := Try.prog) w 24 28 i0 _ Try.underlying24 hi0 hz0 .i64 .i64 (M : Int) (M : Int) (by omega) (by omega) (by rw [hz2]; omega) (by omega)
  rw [this, hz1]
  simp

/-- The list that is being made. -/
def Made (w : World) (g n k : Nat) (f : Nat → Nat × Nat) : Prop :=
  ∃ cur : Array Value, w.heap[g]? = some (.cells cur 28 (0, 0)) ∧ cur.size = n * 2 ∧ ∀ i, i < k → cur[i * 2]? = some (.float .f64 (f i).1) ∧ cur[i * 2 + 1]? = some (.float .f64 (f i).2)
theorem Made.below {w w' : World} {g n k : Nat} {f : Nat → Nat × Nat} (h : Made w g n k f) (hb : Below w.heap.size w w') : Made w' g n k f := by
  obtain ⟨cur, h1, h2⟩ := h
  exact ⟨cur, (hb.block g (Array.getElem?_eq_some_iff.1 h1).1).trans h1, h2⟩
theorem Made.lt {w : World} {g n k : Nat} {f : Nat → Nat × Nat} (h : Made w g n k f) : g < w.heap.size := by
  obtain ⟨cur, h1, h2⟩ := h
  exact (Array.getElem?_eq_some_iff.1 h1).1
theorem Made.open {w : World} {g n k : Nat} {f : Nat → Nat × Nat} (h : Made w g n k f) (hk : k < n) : w.cell? ⟨g, k * 2, none⟩ = some (cv w g (k * 2)) ∧ w.cell? ⟨g, k * 2 + 1, none⟩ = some (cv w g (k * 2 + 1)) ∧ w.frozen? ⟨g, k * 2, none⟩ = false ∧ w.frozen? ⟨g, k * 2 + 1, none⟩ = false := by
  obtain ⟨cur, h1, h2, h3⟩ := h
  have l0 : k * 2 < cur.size := by omega
  have l1 : k * 2 + 1 < cur.size := by omega
  simp [cv, World.cell?, World.frozen?, h1, l0, l1]
theorem Made.set {w : World} {g n k : Nat} {f : Nat → Nat × Nat} (h : Made w g n k f) (hk : k < n) : Made ((w.setCell ⟨g, k * 2, none⟩ (.float .f64 (f k).1)).setCell ⟨g, k * 2 + 1, none⟩ (.float .f64 (f k).2)) g n (k + 1) f := by
  obtain ⟨cur, h1, h2, h3⟩ := h
  refine ⟨(cur.setIfInBounds (k * 2) (.float .f64 (f k).1)).setIfInBounds (k * 2 + 1) (.float .f64 (f k).2), by simp [World.setCell, Array.getElem?_modify, h1], by simpa using h2, fun i hi => ?_⟩
  by_cases e : i = k
  · subst e
    have l0 : i * 2 < cur.size := by omega
    have l1 : i * 2 + 1 < cur.size := by omega
    simp [l0, l1]
  · obtain ⟨a0, a1⟩ := h3 i (by omega)
    simp only [Array.getElem?_setIfInBounds]
    rw [if_neg (by omega), if_neg (by omega), if_neg (by omega), if_neg (by omega)]
    exact ⟨a0, a1⟩
theorem Made.row {w : World} {g n : Nat} {f : Nat → Nat × Nat} (h : Made w g n n f) : CxRow w g 0 n f := by
  obtain ⟨cur, h1, h2, h3⟩ := h
  intro i hi
  obtain ⟨a0, a1⟩ := h3 i hi
  simp only [World.cell?, h1, Nat.zero_add]
  exact ⟨by simpa using a0, by simpa using a1⟩

theorem toCxS_any {w : World} {a : Option Addr} {n cap : Nat} {f : Nat → Nat × Nat} (hs : SrcRow w a n f) (hn : n ≤ 1048576) :
    Calls Try.prog 22 #[.slice a n cap] w fun e w' => ∃ g, e = .returned (.slice (some ⟨g, 0, none⟩) n n) ∧ (w.heap.size ≤ g ∧ g < w'.heap.size) ∧ CxRow w' g 0 n f ∧ Below w.heap.size w w' := by
  obtain ⟨C, hC, hmk⟩ := make_cx n hn
  go_enter Try.func22, Try.ntmps22
  go_wp2
  clear hmk
  have m0 : Made (w.alloc (.cells C 28)) w.heap.size n 0 f := ⟨C, heap_alloc_new _ _, hC, fun i hi => by omega⟩
  have B0 : Below w.heap.size w (w.alloc (.cells C 28)) := below_alloc _ _
  go_loopw [4] (fun s wr => ∃ k : Nat, k ≤ n ∧ s = .int .i64 k ∧ Made wr w.heap.size n k f ∧ Below w.heap.size w wr) (fun s _ => n - (intOf s).toNat)
  case atStart => exact ⟨0, Nat.zero_le _, rfl, m0, B0⟩
  case round =>
    clear m0 B0 hC
    obtain ⟨k, hk, rfl, hm, hbel⟩ := hrel
    by_cases hlt : k < n
    · have hlt' : (k : Int) < (n : Int) := by omega
      rcases hs with h0 | ⟨b, off, rfl, hb, hr⟩
      · omega
      obtain ⟨g0, g1⟩ := hr k hlt
      replace g0 := (hbel.cell (p := ⟨b, off + k * 2, none⟩) hb).trans g0
      replace g1 := (hbel.cell (p := ⟨b, off + k * 2 + 1, none⟩) hb).trans g1
      have HM : Hid (Made wr w.heap.size n k f) := hm
      clear hm
      go_wp2_with (go_at_call 46; refine (toCx_any _ _ _).mono ?_; rintro e w2 ⟨rfl, hb2⟩; have hm2 := HM.out.below hb2; obtain ⟨z0, z1, y0, y1⟩ := hm2.open hlt; have HM2 : Hid (Made w2 w.heap.size n k f) := hm2; clear hm2)
      refine ⟨⟨k + 1, by omega, by go_num, HM2.out.set hlt, ?_⟩, by simp [intOf]; omega⟩
      exact ((hbel.trans (hb2.mono hbel.size)).setCell (Nat.le_refl _) _).setCell (Nat.le_refl _) _
    · have hlt' : ¬ (k : Int) < (n : Int) := by omega
      obtain rfl : k = n := by omega
      go_wp2
      go_ret
      exact ⟨_, rfl, ⟨Nat.le_refl _, hm.lt⟩, hm.row, hbel⟩

theorem eqCxS_true {w : World} {g1 g2 n cap1 cap2 : Nat} {f : Nat → Nat × Nat} (h1 : CxRow w g1 0 n f) (h2 : CxRow w g2 0 n f) (l1 : g1 < w.heap.size) (l2 : g2 < w.heap.size) (hn : n ≤ 1048576) :
    Calls Try.prog 24 #[.slice (some ⟨g1, 0, none⟩) n cap1, .slice (some ⟨g2, 0, none⟩) n cap2] w fun e w' => e = .returned (.bool true) ∧ Below w.heap.size w w' := by
  go_enter Try.func24, Try.ntmps24
  go_wp2
  go_loopw [5] (fun s wr => ∃ k : Nat, k ≤ n ∧ s = .int .i64 k ∧ Below w.heap.size w wr) (fun s _ => n - (intOf s).toNat)
  case atStart => exact ⟨0, Nat.zero_le _, rfl, Below.refl _ _⟩
  case round =>
    obtain ⟨k, hk, rfl, hbel⟩ := hrel
    by_cases hlt : k < n
    · have hlt' : (k : Int) < (n : Int) := by omega
      have hk0 : (0 : Int) ≤ (k : Int) := by omega
      obtain ⟨a0, a1⟩ := h1 k hlt
      obtain ⟨a2, a3⟩ := h2 k hlt
      replace a0 := (hbel.cell (p := ⟨g1, 0 + k * 2, none⟩) l1).trans a0
      replace a1 := (hbel.cell (p := ⟨g1, 0 + k * 2 + 1, none⟩) l1).trans a1
      replace a2 := (hbel.cell (p := ⟨g2, 0 + k * 2, none⟩) l2).trans a2
      replace a3 := (hbel.cell (p := ⟨g2, 0 + k * 2 + 1, none⟩) l2).trans a3
      rw [Nat.zero_add] at a0 a1 a2 a3
      go_wp2
      go_region_with (go_at_call 23; refine (eqCx_true rfl rfl _).mono ?_; rintro e w2 ⟨rfl, hb2⟩)
      all_goals
        go_wp2
        go_roundw
        case rel => exact ⟨k + 1, by omega, by go_num, hbel.drew.trans (hb2.mono hbel.size)⟩
        case measure => simp [intOf]; omega
    · have hlt' : ¬ (k : Int) < (n : Int) := by omega
      go_wp2
      go_ret
      exact ⟨rfl, hbel⟩

end Go.Proofs.Ytmlgkmgkicdnbaa
