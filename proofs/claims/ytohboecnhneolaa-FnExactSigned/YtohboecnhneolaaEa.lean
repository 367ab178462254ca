/-
  Lists of atoms: measured, taken over, held against each other. Walked.
-/
import Derived.Test.YtohboecnhneolaaCd
namespace Go.Proofs.Ytohboecnhneolaa
open Go.RowKit

/-- n structs of four numbers lie in block g. -/
def Quads (w : World) (g n : Nat) (f : Nat → Int) : Prop := g < w.heap.size ∧ ∀ i, i < n * 4 → w.cell? ⟨g, i, none⟩ = some (.int .i64 (f i))
theorem Quads.below {w w' : World} {g n : Nat} {f : Nat → Int} (h : Quads w g n f) (hb : Below w.heap.size w w') : Quads w' g n f :=
  ⟨Nat.lt_of_lt_of_le h.1 hb.size, fun i hi => (hb.cell (p := ⟨g, i, none⟩) h.1).trans (h.2 i hi)⟩
theorem Quads.open {w : World} {g n : Nat} {f : Nat → Int} (h : Quads w g n f) (k : Nat) (hk : k < n) : w.cell? ⟨g, k * 4, none⟩ = some (.int .i64 (f (k * 4))) ∧ w.cell? ⟨g, k * 4 + 1, none⟩ = some (.int .i64 (f (k * 4 + 1))) ∧ w.cell? ⟨g, k * 4 + 2, none⟩ = some (.int .i64 (f (k * 4 + 2))) ∧ w.cell? ⟨g, k * 4 + 3, none⟩ = some (.int .i64 (f (k * 4 + 3))) :=
  ⟨h.2 _ (by omega), h.2 _ (by omega), h.2 _ (by omega), h.2 _ (by omega)⟩
theorem Ints.open4 {w : World} {g off n : Nat} {f : Nat → Int} (h : Ints w g off (n * 4) f) (k : Nat) (hk : k < n) : w.cell? ⟨g, off + k * 4, none⟩ = some (.int .i64 (f (k * 4))) ∧ w.cell? ⟨g, off + k * 4 + 1, none⟩ = some (.int .i64 (f (k * 4 + 1))) ∧ w.cell? ⟨g, off + k * 4 + 2, none⟩ = some (.int .i64 (f (k * 4 + 2))) ∧ w.cell? ⟨g, off + k * 4 + 3, none⟩ = some (.int .i64 (f (k * 4 + 3))) :=
  ⟨h _ (by omega), h (k * 4 + 1) (by omega), h (k * 4 + 2) (by omega), h (k * 4 + 3) (by omega)⟩
/-- A block of n structs of four, of which the first k are laid. -/
def Laid4 (w : World) (g n k : Nat) (f : Nat → Int) : Prop :=
  ∃ cur : Array Value, At 30 w g cur ∧ cur.size = n * 4 ∧ ∀ i, i < k * 4 → cur[i]? = some (.int .i64 (f i))
theorem Laid4.below {w w' : World} {g n k : Nat} {f : Nat → Int} (h : Laid4 w g n k f) (hb : Below w.heap.size w w') : Laid4 w' g n k f := by
  obtain ⟨cur, h1, h2, h3⟩ := h
  exact ⟨cur, h1.below hb, h2, h3⟩
theorem Laid4.put {w : World} {g n k : Nat} {f : Nat → Int} (h : Laid4 w g n k f) :
    Laid4 ((((w.setCell ⟨g, k * 4, none⟩ (.int .i64 (f (k * 4)))).setCell ⟨g, k * 4 + 1, none⟩ (.int .i64 (f (k * 4 + 1)))).setCell ⟨g, k * 4 + 2, none⟩ (.int .i64 (f (k * 4 + 2)))).setCell ⟨g, k * 4 + 3, none⟩ (.int .i64 (f (k * 4 + 3)))) g n (k + 1) f ∨ n ≤ k := by
  by_cases hk : k < n
  · refine .inl ?_
    obtain ⟨cur, h1, h2, h3⟩ := h
    refine ⟨_, (((h1.set (k * 4) _).set (k * 4 + 1) _).set (k * 4 + 2) _).set (k * 4 + 3) _, by simpa using h2, fun i hi => ?_⟩
    by_cases e3 : i = k * 4 + 3
    · subst e3
      rw [Array.getElem?_setIfInBounds, if_pos rfl, if_pos (by simp; omega)]
    · rw [Array.getElem?_setIfInBounds, if_neg (by omega)]
      by_cases e2 : i = k * 4 + 2
      · subst e2
        rw [Array.getElem?_setIfInBounds, if_pos rfl, if_pos (by simp; omega)]
      · rw [Array.getElem?_setIfInBounds, if_neg (by omega)]
        by_cases e1 : i = k * 4 + 1
        · subst e1
          rw [Array.getElem?_setIfInBounds, if_pos rfl, if_pos (by simp; omega)]
        · rw [Array.getElem?_setIfInBounds, if_neg (by omega)]
          by_cases e0 : i = k * 4
          · subst e0
            rw [Array.getElem?_setIfInBounds, if_pos rfl, if_pos (by omega)]
          · rw [Array.getElem?_setIfInBounds, if_neg (by omega)]
            exact h3 i (by omega)
  · exact .inr (by omega)
theorem Laid4.cells {w : World} {g n k j : Nat} {f : Nat → Int} (h : Laid4 w g n k f) (hj : j < n * 4) : w.cell? ⟨g, j, none⟩ = some (cv w g j) ∧ w.frozen? ⟨g, j, none⟩ = false := by
  obtain ⟨cur, h1, h2, h3⟩ := h
  have hl : j < cur.size := by omega
  have := h1.cell j (Array.getElem?_eq_getElem hl)
  exact ⟨by rw [cv, this]; rfl, h1.frozen j⟩
theorem Laid4.quads {w : World} {g n : Nat} {f : Nat → Int} (h : Laid4 w g n n f) : Quads w g n f := by
  obtain ⟨cur, h1, h2, h3⟩ := h
  exact ⟨h1.lt, fun i hi => h1.cell _ (h3 i hi)⟩
theorem sz_any {a : Option Addr} {n cap : Nat} (w : World) (hn : n ≤ maxLen) : Calls Try.prog 4 #[.slice a n cap, .int .i64 1048576] w fun e w' => (∃ r : Int, e = .returned (.int .i64 r) ∧ (r = -1 ∨ (0 ≤ r ∧ n ≤ 1048576))) ∧ w = w' := by
  unfold maxLen at hn
  by_cases hb : 1048576 < n
  · have h1 : (1048576 : Int) - (n : Int) < 0 := by omega
    go_enter Try.func4, Try.ntmps4
    go_wp2
    go_ret
    exact ⟨⟨_, rfl, .inl rfl⟩, rfl⟩
  · have h1 : ¬ (1048576 : Int) - (n : Int) < 0 := by omega
    go_enter Try.func4, Try.ntmps4
    go_wp2
    go_ret
    exact ⟨⟨_, rfl, .inr ⟨by omega, by omega⟩⟩, rfl⟩
theorem toAtom_any (a b c d : Int) (w : World) : Calls Try.prog 11 #[cV a b c d] w fun e w' => e = .returned (cV a b c d) ∧ Below w.heap.size w w' := by
  go_enter Try.func11, Try.ntmps11
  go_wp2
  exact bodyPost_ret (v := cV a b c d) (by simp [results, Try.results11, go_sem]) rfl ⟨rfl, (below_alloc _ _).trans (((below_alloc _ _).trans ((below_alloc _ _).mono (by simp))).mono (by simp))⟩
theorem infoAtom : (Try.prog.info? 30).map (fun i => (i.zero, i.size, i.bytes)) = some (some (.agg #[.int .i64 0, .int .i64 0, .int .i64 0, .int .i64 0]), 4, 32) := by kernel_rfl
theorem make_atoms (M : Nat) (hM : M ≤ 1048576) : ∃ C : Array Value, C.size = M * 4 ∧ ∀ w, (Instr.makeSlice 25 (.int .i64 (M : Int)) (.int .i64 (M : Int))).run Try.prog w = .ok (.slice (some ⟨w.heap.size, 0, none⟩) M M) (w.alloc (.cells C 30)) := by
  obtain ⟨i0, hi0, hz0, hz1, hz2⟩ := info_parts infoAtom
  refine ⟨madeCells (Value.agg #[.int .i64 0, .int .i64 0, .int .i64 0, .int .i64 0]).cells (M * 4), by simp [madeCells], fun w => ?_⟩
  have := run_make (P := Try.prog) w 25 30 i0 _ Try.underlying25 hi0 hz0 .i64 .i64 (M : Int) (M : Int) (by omega) (by omega) (by rw [hz2]; omega) (by omega)
  rw [this, hz1]
  simp
set_option maxRecDepth 100000 in
set_option maxHeartbeats 800000 in
theorem toAtomS_any {w : World} {a : Option Addr} {n cap : Nat} {f : Nat → Int} (hS : Src w a (n * 4) f) (hn : n ≤ 1048576) :
    Calls Try.prog 6 #[.slice a n cap] w fun e w' => ∃ g, e = .returned (.slice (some ⟨g, 0, none⟩) n n) ∧ Quads w' g n f ∧ Below w.heap.size w w' := by
  have hn' : (n : Int) ≤ 1048576 := by omega
  obtain ⟨C, hC, hmk⟩ := make_atoms n hn
  obtain ⟨W1, hW1, a1, B1, -⟩ := boxed w 30 C
  have L1 : Laid4 W1 w.heap.size n 0 f := ⟨C, a1, hC, fun i hi => by omega⟩
  go_enter Try.func6, Try.ntmps6
  go_wp2
  clear hmk hW1 a1
  go_loopw [4] (fun s wr => ∃ k : Nat, k ≤ n ∧ s = .int .i64 k ∧ Laid4 wr w.heap.size n k f ∧ Below w.heap.size w wr) (fun s _ => n - (intOf s).toNat)
  case atStart => exact ⟨0, Nat.zero_le _, rfl, L1, B1⟩
  case round =>
    clear L1 B1
    obtain ⟨k, hk, rfl, L, B⟩ := hrel
    by_cases hlt : k < n
    · have hlt' : (k : Int) < (n : Int) := by omega
      rcases hS.below B with h0 | ⟨g, off, rfl, hg, rr⟩
      · omega
      obtain ⟨c0, c1, c2, c3⟩ := rr.open4 k hlt
      clear rr
      go_wp2_with fail
      refine (toAtom_any _ _ _ _ _).mono ?_
      rintro e w3 ⟨rfl, b3⟩
      have L3 := L.below b3
      have B3 := B.trans (b3.mono B.size)
      clear c0 c1 c2 c3 L B b3
      obtain ⟨d0, f0⟩ := L3.cells (j := k * 4) (by omega)
      obtain ⟨d1, f1⟩ := L3.cells (j := k * 4 + 1) (by omega)
      obtain ⟨d2, f2⟩ := L3.cells (j := k * 4 + 2) (by omega)
      obtain ⟨d3, f3⟩ := L3.cells (j := k * 4 + 3) (by omega)
      have HL : Hid (Laid4 ((((w3.setCell ⟨w.heap.size, k * 4, none⟩ (.int .i64 (f (k * 4)))).setCell ⟨w.heap.size, k * 4 + 1, none⟩ (.int .i64 (f (k * 4 + 1)))).setCell ⟨w.heap.size, k * 4 + 2, none⟩ (.int .i64 (f (k * 4 + 2)))).setCell ⟨w.heap.size, k * 4 + 3, none⟩ (.int .i64 (f (k * 4 + 3)))) w.heap.size n (k + 1) f) := L3.put.resolve_right (by omega)
      clear L3
      go_wp2
      refine ⟨⟨k + 1, by omega, by go_num, HL.out, (((B3.setCell (Nat.le_refl w.heap.size) _).setCell (Nat.le_refl w.heap.size) _).setCell (Nat.le_refl w.heap.size) _).setCell (Nat.le_refl w.heap.size) _⟩, by simp [intOf]; omega⟩
    · have hlt' : ¬ (k : Int) < (n : Int) := by omega
      obtain rfl : k = n := by omega
      have HO : Hid (Quads wr w.heap.size k f) := L.quads
      clear L
      go_wp2
      go_ret
      exact ⟨_, rfl, HO.out, B⟩
end Go.Proofs.Ytohboecnhneolaa
