/-
  Lists of frames: laid, sized and taken over, walked.
-/
import Derived.Test.YtlofbgkefalpoaaVb
namespace Go.Proofs.Ytlofbgkefalpoaa
open Go.RowKit

/-- N frames lie in block b from o on. -/
structure Fri (w : World) (b o N : Nat) (a : Nat → Option Addr) (c : Nat → Nat) (W H : Nat → Int) (n : Nat → Nat) (f : Nat → Nat → Int) : Prop where
  lt : b < w.heap.size
  c0 : ∀ i, i < N → w.cell? ⟨b, o + i * 3, none⟩ = some (.int .i64 (W i))
  c1 : ∀ i, i < N → w.cell? ⟨b, o + i * 3 + 1, none⟩ = some (.int .i64 (H i))
  c2 : ∀ i, i < N → w.cell? ⟨b, o + i * 3 + 2, none⟩ = some (.slice (a i) (n i) (c i))
  src : ∀ i, i < N → Src w (a i) (n i) (f i)
theorem Fri.below {w w' : World} {b o N : Nat} {a : Nat → Option Addr} {c : Nat → Nat} {W H : Nat → Int} {n : Nat → Nat} {f : Nat → Nat → Int} (h : Fri w b o N a c W H n f) (hb : Below w.heap.size w w') : Fri w' b o N a c W H n f :=
  ⟨Nat.lt_of_lt_of_le h.lt hb.size, fun i hi => (hb.cell (p := ⟨b, _, none⟩) h.lt).trans (h.c0 i hi), fun i hi => (hb.cell (p := ⟨b, _, none⟩) h.lt).trans (h.c1 i hi), fun i hi => (hb.cell (p := ⟨b, _, none⟩) h.lt).trans (h.c2 i hi), fun i hi => (h.src i hi).below hb⟩
theorem Fri.belowN {w w' : World} {N0 b o N : Nat} {a : Nat → Option Addr} {c : Nat → Nat} {W H : Nat → Int} {n : Nat → Nat} {f : Nat → Nat → Int} (h : Fri w b o N a c W H n f) (hb : Below w.heap.size w w') (_ : N0 ≤ w.heap.size) : Fri w' b o N a c W H n f := h.below hb
/-- The frames of a block from its head on, one of them opened. -/
theorem Fri.open {w : World} {b N : Nat} {a : Nat → Option Addr} {c : Nat → Nat} {W H : Nat → Int} {n : Nat → Nat} {f : Nat → Nat → Int} (h : Fri w b 0 N a c W H n f) {i : Nat} (hi : i < N) : w.cell? ⟨b, i * 3, none⟩ = some (.int .i64 (W i)) ∧ w.cell? ⟨b, i * 3 + 1, none⟩ = some (.int .i64 (H i)) ∧ w.cell? ⟨b, i * 3 + 2, none⟩ = some (.slice (a i) (n i) (c i)) := by
  refine ⟨?_, ?_, ?_⟩
  · simpa using h.c0 i hi
  · simpa using h.c1 i hi
  · simpa using h.c2 i hi
/-- A list of frames that came in. -/
def FrS (w : World) (p : Option Addr) (N : Nat) (a : Nat → Option Addr) (c : Nat → Nat) (W H : Nat → Int) (n : Nat → Nat) (f : Nat → Nat → Int) : Prop :=
  N = 0 ∨ ∃ b o, p = some ⟨b, o, none⟩ ∧ Fri w b o N a c W H n f
theorem FrS.below {w w' : World} {p : Option Addr} {N : Nat} {a : Nat → Option Addr} {c : Nat → Nat} {W H : Nat → Int} {n : Nat → Nat} {f : Nat → Nat → Int} (h : FrS w p N a c W H n f) (hb : Below w.heap.size w w') : FrS w' p N a c W H n f := by
  rcases h with h | ⟨b, o, e, h⟩
  · exact .inl h
  · exact .inr ⟨b, o, e, h.below hb⟩
def tot (n : Nat → Nat) : Nat → Nat
  | 0 => 0
  | k + 1 => tot n k + n k
theorem tot_le (n : Nat → Nat) {i k : Nat} (h : i ≤ k) : tot n i ≤ tot n k := by
  induction k with
  | zero => simp [Nat.le_zero.1 h]
  | succ k ih =>
    by_cases e : i = k + 1
    · subst e; exact Nat.le_refl _
    · exact Nat.le_trans (ih (by omega)) (Nat.le_add_right _ _)
theorem tot_one (n : Nat → Nat) {i k : Nat} (h : i < k) : tot n i + n i ≤ tot n k := tot_le n (i := i + 1) h
/-- A list of frames of its own memory, of which k are laid: frame i's pixels lie between B i and B (i + 1). -/
structure FrO (w : World) (lo hi g N k : Nat) (B : Nat → Nat) (v : Nat → Value) (W H : Nat → Int) (n : Nat → Nat) (f : Nat → Nat → Int) : Prop where
  lo : lo ≤ g
  b0 : g < B 0
  st : ∀ i, i < k → B i ≤ B (i + 1)
  hi : B k ≤ hi
  blk : ∃ cur : Array Value, At 28 w g cur ∧ cur.size = N * 3 ∧ ∀ i, i < k → cur[i * 3]? = some (.int .i64 (W i)) ∧ cur[i * 3 + 1]? = some (.int .i64 (H i)) ∧ cur[i * 3 + 2]? = some (v i)
  arr : ∀ i, i < k → Arr w (B i) (B (i + 1)) (v i) (n i) (f i)
theorem mono_of {B : Nat → Nat} {k : Nat} (h : ∀ i, i < k → B i ≤ B (i + 1)) {i j : Nat} (hij : i ≤ j) (hj : j ≤ k) : B i ≤ B j := by
  induction j with
  | zero => simp [Nat.le_zero.1 hij]
  | succ j ih =>
    by_cases e : i = j + 1
    · subst e; exact Nat.le_refl _
    · exact Nat.le_trans (ih (by omega) (by omega)) (h j (by omega))
theorem FrO.below {w w' : World} {lo hi g N k : Nat} {B : Nat → Nat} {v : Nat → Value} {W H : Nat → Int} {n : Nat → Nat} {f : Nat → Nat → Int} (h : FrO w lo hi g N k B v W H n f) (hb : Below w.heap.size w w') : FrO w' lo hi g N k B v W H n f := by
  obtain ⟨h1, h2, h3, h4, ⟨cur, h5, h6⟩, h7⟩ := h
  exact ⟨h1, h2, h3, h4, ⟨cur, h5.below hb, h6⟩, fun i hi => (h7 i hi).below hb⟩
theorem FrO.wide {w : World} {lo hi lo' hi' g N k : Nat} {B : Nat → Nat} {v : Nat → Value} {W H : Nat → Int} {n : Nat → Nat} {f : Nat → Nat → Int} (h : FrO w lo hi g N k B v W H n f) (h1 : lo' ≤ lo) (h2 : hi ≤ hi') : FrO w lo' hi' g N k B v W H n f :=
  ⟨Nat.le_trans h1 h.lo, h.b0, h.st, Nat.le_trans h.hi h2, h.blk, h.arr⟩
theorem FrO.cells {w : World} {lo hi g N k j : Nat} {B : Nat → Nat} {v : Nat → Value} {W H : Nat → Int} {n : Nat → Nat} {f : Nat → Nat → Int} (h : FrO w lo hi g N k B v W H n f) (hj : j < N * 3) : w.cell? ⟨g, j, none⟩ = some (cv w g j) ∧ w.frozen? ⟨g, j, none⟩ = false := by
  obtain ⟨cur, h1, h2, h3⟩ := h.blk
  have hl : j < cur.size := by omega
  have := h1.cell j (Array.getElem?_eq_getElem hl)
  exact ⟨by rw [cv, this]; rfl, h1.frozen j⟩
theorem Kept.turn {w w' : World} {g : Nat} (h : Kept g w w') : Turn g (g + 1) w w' := ⟨h.os, h.tape, h.output, h.size, fun x hx hd => h.block x hx (by omega)⟩
theorem FrO.put {w : World} {lo hi hi' g N k : Nat} {B : Nat → Nat} {v : Nat → Value} {W H : Nat → Int} {n : Nat → Nat} {f : Nat → Nat → Int} (h : FrO w lo hi g N k B v W H n f) (hk : k < N) (u : Value) (ha : Arr w hi hi' u (n k) (f k)) (hh : hi ≤ hi') :
    FrO (((w.setCell ⟨g, k * 3, none⟩ (.int .i64 (W k))).setCell ⟨g, k * 3 + 1, none⟩ (.int .i64 (H k))).setCell ⟨g, k * 3 + 2, none⟩ u) lo hi' g N (k + 1) (fun i => if i ≤ k then B i else hi') (fun i => if i = k then u else v i) W H n f := by
  have hK : Kept g w (((w.setCell ⟨g, k * 3, none⟩ (.int .i64 (W k))).setCell ⟨g, k * 3 + 1, none⟩ (.int .i64 (H k))).setCell ⟨g, k * 3 + 2, none⟩ u) := (((Kept.refl g w).set _).set _).set _
  have ht := hK.turn
  have hB := h.hi
  have hb := h.b0
  obtain ⟨cur, h1, h2, h3⟩ := h.blk
  refine ⟨h.lo, by rw [if_pos (Nat.zero_le _)]; exact hb, fun i hi => ?_, by rw [if_neg (Nat.not_succ_le_self k)]; exact Nat.le_refl _, ⟨_, ((h1.set (k * 3) _).set (k * 3 + 1) _).set (k * 3 + 2) _, by simpa using h2, fun i hi => ?_⟩, fun i hi => ?_⟩
  · by_cases e : i = k
    · subst e; rw [if_pos (Nat.le_refl _), if_neg (Nat.not_succ_le_self i)]; omega
    · rw [if_pos (by omega), if_pos (by omega)]; exact h.st i (by omega)
  · by_cases e : i = k
    · subst e
      refine ⟨?_, ?_, ?_⟩
      · rw [Array.getElem?_setIfInBounds, if_neg (by omega), Array.getElem?_setIfInBounds, if_neg (by omega), Array.getElem?_setIfInBounds, if_pos rfl, if_pos (by omega)]
      · rw [Array.getElem?_setIfInBounds, if_neg (by omega), Array.getElem?_setIfInBounds, if_pos rfl, if_pos (by simp; omega)]
      · rw [Array.getElem?_setIfInBounds, if_pos rfl, if_pos (by simp; omega)]; simp
    · obtain ⟨x0, x1, x2⟩ := h3 i (by omega)
      refine ⟨?_, ?_, ?_⟩
      · rw [Array.getElem?_setIfInBounds, if_neg (by omega), Array.getElem?_setIfInBounds, if_neg (by omega), Array.getElem?_setIfInBounds, if_neg (by omega)]; exact x0
      · rw [Array.getElem?_setIfInBounds, if_neg (by omega), Array.getElem?_setIfInBounds, if_neg (by omega), Array.getElem?_setIfInBounds, if_neg (by omega)]; exact x1
      · rw [Array.getElem?_setIfInBounds, if_neg (by omega), Array.getElem?_setIfInBounds, if_neg (by omega), Array.getElem?_setIfInBounds, if_neg (by omega), if_neg e]; exact x2
  · have hg : g < B i ∨ i = k + 1 := by
      have := mono_of h.st (i := 0) (j := i) (by omega) (by omega)
      omega
    by_cases e : i = k
    · subst e
      simp only [Nat.le_refl, if_pos, if_neg (Nat.not_succ_le_self i)]
      have := mono_of h.st (i := 0) (j := i) (by omega) (by omega)
      exact (ha.wide hB (Nat.le_refl _)).turn ht (.inr (by omega))
    · rw [if_pos (by omega), if_pos (by omega), if_neg e]
      exact (h.arr i (by omega)).turn ht (.inr (by omega))
theorem FrO.fri {w : World} {lo hi g N : Nat} {B : Nat → Nat} {v : Nat → Value} {W H : Nat → Int} {n : Nat → Nat} {f : Nat → Nat → Int} (h : FrO w lo hi g N N B v W H n f) : ∃ a c, (∀ i, i < N → v i = .slice (a i) (n i) (c i)) ∧ Fri w g 0 N a c W H n f := by
  have ex : ∀ i, ∃ a c, i < N → v i = .slice a (n i) c ∧ Src w a (n i) (f i) := fun i => by
    by_cases hi : i < N
    · obtain ⟨a, c, e, hs⟩ := (h.arr i hi).src
      exact ⟨a, c, fun _ => ⟨e, hs⟩⟩
    · exact ⟨none, 0, fun hh => absurd hh hi⟩
  obtain ⟨cur, h1, h2, h3⟩ := h.blk
  refine ⟨fun i => Classical.choose (ex i), fun i => Classical.choose (Classical.choose_spec (ex i)), fun i hi => (Classical.choose_spec (Classical.choose_spec (ex i)) hi).1, h1.lt, fun i hi => ?_, fun i hi => ?_, fun i hi => ?_, fun i hi => (Classical.choose_spec (Classical.choose_spec (ex i)) hi).2⟩
  · rw [Nat.zero_add]; exact h1.cell _ (h3 i hi).1
  · rw [Nat.zero_add]; exact h1.cell _ (h3 i hi).2.1
  · rw [Nat.zero_add, ← (Classical.choose_spec (Classical.choose_spec (ex i)) hi).1]; exact h1.cell _ (h3 i hi).2.2
set_option maxRecDepth 100000 in
set_option maxHeartbeats 4000000 in
theorem szFrameS_any {w : World} {p : Option Addr} {N cap : Nat} {a : Nat → Option Addr} {c : Nat → Nat} {W H : Nat → Int} {n : Nat → Nat} {f : Nat → Nat → Int} (hS : FrS w p N a c W H n f) (hN : N ≤ maxLen) (hn : ∀ i, i < N → n i ≤ maxLen) :
    Calls Try.prog 19 #[.slice p N cap, .int .i64 1048576] w fun e w' => ∃ r : Int, e = .returned (.int .i64 r) ∧ (r = -1 ∨ (0 ≤ r ∧ N + tot n N ≤ 1048576)) ∧ Below w.heap.size w w' := by
  unfold maxLen at hN
  by_cases hb : 1048576 < N
  · have h1 : (1048576 : Int) - (N : Int) < 0 := by omega
    go_enter Try.func19, Try.ntmps19
    go_wp2
    go_ret
    exact ⟨_, rfl, .inl rfl, Below.refl _ _⟩
  have h1 : ¬ (1048576 : Int) - (N : Int) < 0 := by omega
  have hN' : (N : Int) ≤ 1048576 := by omega
  go_enter Try.func19, Try.ntmps19
  go_wp2
  go_loopw [1, 5] (fun s t wr => ∃ k : Nat, k ≤ N ∧ N + tot n k ≤ 1048576 ∧ s = .int .i64 (1048576 - (N : Int) - (tot n k : Nat)) ∧ t = .int .i64 (k : Int) ∧ Below w.heap.size w wr) (fun _ t _ => N - (intOf t).toNat)
  case atStart => exact ⟨0, Nat.zero_le _, by simp [tot]; omega, by simp [tot], rfl, Below.refl _ _⟩
  case round =>
    obtain ⟨k, hk, hle, rfl, rfl, B⟩ := hrel
    obtain ⟨L, hL⟩ : ∃ L : Int, 1048576 - (N : Int) - (tot n k : Nat) = L := ⟨_, rfl⟩
    rw [hL]
    by_cases hlt : k < N
    · have hlt' : (k : Int) < (N : Int) := by omega
      rcases hS.below B with h0 | ⟨b, o, rfl, F⟩
      · omega
      have c0 := F.c0 k hlt
      have c1 := F.c1 k hlt
      have c2 := F.c2 k hlt
      have hnk := hn k hlt
      clear F hS hn
      go_wp2_with fail
      refine (szFrame_any (W k) (H k) (a k) (n k) (c k) L wr hnk (by omega)).mono ?_
      rintro e w3 ⟨r, rfl, hr, b3⟩
      replace B := B.trans (b3.mono B.size)
      clear c0 c1 c2 b3
      rcases hr with rfl | ⟨hr1, hr2⟩
      · go_wp2
        go_ret
        exact ⟨_, rfl, .inl rfl, B⟩
      · have hr3 : ¬ r < 0 := by omega
        have ht : tot n (k + 1) = tot n k + n k := rfl
        have e1 : 1048576 - (N : Int) - (tot n (k + 1) : Nat) = r := by omega
        have e2 : N + tot n (k + 1) ≤ 1048576 := by omega
        have HE : Hid (1048576 - (N : Int) - (tot n (k + 1) : Nat) = r) := e1
        clear ht hL hr1 e1
        go_wp2
        exact ⟨⟨k + 1, by omega, e2, by rw [HE.out], by go_num, B⟩, by simp [intOf]; omega⟩
    · have hlt' : ¬ (k : Int) < (N : Int) := by omega
      obtain rfl : k = N := by omega
      go_wp2
      go_ret
      exact ⟨L, rfl, Or.inr (by omega), B⟩
theorem infoFr : (Try.prog.info? 28).map (fun i => (i.zero, i.size, i.bytes)) = some (some (.agg #[.int .i64 0, .int .i64 0, .slice none 0 0]), 3, 40) := by kernel_rfl
theorem make_frames (M : Nat) (hM : M ≤ 1048576) : ∃ C : Array Value, C.size = M * 3 ∧ ∀ w, (Instr.makeSlice 24 (.int .i64 (M : Int)) (.int .i64 (M : Int))).run Try.prog w = .ok (.slice (some ⟨w.heap.size, 0, none⟩) M M) (w.alloc (.cells C 28)) := by
  obtain ⟨i0, hi0, hz0, hz1, hz2⟩ := info_parts infoFr
  refine ⟨madeCells (Value.agg #[.int .i64 0, .int .i64 0, .slice none 0 0]).cells (M * 3), by simp [madeCells], fun w => ?_⟩
  have := run_make (P := Try.prog) w 24 28 i0 _ Try.underlying24 hi0 hz0 .i64 .i64 (M : Int) (M : Int) (by omega) (by omega) (by rw [hz2]; omega) (by omega)
  rw [this, hz1]
  simp
/-- What a list that is taken over ends in. -/
def ToP (N : Nat) (W H : Nat → Int) (n : Nat → Nat) (f : Nat → Nat → Int) (w : World) (e : Ending) (w' : World) : Prop := ∃ g B v, e = .returned (.slice (some ⟨g, 0, none⟩) N N) ∧ FrO w' w.heap.size w'.heap.size g N N B v W H n f ∧ Below w.heap.size w w'
set_option maxRecDepth 100000 in
set_option maxHeartbeats 4000000 in
theorem toFrameS_any {w : World} {p : Option Addr} {N cap : Nat} {a : Nat → Option Addr} {c : Nat → Nat} {W H : Nat → Int} {n : Nat → Nat} {f : Nat → Nat → Int} (hS : FrS w p N a c W H n f) (hN : N ≤ 1048576) (hn : ∀ i, i < N → n i ≤ 1048576) :
    Calls Try.prog 20 #[.slice p N cap] w (ToP N W H n f w) := by
  have hn' : (N : Int) ≤ 1048576 := by omega
  obtain ⟨C, hC, hmk⟩ := make_frames N hN
  obtain ⟨W1, hW1, a1, B1, -⟩ := boxed w 28 C
  have L1 : FrO W1 w.heap.size W1.heap.size w.heap.size N 0 (fun _ => W1.heap.size) (fun _ => .slice none 0 0) W H n f := ⟨Nat.le_refl _, a1.lt, fun i hi => absurd hi (Nat.not_lt_zero _), Nat.le_refl _, ⟨C, a1, hC, fun i hi => absurd hi (Nat.not_lt_zero _)⟩, fun i hi => absurd hi (Nat.not_lt_zero _)⟩
  go_enter Try.func20, Try.ntmps20
  go_wp2
  clear hmk hW1 a1
  go_loopw [4] (fun s wr => ∃ k : Nat, k ≤ N ∧ s = .int .i64 k ∧ (∃ B v, FrO wr w.heap.size wr.heap.size w.heap.size N k B v W H n f) ∧ Below w.heap.size w wr) (fun s _ => N - (intOf s).toNat)
  case atStart => exact ⟨0, Nat.zero_le _, rfl, ⟨_, _, L1⟩, B1⟩
  case round =>
    clear L1 B1
    obtain ⟨k, hk, rfl, ⟨Bs, v, L⟩, B⟩ := hrel
    by_cases hlt : k < N
    · have hlt' : (k : Int) < (N : Int) := by omega
      rcases hS.below B with h0 | ⟨b, o, rfl, F⟩
      · omega
      have c0 := F.c0 k hlt
      have c1 := F.c1 k hlt
      have c2 := F.c2 k hlt
      have hsk := F.src k hlt
      have hnk := hn k hlt
      clear F
      go_wp2_with fail
      refine (toFrame_any (W k) (H k) hsk hnk).mono ?_
      rintro e w3 ⟨m, rfl, T, b3⟩
      obtain ⟨ua, uc, rfl, -, T⟩ := T.open
      have L3 := L.below b3
      have hsz := b3.size
      have B3 := B.trans (b3.mono B.size)
      clear c0 c1 c2 L B b3 hsk
      obtain ⟨d0, f0⟩ := L3.cells (j := k * 3) (by omega)
      obtain ⟨d1, f1⟩ := L3.cells (j := k * 3 + 1) (by omega)
      obtain ⟨d2, f2⟩ := L3.cells (j := k * 3 + 2) (by omega)
      have HL := L3.put hlt _ T hsz
      obtain ⟨V, hV⟩ : ∃ V, ((w3.setCell ⟨w.heap.size, k * 3, none⟩ (.int .i64 (W k))).setCell ⟨w.heap.size, k * 3 + 1, none⟩ (.int .i64 (H k))).setCell ⟨w.heap.size, k * 3 + 2, none⟩ (.slice ua (n k) uc) = V := ⟨_, rfl⟩
      have hVs : V.heap.size = w3.heap.size := by rw [← hV]; simp [World.setCell]
      have B4 : Below w.heap.size w V := by rw [← hV]; exact ((B3.setCell (Nat.le_refl w.heap.size) _).setCell (Nat.le_refl w.heap.size) _).setCell (Nat.le_refl w.heap.size) _
      rw [hV, ← hVs] at HL
      have HK : Hid (∃ B v, FrO V w.heap.size V.heap.size w.heap.size N (k + 1) B v W H n f) := ⟨_, _, HL⟩
      clear L3 HL hVs T
      go_wp2
      exact ⟨⟨k + 1, by omega, by go_num, HK.out, B4⟩, by simp [intOf]; omega⟩
    · have hlt' : ¬ (k : Int) < (N : Int) := by omega
      obtain rfl : k = N := by omega
      have HO : Hid (∃ B v, FrO wr w.heap.size wr.heap.size w.heap.size k k B v W H n f) := ⟨_, _, L⟩
      clear L
      go_wp2
      go_ret
      obtain ⟨B', v', h'⟩ := HO.out
      exact ⟨_, _, _, rfl, h', B⟩
end Go.Proofs.Ytlofbgkefalpoaa
