/-
  Lists of lists of numbers: laid, sized and taken over, walked.
-/
import Derived.Test.YtcpeaenophaphaaIa
namespace Go.Proofs.Ytcpeaenophaphaa
open Go.RowKit

/-- N lists lie in block b from o on. -/
structure Lli (w : World) (b o N : Nat) (a : Nat → Option Addr) (c : Nat → Nat) (n : Nat → Nat) (f : Nat → Nat → Int) : Prop where
  lt : b < w.heap.size
  c2 : ∀ i, i < N → w.cell? ⟨b, o + i, none⟩ = some (.slice (a i) (n i) (c i))
  src : ∀ i, i < N → Src w (a i) (n i) (f i)
theorem Lli.below {w w' : World} {b o N : Nat} {a : Nat → Option Addr} {c : Nat → Nat} {n : Nat → Nat} {f : Nat → Nat → Int} (h : Lli w b o N a c n f) (hb : Below w.heap.size w w') : Lli w' b o N a c n f :=
  ⟨Nat.lt_of_lt_of_le h.lt hb.size, fun i hi => (hb.cell (p := ⟨b, _, none⟩) h.lt).trans (h.c2 i hi), fun i hi => (h.src i hi).below hb⟩
theorem Lli.belowN {w w' : World} {N0 b o N : Nat} {a : Nat → Option Addr} {c : Nat → Nat} {n : Nat → Nat} {f : Nat → Nat → Int} (h : Lli w b o N a c n f) (hb : Below w.heap.size w w') (_ : N0 ≤ w.heap.size) : Lli w' b o N a c n f := h.below hb
theorem Lli.open {w : World} {b N : Nat} {a : Nat → Option Addr} {c : Nat → Nat} {n : Nat → Nat} {f : Nat → Nat → Int} (h : Lli w b 0 N a c n f) {i : Nat} (hi : i < N) : w.cell? ⟨b, i, none⟩ = some (.slice (a i) (n i) (c i)) := by
  simpa using h.c2 i hi
/-- A list of lists that came in. -/
def LlS (w : World) (p : Option Addr) (N : Nat) (a : Nat → Option Addr) (c : Nat → Nat) (n : Nat → Nat) (f : Nat → Nat → Int) : Prop :=
  N = 0 ∨ ∃ b o, p = some ⟨b, o, none⟩ ∧ Lli w b o N a c n f
theorem LlS.below {w w' : World} {p : Option Addr} {N : Nat} {a : Nat → Option Addr} {c : Nat → Nat} {n : Nat → Nat} {f : Nat → Nat → Int} (h : LlS w p N a c n f) (hb : Below w.heap.size w w') : LlS w' p N a c n f := by
  rcases h with h | ⟨b, o, e, h⟩
  · exact .inl h
  · exact .inr ⟨b, o, e, h.below hb⟩
def tot (n : Nat → Nat) : Nat → Nat
  | 0 => 0
  | k + 1 => tot n k + n k
theorem tot_le (n : Nat → Nat) {i k : Nat} (h : i ≤ k) : tot n i ≤ tot n k := by
  induction k with
  | zero => simp [Nat.le_zero.1 h]
  | succ k ih =>
    by_cases e : i = k + 1
    · subst e; exact Nat.le_refl _
    · exact Nat.le_trans (ih (by omega)) (Nat.le_add_right _ _)
theorem tot_one (n : Nat → Nat) {i k : Nat} (h : i < k) : tot n i + n i ≤ tot n k := tot_le n (i := i + 1) h
/-- A list of lists of its own memory, of which k are laid: list i's numbers lie between B i and B (i + 1). -/
structure LlO (w : World) (lo hi g N k : Nat) (B : Nat → Nat) (v : Nat → Value) (n : Nat → Nat) (f : Nat → Nat → Int) : Prop where
  lo : lo ≤ g
  b0 : g < B 0
  st : ∀ i, i < k → B i ≤ B (i + 1)
  hi : B k ≤ hi
  blk : ∃ cur : Array Value, At 25 w g cur ∧ cur.size = N ∧ ∀ i, i < k → cur[i]? = some (v i)
  arr : ∀ i, i < k → Arr w (B i) (B (i + 1)) (v i) (n i) (f i)
theorem mono_of {B : Nat → Nat} {k : Nat} (h : ∀ i, i < k → B i ≤ B (i + 1)) {i j : Nat} (hij : i ≤ j) (hj : j ≤ k) : B i ≤ B j := by
  induction j with
  | zero => simp [Nat.le_zero.1 hij]
  | succ j ih =>
    by_cases e : i = j + 1
    · subst e; exact Nat.le_refl _
    · exact Nat.le_trans (ih (by omega) (by omega)) (h j (by omega))
theorem LlO.below {w w' : World} {lo hi g N k : Nat} {B : Nat → Nat} {v : Nat → Value} {n : Nat → Nat} {f : Nat → Nat → Int} (h : LlO w lo hi g N k B v n f) (hb : Below w.heap.size w w') : LlO w' lo hi g N k B v n f := by
  obtain ⟨h1, h2, h3, h4, ⟨cur, h5, h6⟩, h7⟩ := h
  exact ⟨h1, h2, h3, h4, ⟨cur, h5.below hb, h6⟩, fun i hi => (h7 i hi).below hb⟩
theorem LlO.wide {w : World} {lo hi lo' hi' g N k : Nat} {B : Nat → Nat} {v : Nat → Value} {n : Nat → Nat} {f : Nat → Nat → Int} (h : LlO w lo hi g N k B v n f) (h1 : lo' ≤ lo) (h2 : hi ≤ hi') : LlO w lo' hi' g N k B v n f :=
  ⟨Nat.le_trans h1 h.lo, h.b0, h.st, Nat.le_trans h.hi h2, h.blk, h.arr⟩
theorem LlO.cells {w : World} {lo hi g N k j : Nat} {B : Nat → Nat} {v : Nat → Value} {n : Nat → Nat} {f : Nat → Nat → Int} (h : LlO w lo hi g N k B v n f) (hj : j < N) : w.cell? ⟨g, j, none⟩ = some (cv w g j) ∧ w.frozen? ⟨g, j, none⟩ = false := by
  obtain ⟨cur, h1, h2, h3⟩ := h.blk
  have hl : j < cur.size := by omega
  have := h1.cell j (Array.getElem?_eq_getElem hl)
  exact ⟨by rw [cv, this]; rfl, h1.frozen j⟩
theorem Kept.turn {w w' : World} {g : Nat} (h : Kept g w w') : Turn g (g + 1) w w' := ⟨h.os, h.tape, h.output, h.size, fun x hx hd => h.block x hx (by omega)⟩
theorem LlO.put {w : World} {lo hi hi' g N k : Nat} {B : Nat → Nat} {v : Nat → Value} {n : Nat → Nat} {f : Nat → Nat → Int} (h : LlO w lo hi g N k B v n f) (hk : k < N) (u : Value) (ha : Arr w hi hi' u (n k) (f k)) (hh : hi ≤ hi') :
    LlO (w.setCell ⟨g, k, none⟩ u) lo hi' g N (k + 1) (fun i => if i ≤ k then B i else hi') (fun i => if i = k then u else v i) n f := by
  have hK : Kept g w (w.setCell ⟨g, k, none⟩ u) := (Kept.refl g w).set _
  have ht := hK.turn
  have hB := h.hi
  have hb := h.b0
  obtain ⟨cur, h1, h2, h3⟩ := h.blk
  refine ⟨h.lo, by rw [if_pos (Nat.zero_le _)]; exact hb, fun i hi => ?_, by rw [if_neg (Nat.not_succ_le_self k)]; exact Nat.le_refl _, ⟨_, h1.set k _, by simpa using h2, fun i hi => ?_⟩, fun i hi => ?_⟩
  · by_cases e : i = k
    · subst e; rw [if_pos (Nat.le_refl _), if_neg (Nat.not_succ_le_self i)]; omega
    · rw [if_pos (by omega), if_pos (by omega)]; exact h.st i (by omega)
  · by_cases e : i = k
    · subst e
      rw [Array.getElem?_setIfInBounds, if_pos rfl, if_pos (by omega)]; simp
    · rw [Array.getElem?_setIfInBounds, if_neg (by omega), if_neg e]; exact h3 i (by omega)
  · by_cases e : i = k
    · subst e
      simp only [Nat.le_refl, if_pos, if_neg (Nat.not_succ_le_self i)]
      have := mono_of h.st (i := 0) (j := i) (by omega) (by omega)
      exact (ha.wide hB (Nat.le_refl _)).turn ht (.inr (by omega))
    · rw [if_pos (by omega), if_pos (by omega), if_neg e]
      have := mono_of h.st (i := 0) (j := i) (by omega) (by omega)
      exact (h.arr i (by omega)).turn ht (.inr (by omega))
theorem LlO.fri {w : World} {lo hi g N : Nat} {B : Nat → Nat} {v : Nat → Value} {n : Nat → Nat} {f : Nat → Nat → Int} (h : LlO w lo hi g N N B v n f) : ∃ a c, (∀ i, i < N → v i = .slice (a i) (n i) (c i)) ∧ Lli w g 0 N a c n f := by
  have ex : ∀ i, ∃ a c, i < N → v i = .slice a (n i) c ∧ Src w a (n i) (f i) := fun i => by
    by_cases hi : i < N
    · obtain ⟨a, c, e, hs⟩ := (h.arr i hi).src
      exact ⟨a, c, fun _ => ⟨e, hs⟩⟩
    · exact ⟨none, 0, fun hh => absurd hh hi⟩
  obtain ⟨cur, h1, h2, h3⟩ := h.blk
  refine ⟨fun i => Classical.choose (ex i), fun i => Classical.choose (Classical.choose_spec (ex i)), fun i hi => (Classical.choose_spec (Classical.choose_spec (ex i)) hi).1, h1.lt, fun i hi => ?_, fun i hi => (Classical.choose_spec (Classical.choose_spec (ex i)) hi).2⟩
  rw [Nat.zero_add, ← (Classical.choose_spec (Classical.choose_spec (ex i)) hi).1]; exact h1.cell _ (h3 i hi)
set_option maxRecDepth 100000 in
set_option maxHeartbeats 4000000 in
theorem szSS_any {w : World} {p : Option Addr} {N cap : Nat} {a : Nat → Option Addr} {c : Nat → Nat} {n : Nat → Nat} {f : Nat → Nat → Int} (hS : LlS w p N a c n f) (hN : N ≤ maxLen) (hn : ∀ i, i < N → n i ≤ maxLen) :
    Calls Try.prog 18 #[.slice p N cap, .int .i64 1048576] w fun e w' => ∃ r : Int, e = .returned (.int .i64 r) ∧ (r = -1 ∨ (0 ≤ r ∧ N + tot n N ≤ 1048576)) ∧ Below w.heap.size w w' := by
  unfold maxLen at hN
  by_cases hb : 1048576 < N
  · have h1 : (1048576 : Int) - (N : Int) < 0 := by omega
    go_enter Try.func18, Try.ntmps18
    go_wp2
    go_ret
    exact ⟨_, rfl, .inl rfl, Below.refl _ _⟩
  have h1 : ¬ (1048576 : Int) - (N : Int) < 0 := by omega
  have hN' : (N : Int) ≤ 1048576 := by omega
  go_enter Try.func18, Try.ntmps18
  go_wp2
  go_loopw [1, 5] (fun s t wr => ∃ k : Nat, k ≤ N ∧ N + tot n k ≤ 1048576 ∧ s = .int .i64 (1048576 - (N : Int) - (tot n k : Nat)) ∧ t = .int .i64 (k : Int) ∧ Below w.heap.size w wr) (fun _ t _ => N - (intOf t).toNat)
  case atStart => exact ⟨0, Nat.zero_le _, by simp [tot]; omega, by simp [tot], rfl, Below.refl _ _⟩
  case round =>
    obtain ⟨k, hk, hle, rfl, rfl, B⟩ := hrel
    obtain ⟨L, hL⟩ : ∃ L : Int, 1048576 - (N : Int) - (tot n k : Nat) = L := ⟨_, rfl⟩
    rw [hL]
    by_cases hlt : k < N
    · have hlt' : (k : Int) < (N : Int) := by omega
      rcases hS.below B with h0 | ⟨b, o, rfl, F⟩
      · omega
      have c2 := F.c2 k hlt
      have hnk := hn k hlt
      clear F hS hn
      go_wp2_with fail
      refine (szI_any (a k) (n k) (c k) L wr hnk (by omega)).mono ?_
      rintro e w3 ⟨rfl, rfl⟩
      clear c2
      by_cases hr : L < (n k : Int)
      · rw [if_pos hr]
        go_wp2
        go_ret
        exact ⟨_, rfl, .inl rfl, B⟩
      · rw [if_neg hr]
        obtain ⟨r, hr1⟩ : ∃ r : Int, L - (n k : Int) = r := ⟨_, rfl⟩
        rw [hr1]
        have hr3 : ¬ r < 0 := by omega
        have ht : tot n (k + 1) = tot n k + n k := rfl
        have e1 : 1048576 - (N : Int) - (tot n (k + 1) : Nat) = r := by omega
        have e2 : N + tot n (k + 1) ≤ 1048576 := by omega
        have HE : Hid (1048576 - (N : Int) - (tot n (k + 1) : Nat) = r) := e1
        clear ht hL hr1 e1
        go_wp2
        exact ⟨⟨k + 1, by omega, e2, by rw [HE.out], by go_num, B⟩, by simp [intOf]; omega⟩
    · have hlt' : ¬ (k : Int) < (N : Int) := by omega
      obtain rfl : k = N := by omega
      go_wp2
      go_ret
      exact ⟨L, rfl, Or.inr (by omega), B⟩
theorem infoSl : (Try.prog.info? 25).map (fun i => (i.zero, i.size, i.bytes)) = some (some (.slice none 0 0), 1, 24) := by kernel_rfl
theorem make_lists (M : Nat) (hM : M ≤ 1048576) : ∃ C : Array Value, C.size = M ∧ ∀ w, (Instr.makeSlice 24 (.int .i64 (M : Int)) (.int .i64 (M : Int))).run Try.prog w = .ok (.slice (some ⟨w.heap.size, 0, none⟩) M M) (w.alloc (.cells C 25)) := by
  obtain ⟨i0, hi0, hz0, hz1, hz2⟩ := info_parts infoSl
  refine ⟨madeCells (Value.slice none 0 0).cells M, by simp [madeCells], fun w => ?_⟩
  have := run_make (P := Try.prog) w 24 25 i0 _ Try.underlying24 hi0 hz0 .i64 .i64 (M : Int) (M : Int) (by omega) (by omega) (by rw [hz2]; omega) (by omega)
  rw [this, hz1]
  simp
/-- What a list that is taken over ends in. -/
def ToP (N : Nat) (n : Nat → Nat) (f : Nat → Nat → Int) (w : World) (e : Ending) (w' : World) : Prop := ∃ g B v, e = .returned (.slice (some ⟨g, 0, none⟩) N N) ∧ LlO w' w.heap.size w'.heap.size g N N B v n f ∧ Below w.heap.size w w'
set_option maxRecDepth 100000 in
set_option maxHeartbeats 4000000 in
theorem toSS_any {w : World} {p : Option Addr} {N cap : Nat} {a : Nat → Option Addr} {c : Nat → Nat} {n : Nat → Nat} {f : Nat → Nat → Int} (hS : LlS w p N a c n f) (hN : N ≤ 1048576) (hn : ∀ i, i < N → n i ≤ 1048576) :
    Calls Try.prog 19 #[.slice p N cap] w (ToP N n f w) := by
  have hn' : (N : Int) ≤ 1048576 := by omega
  obtain ⟨C, hC, hmk⟩ := make_lists N hN
  obtain ⟨W1, hW1, a1, B1, -⟩ := boxed w 25 C
  have L1 : LlO W1 w.heap.size W1.heap.size w.heap.size N 0 (fun _ => W1.heap.size) (fun _ => .slice none 0 0) n f := ⟨Nat.le_refl _, a1.lt, fun i hi => absurd hi (Nat.not_lt_zero _), Nat.le_refl _, ⟨C, a1, hC, fun i hi => absurd hi (Nat.not_lt_zero _)⟩, fun i hi => absurd hi (Nat.not_lt_zero _)⟩
  go_enter Try.func19, Try.ntmps19
  go_wp2
  clear hmk hW1 a1
  go_loopw [4] (fun s wr => ∃ k : Nat, k ≤ N ∧ s = .int .i64 k ∧ (∃ B v, LlO wr w.heap.size wr.heap.size w.heap.size N k B v n f) ∧ Below w.heap.size w wr) (fun s _ => N - (intOf s).toNat)
  case atStart => exact ⟨0, Nat.zero_le _, rfl, ⟨_, _, L1⟩, B1⟩
  case round =>
    clear L1 B1
    obtain ⟨k, hk, rfl, ⟨Bs, v, L⟩, B⟩ := hrel
    by_cases hlt : k < N
    · have hlt' : (k : Int) < (N : Int) := by omega
      rcases hS.below B with h0 | ⟨b, o, rfl, F⟩
      · omega
      have c2 := F.c2 k hlt
      have hsk := F.src k hlt
      have hnk := hn k hlt
      clear F
      go_wp2_with fail
      refine (toInts_any hsk hnk).mono ?_
      rintro e w3 ⟨g, rfl, hg, T, b3⟩
      have T := arr_of_own T hg
      have L3 := L.below b3
      have hsz := b3.size
      have B3 := B.trans (b3.mono B.size)
      clear c2 L B b3 hsk
      obtain ⟨d0, f0⟩ := L3.cells (j := k) (by omega)
      have HL := L3.put hlt _ T hsz
      obtain ⟨V, hV⟩ : ∃ V, w3.setCell ⟨w.heap.size, k, none⟩ (.slice (some ⟨g, 0, none⟩) (n k) (n k)) = V := ⟨_, rfl⟩
      have hVs : V.heap.size = w3.heap.size := by rw [← hV]; simp [World.setCell]
      have B4 : Below w.heap.size w V := by rw [← hV]; exact B3.setCell (Nat.le_refl w.heap.size) _
      rw [hV, ← hVs] at HL
      have HK : Hid (∃ B v, LlO V w.heap.size V.heap.size w.heap.size N (k + 1) B v n f) := ⟨_, _, HL⟩
      clear L3 HL hVs T
      go_wp2
      exact ⟨⟨k + 1, by omega, by go_num, HK.out, B4⟩, by simp [intOf]; omega⟩
    · have hlt' : ¬ (k : Int) < (N : Int) := by omega
      obtain rfl : k = N := by omega
      have HO : Hid (∃ B v, LlO wr w.heap.size wr.heap.size w.heap.size k k B v n f) := ⟨_, _, L⟩
      clear L
      go_wp2
      go_ret
      obtain ⟨B', v', h'⟩ := HO.out
      exact ⟨_, _, _, rfl, h', B⟩
end Go.Proofs.Ytcpeaenophaphaa
