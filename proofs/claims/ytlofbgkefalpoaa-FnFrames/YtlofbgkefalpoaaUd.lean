/-
  AddFrames, by the program, walked.
-/
import Derived.Test.YtlofbgkefalpoaaUc
import Derived.Test.YtlofbgkefalpoaaVd
namespace Go.Proofs.Ytlofbgkefalpoaa
open Go.RowKit

/-- What AddFrames tells. -/
def AdT (N : Nat) (W H : Nat → Int) (n : Nat → Nat) (f : Nat → Nat → Int) (l W' H' : Int) (len' : Nat) (f' : Nat → Int) : Prop :=
  (alk N W H n f ∧ l = ls (sm f N) (n 0) ∧ W' = W 0 ∧ H' = H 0 ∧ len' = n 0 ∧ ∀ i, i < n 0 → f' i = mn (sm f N i)) ∨ (¬ alk N W H n f ∧ l = 0 ∧ W' = 0 ∧ H' = 0 ∧ len' = 0 ∧ f' = fun _ => 0)
theorem AdT.same {N : Nat} {W H : Nat → Int} {n : Nat → Nat} {f : Nat → Nat → Int} {l W' H' l2 W2 H2 : Int} {len' len2 : Nat} {f' f2 : Nat → Int} (h : AdT N W H n f l W' H' len' f') (k : AdT N W H n f l2 W2 H2 len2 f2) : l = l2 ∧ W' = W2 ∧ H' = H2 ∧ len' = len2 ∧ ∀ i, i < len' → f' i = f2 i := by
  rcases h with ⟨a0, rfl, rfl, rfl, rfl, e1⟩ | ⟨a0, rfl, rfl, rfl, rfl, rfl⟩ <;> rcases k with ⟨b0, rfl, rfl, rfl, rfl, e2⟩ | ⟨b0, rfl, rfl, rfl, rfl, rfl⟩
  · exact ⟨rfl, rfl, rfl, rfl, fun i hi => (e1 i hi).trans (e2 i hi).symm⟩
  · exact absurd a0 b0
  · exact absurd b0 a0
  · exact ⟨rfl, rfl, rfl, rfl, fun i hi => absurd hi (Nat.not_lt_zero _)⟩
theorem AdT.le {N : Nat} {W H : Nat → Int} {n : Nat → Nat} {f : Nat → Nat → Int} {l W' H' : Int} {len' : Nat} {f' : Nat → Int} (h : AdT N W H n f l W' H' len' f') (hn : ∀ i, i < N → n i ≤ 1048576) : len' ≤ 1048576 := by
  rcases h with ⟨a0, rfl, rfl, rfl, rfl, e1⟩ | ⟨a0, rfl, rfl, rfl, rfl, rfl⟩
  · exact hn 0 (by have := a0.1; omega)
  · omega
/-- What a call of AddFrames ends in. -/
def AdP (N : Nat) (W H : Nat → Int) (n : Nat → Nat) (f : Nat → Nat → Int) (w : World) (e : Ending) (w' : World) : Prop := ∃ m l W' H' len' f', e = .returned (.tuple #[m, .int .i64 l]) ∧ AdT N W H n f l W' H' len' f' ∧ FrAt w' w.heap.size w'.heap.size m W' H' len' f' ∧ Below w.heap.size w w'
theorem zero_ad (w : World) (lo hi : Nat) : FrAt w lo hi (fV 0 0 (.slice none 0 0)) 0 0 0 (fun _ => 0) := ⟨_, rfl, .inl ⟨rfl, rfl⟩⟩
theorem alk.sum {N : Nat} {W H : Nat → Int} {n : Nat → Nat} {f : Nat → Nat → Int} (h : alk N W H n f) {k : Nat} (hk : k ≤ N) {i : Nat} (hi : i < n 0) : 0 ≤ sm f k i ∧ sm f k i ≤ 10000000 := by
  have h1 := sm_le (f := f) (N := N) (i := i) (fun j hj => (h.2.2 j hj).1.2.2.2 i (by rw [h.len hj]; exact hi)) hk
  have := h.2.1
  omega
set_option maxRecDepth 100000 in
set_option maxHeartbeats 8000000 in
theorem implAdd_any {w : World} {g N cq : Nat} {a : Nat → Option Addr} {c : Nat → Nat} {W H : Nat → Int} {n : Nat → Nat} {f : Nat → Nat → Int} (hF : Fri w g 0 N a c W H n f) (hN : N ≤ 1048576) (hn : ∀ i, i < N → n i ≤ 1048576) :
    Calls Try.prog 12 #[.slice (some ⟨g, 0, none⟩) N cq] w (AdP N W H n f w) := by
  have hn' : (N : Int) ≤ 1048576 := by omega
  obtain ⟨V, hV, b2, bW, -⟩ := boxed w 28 #[.int .i64 0, .int .i64 0, .slice none 0 0]
  have s2 := b2.lt
  replace hF := hF.below bW
  go_enter Try.func12, Try.ntmps12
  go_wp2_with fail
  refine (areAlike_any hF hN hn).mono ?_
  rintro e w1 ⟨b, rfl, hb, bb⟩
  replace b2 := b2.below bb
  replace hF := hF.below bb
  replace bW := bW.trans (bb.mono bW.size)
  have s1 := bb.size
  clear bb hV
  rcases b with _ | _
  · have hno : ¬ alk N W H n f := fun h => by have := hb.2 h; cases this
    clear hb
    obtain ⟨d0, d1, d2, f0, f1, f2⟩ := b2.open3
    go_wp2
    have a7 := put3_at b2 (.int .i64 0) (.int .i64 0) (.slice none 0 0)
    obtain ⟨p0, p1, p2, -⟩ := a7.open3
    refine bodyPost_ret (v := .tuple #[fV 0 0 (.slice none 0 0), .int .i64 0]) (by simp [results, Try.results12, go_sem, p0, p1, p2]) rfl ?_
    exact ⟨_, _, _, _, _, _, rfl, .inr ⟨hno, rfl, rfl, rfl, rfl, rfl⟩, zero_fr _ _ _, below_put3 bW (by omega) _ _ _⟩
  · have hal : Hid (alk N W H n f) := hb.1 rfl
    clear hb
    have hN0 : 0 < N := by have := hal.out.1; omega
    have hN100 : N ≤ 100 := hal.out.2.1
    have hN0' : (0 : Int) < (N : Int) := by omega
    obtain ⟨⟨hW, hH, hl, -⟩, -, -⟩ := hal.out.2.2 0 hN0
    have p1 := mul_in (a := W 0) (b := H 0) (x := 64) (y := 64) (by omega) (by omega)
    have hM : n 0 ≤ 4096 := by omega
    have HL : Hid ((n 0 : Int) = W 0 * H 0) := hl
    clear hl
    obtain ⟨c0, c1, c2⟩ := hF.open (i := 0) hN0
    simp only [Nat.zero_mul, Nat.zero_add] at c0 c1 c2
    go_wp2_with fail
    refine (detectorOf_any (W 0) (H 0) (a 0) (n 0) (c 0) _).mono ?_
    rintro e w2 ⟨rfl, bb⟩
    replace b2 := b2.below bb
    replace hF := hF.below bb
    replace bW := bW.trans (bb.mono bW.size)
    have s3 := bb.size
    clear bb c0 c1 c2
    have hfd : ∀ u, (Instr.field 62 (fV (W 0) (H 0) (.slice (a 0) (n 0) (c 0))) 0).run Try.prog u = .ok (gV (W 0) (H 0)) u := fun _ => by first | rfl | kernel_rfl
    go_wp2_with fail
    clear hfd
    refine (blank_any (W 0) (H 0) (n 0) _ hW hH HL.out).mono ?_
    rintro e w3 ⟨gg, rfl, hg, o, bb⟩
    replace b2 := b2.below bb
    have bL := bb
    replace bW := bW.trans (bb.mono bW.size)
    have s4 := bb.size
    clear bb
    obtain ⟨V4, hV4, x0, bb, -⟩ := boxed w3 62 #[.int .i64 (W 0), .int .i64 (H 0), .slice (some ⟨gg, 0, none⟩) (n 0) (n 0)]
    have s5 := o.lt
    have s6 := x0.lt
    replace b2 := b2.below bb
    replace o := o.below bb
    replace bW := bW.trans (bb.mono bW.size)
    replace bL := bL.trans (bb.mono bL.size)
    clear bb
    go_wp2_with fail
    clear hV4
    have r0 : Below w.heap.size w V4 ∧ At 28 V4 w.heap.size #[.int .i64 0, .int .i64 0, .slice none 0 0] ∧ At 62 V4 w3.heap.size #[.int .i64 (W 0), .int .i64 (H 0), .slice (some ⟨gg, 0, none⟩) (n 0) (n 0)] ∧ Own V4 gg (n 0) (sm f 0) ∧ Below w2.heap.size w2 V4 := ⟨bW, b2, x0, o.congr fun i _ => rfl, bL⟩
    clear bW b2 x0 o bL
    go_loopw [20] (fun s wr => ∃ k : Nat, k ≤ N ∧ s = .int .i64 k ∧ Below w.heap.size w wr ∧ At 28 wr w.heap.size #[.int .i64 0, .int .i64 0, .slice none 0 0] ∧ At 62 wr w3.heap.size #[.int .i64 (W 0), .int .i64 (H 0), .slice (some ⟨gg, 0, none⟩) (n 0) (n 0)] ∧ Own wr gg (n 0) (sm f k) ∧ Below w2.heap.size w2 wr) (fun s _ => N - (intOf s).toNat)
    case atStart => exact ⟨0, Nat.zero_le _, rfl, r0⟩
    case round =>
      clear r0
      obtain ⟨k, hk, rfl, bW, b2, x0, o, bL⟩ := hrel
      have s7 := x0.lt
      by_cases hlt : k < N
      · have hlt' : (k : Int) < (N : Int) := by omega
        obtain ⟨c0, c1, c2⟩ := (hF.below bL).open hlt
        have hsk := hF.src k hlt
        rw [hal.out.len hlt] at c2 hsk
        obtain ⟨V5, hV5, y0, bb, -⟩ := boxed wr 28 #[.int .i64 (W k), .int .i64 (H k), .slice (a k) (n 0) (c k)]
        replace b2 := b2.below bb
        replace x0 := x0.below bb
        replace o := o.below bb
        replace bW := bW.trans (bb.mono bW.size)
        replace bL := bL.trans (bb.mono bL.size)
        have s8 := bb.size
        clear bb
        obtain ⟨d0, d1, d2, -⟩ := x0.open3
        obtain ⟨e0, e1, e2, -⟩ := y0.open3
        go_wp2_with fail
        refine (add_any (W 0) (H 0) hsk bL hg o (by omega) (fun i hi => ⟨hal.out.sum hk hi, (hal.out.2.2 k hlt).1.2.2.2 i (by rw [hal.out.len hlt]; exact hi)⟩)).mono ?_
        rintro e w6 ⟨rfl, o6, tt⟩
        replace b2 := b2.turn tt (by omega)
        replace x0 := x0.turn tt (by omega)
        replace bW := tt.below bW (by omega) bW.size
        replace bL := tt.below bL (by omega) bL.size
        have O6 : Hid (Own w6 gg (n 0) (sm f (k + 1))) := o6.congr fun i _ => rfl
        clear o6 tt o c0 c1 c2 d0 d1 d2 e0 e1 e2 hV5 y0 hsk
        go_wp2
        exact ⟨⟨k + 1, by omega, by go_num, bW, b2, x0, O6.out, bL⟩, by simp [intOf]; omega⟩
      · have hlt' : ¬ (k : Int) < (N : Int) := by omega
        obtain rfl : k = N := by omega
        obtain ⟨d0, d1, d2, -⟩ := x0.open3
        go_wp2_with fail
        refine (limit_any (W 0) (H 0) o (by omega) (fun i hi => hal.out.sum (Nat.le_refl _) hi)).mono ?_
        rintro e w6 ⟨rfl, o6, tt⟩
        have s9 := tt.size
        replace b2 := b2.turn tt (by omega)
        replace x0 := x0.turn tt (by omega)
        replace bW := tt.below bW (by omega) bW.size
        clear tt o d0 d1 d2 bL
        obtain ⟨d0, d1, d2, -⟩ := x0.open3
        generalize hLS : ls (sm f k) (n 0) = LS
        have HS : Hid (ls (sm f k) (n 0) = LS) := hLS
        clear hLS
        go_wp2_with fail
        refine (frame_any (W 0) (H 0) _ (n 0) (n 0) _).mono ?_
        rintro e w8 ⟨rfl, b8⟩
        replace b2 := b2.below b8
        replace o6 := o6.below b8
        replace bW := bW.trans (b8.mono bW.size)
        have s8 := b8.size
        clear d0 d1 d2 b8
        obtain ⟨d0, d1, d2, f0, f1, f2⟩ := b2.open3
        go_wp2
        have a7 := put3_at b2 (.int .i64 (W 0)) (.int .i64 (H 0)) (.slice (some ⟨gg, 0, none⟩) (n 0) (n 0))
        obtain ⟨p0, p1, p2, -⟩ := a7.open3
        refine bodyPost_ret (v := .tuple #[fV (W 0) (H 0) (.slice (some ⟨gg, 0, none⟩) (n 0) (n 0)), .int .i64 LS]) (by simp [results, Try.results12, go_sem, p0, p1, p2]) rfl ?_
        have oo := Made.setOther (Made.setOther (Made.setOther (q := w.heap.size) (i := 0) o6 (by omega) (.int .i64 (W 0))) (q := w.heap.size) (i := 1) (by omega) (.int .i64 (H 0))) (q := w.heap.size) (i := 2) (by omega) (.slice (some ⟨gg, 0, none⟩) (n 0) (n 0))
        exact ⟨_, _, _, _, _, _, rfl, .inl ⟨hal.out, HS.out.symm, rfl, rfl, rfl, fun i _ => rfl⟩, ⟨_, rfl, arr_of_own oo (by omega)⟩, below_put3 bW (by omega) _ _ _⟩
end Go.Proofs.Ytlofbgkefalpoaa
