/-
  Traces drawn: walked.
-/
import Derived.Test.YtbninbeccgdemaaDoorRj
import Derived.Test.YtbninbeccgdemaaDoorRe
import Derived.Test.YtbninbeccgdemaaDoorMr
import Derived.Test.YtbninbeccgdemaaDoorCo
import Derived.Test.YtbninbeccgdemaaDoorDr
import Derived.BigRegion
namespace Go.Proofs.YtbninbeccgdemaaDoor
open Go.RowKit

theorem hid6 {p : Prop} (h : p) : Hid p := h
theorem At.keptP {t : TypeId} {w w' : World} {p q : Nat} {vs : Array Value} (h : At t w q vs) (hk : Kept p w w') (hq : q ≠ p) : At t w' q vs := (hk.block q h.lt hq).trans h
/-- A list of one's own, of any numbers. -/
def Lz (w : World) (g n : Nat) : Prop := ∃ cur : Array Value, At 2 w g cur ∧ cur.size = n ∧ ∀ i, i < n → ∃ x : Int, cur[i]? = some (.int .i64 x)
theorem Lz.lt {w : World} {g n : Nat} (h : Lz w g n) : g < w.heap.size := by
  obtain ⟨cur, h1, -⟩ := h
  exact h1.lt
theorem Lz.below {w w' : World} {g n : Nat} (h : Lz w g n) (hb : Below w.heap.size w w') : Lz w' g n := by
  obtain ⟨cur, h1, h2⟩ := h
  exact ⟨cur, h1.below hb, h2⟩
theorem Lz.kept {w w' : World} {p g n : Nat} (h : Lz w g n) (hk : Kept p w w') (hp : g ≠ p) : Lz w' g n := by
  obtain ⟨cur, h1, h2⟩ := h
  exact ⟨cur, h1.keptP hk hp, h2⟩
theorem Lz.open {w : World} {g n i : Nat} (h : Lz w g n) (hi : i < n) : ∃ x : Int, w.cell? ⟨g, i, none⟩ = some (.int .i64 x) ∧ w.frozen? ⟨g, i, none⟩ = false := by
  obtain ⟨cur, h1, h2, h3⟩ := h
  obtain ⟨x, hx⟩ := h3 i hi
  exact ⟨x, h1.cell i hx, h1.frozen i⟩
theorem Lz.set {w : World} {g n i : Nat} (h : Lz w g n) (hi : i < n) (x : Int) : Lz (w.setCell ⟨g, i, none⟩ (.int .i64 x)) g n := by
  obtain ⟨cur, h1, h2, h3⟩ := h
  refine ⟨_, h1.set i _, by simpa using h2, fun j hj => ?_⟩
  rw [Array.getElem?_setIfInBounds]
  by_cases e : i = j
  · subst e; rw [if_pos rfl, if_pos (by omega)]; exact ⟨x, rfl⟩
  · rw [if_neg e]; exact h3 j hj
theorem Lz.src {w : World} {g n : Nat} (h : Lz w g n) : ∃ f, Src w (some ⟨g, 0, none⟩) n f := by
  obtain ⟨cur, h1, h2, h3⟩ := h
  have H : ∀ i, ∃ x : Int, i < n → cur[i]? = some (.int .i64 x) := fun i => by
    by_cases hi : i < n
    · obtain ⟨x, hx⟩ := h3 i hi
      exact ⟨x, fun _ => hx⟩
    · exact ⟨0, fun h => absurd h hi⟩
  refine ⟨fun i => Classical.choose (H i), .inr ⟨g, 0, rfl, h1.lt, fun i hi => ?_⟩⟩
  have := h1.cell i (Classical.choose_spec (H i) hi)
  simpa using this
theorem info8 : (Tryd.prog.info? 2).map (fun i => (i.zero, i.size, i.bytes)) = some (some (.int .i64 0), 1, 8) := by kernel_rfl
theorem make_zs (M : Nat) (hM : M ≤ 12) : ∃ C : Array Value, (C.size = M ∧ ∀ i, i < M → C[i]? = some (.int .i64 0)) ∧ ∀ w, (Instr.makeSlice 24 (.int .i64 (M : Int)) (.int .i64 (M : Int))).run Tryd.prog w = .ok (.slice (some ⟨w.heap.size, 0, none⟩) M M) (w.alloc (.cells C 2)) := by
  obtain ⟨i0, hi0, hz0, hz1, hz2⟩ := info_parts info8
  refine ⟨madeCells (Value.int .i64 0).cells M, ⟨by simp [madeCells], fun i hi => by simp [madeCells, hi, Value.cells, Nat.mod_one]⟩, fun w => ?_⟩
  have := run_make (P := Tryd.prog) w 24 2 i0 _ Tryd.underlying24 hi0 hz0 .i64 .i64 (M : Int) (M : Int) (by omega) (by omega) (by rw [hz2]; omega) (by omega)
  rw [this, hz1]
  simp
/-- The cursor, and what has turned since w0: its own block alone. -/
structure Dz (w0 w : World) (p : Nat) (a : Option Addr) (len cap : Nat) : Prop where
  kp : Kept p w0 w
  cur : Cur w p a len cap
  pN : p < w0.heap.size
theorem Dz.st {w0 w : World} {p : Nat} {a : Option Addr} {len cap : Nat} (h : Dz w0 w p a len cap) : Dr w p a len cap w := Dr.start h.cur
theorem Dz.draw {w0 w w' : World} {p : Nat} {a : Option Addr} {len cap : Nat} (h : Dz w0 w p a len cap) (d : Dr w p a len cap w') : Dz w0 w' p a len cap := ⟨h.kp.trans d.1, d.2, h.pN⟩
theorem Dz.below {w0 w w' : World} {p : Nat} {a : Option Addr} {len cap : Nat} (h : Dz w0 w p a len cap) (hb : Below w.heap.size w w') : Dz w0 w' p a len cap := ⟨h.kp.trans (Kept.of_below hb), h.cur.kept hb, h.pN⟩
theorem Dz.fresh {w0 w : World} {p : Nat} {a : Option Addr} {len cap : Nat} (h : Dz w0 w p a len cap) {q : Nat} (hq : w0.heap.size ≤ q) (i : Nat) (x : Value) : Dz w0 (w.setCell ⟨q, i, none⟩ x) p a len cap := by
  have hk : Kept p w0 (w.setCell ⟨q, i, none⟩ x) := ⟨h.kp.os, h.kp.tape, h.kp.output, by simpa [World.setCell] using h.kp.size, fun k hk hp => (Below.heap_setCell _ _ _ _ (by show k ≠ q; omega)).trans (h.kp.block k hk hp)⟩
  obtain ⟨i', hh, hi, hc, hr⟩ := h.cur
  have hpq : p ≠ q := by have := h.pN; omega
  refine ⟨hk, ⟨i', hh, hi, (Below.heap_setCell _ _ _ _ hpq).trans hc, hr.1, hr.2.imp id ?_⟩, h.pN⟩
  rintro ⟨b, off, e, hb, hcell⟩
  refine ⟨b, off, e, hb, fun j hj => ?_⟩
  obtain ⟨y, h0, h2, h3⟩ := hcell j hj
  refine ⟨y, h0, h2, ?_⟩
  rw [World.cell?_of_block (w := w) (Below.heap_setCell _ _ _ _ (by show b ≠ q; have := h.pN; omega))]
  exact h3
/-- How it stands while traces are drawn. -/
structure TrI (w0 w : World) (p : Nat) (a : Option Addr) (len cap g N : Nat) : Prop where
  dz : Dz w0 w p a len cap
  ls : Lz w g N
  lo : w0.heap.size ≤ g
theorem TrI.ne {w0 w : World} {p : Nat} {a : Option Addr} {len cap g N : Nat} (h : TrI w0 w p a len cap g N) : g ≠ p := by
  have := h.dz.pN
  have := h.lo
  omega
theorem TrI.below {w0 w w' : World} {p : Nat} {a : Option Addr} {len cap g N : Nat} (h : TrI w0 w p a len cap g N) (hb : Below w.heap.size w w') : TrI w0 w' p a len cap g N := ⟨h.dz.below hb, h.ls.below hb, h.lo⟩
theorem TrI.draw {w0 w w' : World} {p : Nat} {a : Option Addr} {len cap g N : Nat} (h : TrI w0 w p a len cap g N) (d : Dr w p a len cap w') : TrI w0 w' p a len cap g N := ⟨h.dz.draw d, h.ls.kept d.1 h.ne, h.lo⟩
theorem TrI.set {w0 w : World} {p : Nat} {a : Option Addr} {len cap g N i : Nat} (h : TrI w0 w p a len cap g N) (hi : i < N) (x : Int) : TrI w0 (w.setCell ⟨g, i, none⟩ (.int .i64 x)) p a len cap g N := ⟨h.dz.fresh h.lo i _, h.ls.set hi x, h.lo⟩
/-- Traces drawn. -/
def RedD (w : World) (e : Ending) (w' : World) : Prop := ∃ (n : Int) (g N : Nat), e = .returned (.tuple #[.int .i64 n, .slice (some ⟨g, 0, none⟩) N N]) ∧ (-1 ≤ n ∧ n ≤ 24) ∧ N ≤ 12 ∧ 1 ≤ N ∧ Lz w' g N ∧ Below w.heap.size w w'
theorem conj_some {a b c d : Int} (h : (-1 ≤ a ∧ a ≤ 1) ∧ (-1 ≤ b ∧ b ≤ 1) ∧ (-1 ≤ c ∧ c ≤ 1) ∧ (-1 ≤ d ∧ d ≤ 1)) : ∃ x y z u : Int, conjT a b c d = cV x y z u ∧ ((-2 ≤ x ∧ x ≤ 2) ∧ (-2 ≤ y ∧ y ≤ 2) ∧ (-2 ≤ z ∧ z ≤ 2) ∧ (-2 ≤ u ∧ u ≤ 2)) := by
  unfold conjT
  split
  · exact ⟨_, _, _, _, rfl, ⟨by omega, by omega⟩, ⟨by omega, by omega⟩, ⟨by omega, by omega⟩, by omega, by omega⟩
  · exact ⟨0, 0, 0, 0, rfl, by omega, by omega, by omega, by omega⟩
set_option maxRecDepth 100000 in
set_option maxHeartbeats 6400000 in
theorem drawRed_any {w : World} {a : Option Addr} {len cap : Nat} (hr : Row w w.heap.size a len) :
    Calls Tryd.prog 6 #[.slice a len cap] w (RedD w) := by
  have hb6 : ∀ w, (Instr.buildSlice 24 6 #[(0, .int .i64 1), (1, .int .i64 2), (2, .int .i64 3), (3, .int .i64 4), (4, .int .i64 6), (5, .int .i64 12)]).run Tryd.prog w = .ok (.slice (some ⟨w.heap.size, 0, none⟩) 6 6) (w.alloc (.cells #[.int .i64 1, .int .i64 2, .int .i64 3, .int .i64 4, .int .i64 6, .int .i64 12] 2)) := fun _ => by kernel_rfl
  have hb3 : ∀ w, (Instr.buildSlice 24 3 #[(0, .int .i64 5), (1, .int .i64 0), (2, .int .i64 12)]).run Tryd.prog w = .ok (.slice (some ⟨w.heap.size, 0, none⟩) 3 3) (w.alloc (.cells #[.int .i64 5, .int .i64 0, .int .i64 12] 2)) := fun _ => by kernel_rfl
  have hb2 : ∀ w, (Instr.buildSlice 24 2 #[(0, .int .i64 1000), (1, .int .i64 1001)]).run Tryd.prog w = .ok (.slice (some ⟨w.heap.size, 0, none⟩) 2 2) (w.alloc (.cells #[.int .i64 1000, .int .i64 1001] 2)) := fun _ => by kernel_rfl
  go_enter Tryd.func6, Tryd.ntmps6
  go_wp2_with fail
  refine (new_any hr).mono ?_
  rintro e w2 ⟨rfl, b2, hc⟩
  obtain ⟨p, hp⟩ : ∃ q, w.heap.size = q := ⟨_, rfl⟩
  have HP : Hid (w.heap.size = p) := hp
  rw [hp] at hc ⊢
  have B2 : Hid (Below w.heap.size w w2) := b2
  have hp2 : p < w2.heap.size := hc.lt
  clear hr b2 hp
  obtain ⟨V, hV, b4, bb, -⟩ := boxed w2 2 #[.int .i64 1, .int .i64 2, .int .i64 3, .int .i64 4, .int .i64 6, .int .i64 12]
  have R : Dz w2 V p a len cap := ⟨Kept.of_below bb, hc.kept bb, hp2⟩
  obtain ⟨q4, hq4⟩ : ∃ q, w2.heap.size = q := ⟨_, rfl⟩
  have HQ : Hid (w2.heap.size = q4) := hq4
  rw [hq4] at b4 hp2
  clear hc bb
  go_wp2_with fail
  refine (below_dr R.st 6 (by omega) (by omega)).mono ?_
  rintro e w3 ⟨c6, rfl, h60, h61, hd⟩
  replace b4 := b4.keptP hd.1 (by omega)
  replace R := R.draw hd
  clear hd hV hq4
  obtain ⟨i6, rfl⟩ : ∃ i : Nat, c6 = (i : Int) := ⟨c6.toNat, by omega⟩
  obtain ⟨N, hside, hNc⟩ : ∃ N : Nat, side (N : Int) ∧ w3.cell? ⟨q4, i6, none⟩ = some (.int .i64 (N : Int)) := by
    rcases (by omega : i6 = 0 ∨ i6 = 1 ∨ i6 = 2 ∨ i6 = 3 ∨ i6 = 4 ∨ i6 = 5) with rfl | rfl | rfl | rfl | rfl | rfl
    · exact ⟨1, by decide, b4.cell 0 rfl⟩
    · exact ⟨2, by decide, b4.cell 1 rfl⟩
    · exact ⟨3, by decide, b4.cell 2 rfl⟩
    · exact ⟨4, by decide, b4.cell 3 rfl⟩
    · exact ⟨6, by decide, b4.cell 4 rfl⟩
    · exact ⟨12, by decide, b4.cell 5 rfl⟩
  obtain ⟨⟨hN1, hN12⟩, -⟩ := side_by hside
  obtain ⟨C, hC, hmk⟩ := make_zs N (by omega)
  obtain ⟨V3, hV3, b5, bb, -⟩ := boxed w3 2 C
  obtain ⟨g, hg⟩ : ∃ q, w3.heap.size = q := ⟨_, rfl⟩
  have hlo : w2.heap.size ≤ g := hg ▸ R.kp.size
  rw [hg] at b5
  have I : Hid (TrI w2 V3 p a len cap g N) := ⟨R.below bb, ⟨C, b5, hC.1, fun i hi => ⟨0, hC.2 i hi⟩⟩, hlo⟩
  have hT : 1 ≤ Int.tdiv 12 (N : Int) ∧ Int.tdiv 12 (N : Int) ≤ 12 := by rcases hside with h | h | h | h | h | h <;> rw [h] <;> decide
  have hM0 : Int.tmod 12 (N : Int) = 0 := by rcases hside with h | h | h | h | h | h <;> rw [h] <;> decide
  obtain ⟨T, hTT⟩ : ∃ T, Int.tdiv 12 (N : Int) = T := ⟨_, rfl⟩
  rw [hTT] at hT
  have hN0 : ¬ (N : Int) = 0 := by omega
  clear b4 R hC b5 bb hlo hside
  go_wp2_with fail
  clear hmk hg hV3
  go_loopw [7] (fun s wr => ∃ k : Nat, k ≤ N ∧ s = .int .i64 (k : Int) ∧ Hid (TrI w2 wr p a len cap g N)) (fun s _ => N - (intOf s).toNat)
  case atStart => exact ⟨0, Nat.zero_le _, rfl, I⟩
  case round =>
    clear I
    obtain ⟨k, hk, rfl, I⟩ := hrel
    by_cases hlt : k < N
    · have hlt' : (k : Int) < (N : Int) := by omega
      go_wp2_with fail
      refine (below_dr I.out.dz.st 3 (by omega) (by omega)).mono ?_
      rintro e w4 ⟨m, rfl, hm0, hm1, hd⟩
      have I4 : Hid (TrI w2 w4 p a len cap g N) := I.out.draw hd
      clear I hd
      go_wp2
      go_loopw [9] (fun s wq => ∃ j : Nat, j ≤ N ∧ s = .int .i64 (j : Int) ∧ Hid (TrI w2 wq p a len cap g N)) (fun s _ => N - (intOf s).toNat)
      case atStart => exact ⟨0, Nat.zero_le _, rfl, I4⟩
      case round =>
        clear I4
        obtain ⟨j, hj, rfl, J⟩ := hrel
        by_cases hlj : j < N
        · have hlj' : (j : Int) < (N : Int) := by omega
          have t1 := prod_le (x := T) (y := (j : Int)) (M := 12) (N := 11) (by omega) (by omega)
          have t2 := prod_le (x := T * (j : Int)) (y := (k : Int)) (M := 132) (N := 11) (by omega) (by omega)
          obtain ⟨c, hc12, hck⟩ := mod12 (T * (j : Int) * (k : Int))
          obtain ⟨R0, R1, R2, R3, -, hRb, RC⟩ := root_some (T * (j : Int) * (k : Int)) ⟨by omega, by omega⟩ c hc12 hck
          obtain ⟨y0, y1, y2, y3, hcj, hyb⟩ := conj_some hRb
          have CJ := fun w => specConj_any R0 R1 R2 R3 w
          rw [hcj] at CJ
          clear hcj hc12 hck
          go_wp2_with fail
          refine (RC _).mono ?_
          rintro e w5 ⟨rfl, b5⟩
          have J5 : Hid (TrI w2 w5 p a len cap g N) := J.out.below b5
          clear J b5 RC
          obtain ⟨V6, hV6, d1, bb, -⟩ := boxed w5 33 #[.int .i64 R0, .int .i64 R1, .int .i64 R2, .int .i64 R3]
          obtain ⟨q6, hq6⟩ : ∃ q, w5.heap.size = q := ⟨_, rfl⟩
          rw [hq6] at d1
          have J6 : Hid (TrI w2 V6 p a len cap g N) := J5.out.below bb
          clear J5 bb
          obtain ⟨e0, e1, e2, e3, -⟩ := d1.open4
          go_wp2_with fail
          refine (CJ _).mono ?_
          rintro e w7 ⟨rfl, b7⟩
          have J7 : Hid (TrI w2 w7 p a len cap g N) := J6.out.below b7
          replace d1 := d1.below b7
          clear J6 b7 CJ hV6 hq6 e0 e1 e2 e3
          obtain ⟨V8, hV8, d2, bb, -⟩ := boxed w7 33 #[.int .i64 y0, .int .i64 y1, .int .i64 y2, .int .i64 y3]
          obtain ⟨q8, hq8⟩ : ∃ q, w7.heap.size = q := ⟨_, rfl⟩
          rw [hq8] at d2
          have J8 : Hid (TrI w2 V8 p a len cap g N) := J7.out.below bb
          replace d1 := d1.below bb
          clear J7 bb
          obtain ⟨s0, hs0⟩ : ∃ s, R0 + y0 = s := ⟨_, rfl⟩
          obtain ⟨V9, hV9, d3, bb, -⟩ := boxed V8 33 #[.int .i64 s0, .int .i64 (R1 + y1), .int .i64 (R2 + y2), .int .i64 (R3 + y3)]
          obtain ⟨q9, hq9⟩ : ∃ q, V8.heap.size = q := ⟨_, rfl⟩
          rw [hq9] at d3
          have J9 : Hid (TrI w2 V9 p a len cap g N) := J8.out.below bb
          obtain ⟨e0, e1, e2, e3, -⟩ := d1.open4
          obtain ⟨f0, f1, f2, f3, -⟩ := d2.open4
          clear J8 bb
          obtain ⟨x, cx, fx⟩ := J9.out.ls.open hlj
          obtain ⟨g0, g1, g2, g3, -⟩ := d3.open4
          have hms : -6 ≤ m * s0 ∧ m * s0 ≤ 6 := by
            rcases (by omega : m = 0 ∨ m = 1 ∨ m = 2) with rfl | rfl | rfl <;> omega
          have ww : IntKind.i64.wrap (m * s0) = m * s0 := IntWalk.i64_in _ (by omega)
          obtain ⟨z, hz⟩ : ∃ z, IntKind.i64.wrap (x + m * s0) = z := ⟨_, rfl⟩
          obtain ⟨z', hz'⟩ : ∃ z, IntKind.i64.wrap (x + m) = z := ⟨_, rfl⟩
          by_cases h12 : (N : Int) = 12
          · have h12' : ((N : Int) != 12) = false := by simp [h12]
            have J10 : Hid (TrI w2 (V9.setCell ⟨g, j, none⟩ (.int .i64 z')) p a len cap g N) := J9.out.set hlj z'
            clear J9 d1 d2 d3 h12
            go_wp2
            exact ⟨⟨j + 1, by omega, by go_num, J10⟩, by simp [intOf]; omega⟩
          · have h12' : ((N : Int) != 12) = true := by simp [h12]
            have J10 : Hid (TrI w2 ((V9.setCell ⟨g, j, none⟩ (.int .i64 z)).drew) p a len cap g N) := (J9.out.set hlj z).below (Below.refl _ _).drew
            clear J9 d1 d2 d3 h12
            go_wp2_with fail
            go_region
            go_wp2
            exact ⟨⟨j + 1, by omega, by go_num, J10⟩, by simp [intOf]; omega⟩
        · have hlj' : ¬ (j : Int) < (N : Int) := by omega
          go_wp2
          exact ⟨⟨k + 1, by omega, by go_num, J⟩, by simp [intOf]; omega⟩
    · have hlt' : ¬ (k : Int) < (N : Int) := by omega
      clear hT hTT hM0 hN0
      go_wp2_with fail
      refine (once_dr I.out.dz.st 3 (by omega) (by omega)).mono ?_
      rintro e w4 ⟨b4, rfl, hd⟩
      have I4 : Hid (TrI w2 w4 p a len cap g N) := I.out.draw hd
      clear I hd
      cases b4
      · skip
        go_wp2_with fail
        refine (once_dr I4.out.dz.st 16 (by omega) (by omega)).mono ?_
        rintro e w8 ⟨b8, rfl, hd⟩
        have I8 : Hid (TrI w2 w8 p a len cap g N) := I4.out.draw hd
        clear I4 hd
        cases b8
        · skip
          go_wp2_with fail
          refine (once_dr I8.out.dz.st 20 (by omega) (by omega)).mono ?_
          rintro e w9 ⟨b9, rfl, hd⟩
          have I9 : Hid (TrI w2 w9 p a len cap g N) := I8.out.draw hd
          clear I8 hd
          cases b9
          · skip
            have B9 : Hid (Below w.heap.size w w9) := B2.out.trans (I9.out.dz.kp.below (N := w.heap.size) (by rw [HP.out]; exact Nat.le_refl _) B2.out.size)
            have L9 : Hid (Lz w9 g N) := I9.out.ls
            clear I9
            go_wp2
            refine bodyPost_ret (v := .tuple #[.int .i64 (N : Int), .slice (some ⟨g, 0, none⟩) N N]) (by simp [results, Tryd.results6, go_sem]) rfl ?_
            exact ⟨_, _, _, rfl, ⟨by omega, by omega⟩, by omega, by omega, L9.out, B9.out⟩
          · skip
            obtain ⟨V7, hV7, d7, bb, -⟩ := boxed w9 2 #[.int .i64 1000, .int .i64 1001]
            obtain ⟨q7, hq7⟩ : ∃ q, w9.heap.size = q := ⟨_, rfl⟩
            rw [hq7] at d7
            have K7 : Hid (TrI w2 V7 p a len cap g N) := I9.out.below bb
            have hp7 : p < q7 := by rw [← hq7]; exact I9.out.dz.cur.lt
            clear I9 bb
            go_wp2_with fail
            refine (below_dr K7.out.dz.st 2 (by omega) (by omega)).mono ?_
            rintro e w20 ⟨c, rfl, c0, c1, hd⟩
            have K8 : Hid (TrI w2 w20 p a len cap g N) := K7.out.draw hd
            replace d7 := d7.keptP hd.1 (by omega)
            clear K7 hd hV7 hq7
            obtain ⟨ic, rfl⟩ : ∃ i : Nat, c = (i : Int) := ⟨c.toNat, by omega⟩
            obtain ⟨y, hy⟩ : ∃ y : Int, w20.cell? ⟨q7, ic, none⟩ = some (.int .i64 y) := by
              rcases (by omega : ic = 0 ∨ ic = 1) with rfl | rfl
              · exact ⟨_, d7.cell 0 rfl⟩
              · exact ⟨_, d7.cell 1 rfl⟩
            obtain ⟨x, cx, fx⟩ := K8.out.ls.open (i := 0) (by omega)
            have K9 : Hid (TrI w2 (w20.setCell ⟨g, 0, none⟩ (.int .i64 y)) p a len cap g N) := K8.out.set (by omega) y
            clear K8 d7
            have B9 : Hid (Below w.heap.size w (w20.setCell ⟨g, 0, none⟩ (.int .i64 y))) := B2.out.trans (K9.out.dz.kp.below (N := w.heap.size) (by rw [HP.out]; exact Nat.le_refl _) B2.out.size)
            have L9 : Hid (Lz (w20.setCell ⟨g, 0, none⟩ (.int .i64 y)) g N) := K9.out.ls
            clear K9
            go_wp2
            refine bodyPost_ret (v := .tuple #[.int .i64 (N : Int), .slice (some ⟨g, 0, none⟩) N N]) (by simp [results, Tryd.results6, go_sem]) rfl ?_
            exact ⟨_, _, _, rfl, ⟨by omega, by omega⟩, by omega, by omega, L9.out, B9.out⟩
        · skip
          obtain ⟨V6, hV6, d6, bb, -⟩ := boxed w8 2 #[.int .i64 5, .int .i64 0, .int .i64 12]
          obtain ⟨q6, hq6⟩ : ∃ q, w8.heap.size = q := ⟨_, rfl⟩
          rw [hq6] at d6
          have K6 : Hid (TrI w2 V6 p a len cap g N) := I8.out.below bb
          have hp6 : p < q6 := by rw [← hq6]; exact I8.out.dz.cur.lt
          clear I8 bb
          go_wp2_with fail
          refine (below_dr K6.out.dz.st 3 (by omega) (by omega)).mono ?_
          rintro e w19 ⟨c, rfl, c0, c1, hd⟩
          have K5 : Hid (TrI w2 w19 p a len cap g N) := K6.out.draw hd
          replace d6 := d6.keptP hd.1 (by omega)
          clear K6 hd hV6 hq6
          obtain ⟨jc, rfl⟩ : ∃ i : Nat, c = (i : Int) := ⟨c.toNat, by omega⟩
          obtain ⟨nn, hnn, hnc⟩ : ∃ y : Int, (0 ≤ y ∧ y ≤ 12) ∧ w19.cell? ⟨q6, jc, none⟩ = some (.int .i64 y) := by
            rcases (by omega : jc = 0 ∨ jc = 1 ∨ jc = 2) with rfl | rfl | rfl
            · exact ⟨5, by omega, d6.cell 0 rfl⟩
            · exact ⟨0, by omega, d6.cell 1 rfl⟩
            · exact ⟨12, by omega, d6.cell 2 rfl⟩
          clear d6
          go_wp2_with fail
          refine (once_dr K5.out.dz.st 20 (by omega) (by omega)).mono ?_
          rintro e w10 ⟨b10, rfl, hd⟩
          have I10 : Hid (TrI w2 w10 p a len cap g N) := K5.out.draw hd
          clear K5 hd
          cases b10
          · skip
            have B9 : Hid (Below w.heap.size w w10) := B2.out.trans (I10.out.dz.kp.below (N := w.heap.size) (by rw [HP.out]; exact Nat.le_refl _) B2.out.size)
            have L9 : Hid (Lz w10 g N) := I10.out.ls
            clear I10
            go_wp2
            refine bodyPost_ret (v := .tuple #[.int .i64 (nn), .slice (some ⟨g, 0, none⟩) N N]) (by simp [results, Tryd.results6, go_sem]) rfl ?_
            exact ⟨_, _, _, rfl, ⟨by omega, by omega⟩, by omega, by omega, L9.out, B9.out⟩
          · skip
            obtain ⟨V7, hV7, d7, bb, -⟩ := boxed w10 2 #[.int .i64 1000, .int .i64 1001]
            obtain ⟨q7, hq7⟩ : ∃ q, w10.heap.size = q := ⟨_, rfl⟩
            rw [hq7] at d7
            have K7 : Hid (TrI w2 V7 p a len cap g N) := I10.out.below bb
            have hp7 : p < q7 := by rw [← hq7]; exact I10.out.dz.cur.lt
            clear I10 bb
            go_wp2_with fail
            refine (below_dr K7.out.dz.st 2 (by omega) (by omega)).mono ?_
            rintro e w20 ⟨c, rfl, c0, c1, hd⟩
            have K8 : Hid (TrI w2 w20 p a len cap g N) := K7.out.draw hd
            replace d7 := d7.keptP hd.1 (by omega)
            clear K7 hd hV7 hq7
            obtain ⟨ic, rfl⟩ : ∃ i : Nat, c = (i : Int) := ⟨c.toNat, by omega⟩
            obtain ⟨y, hy⟩ : ∃ y : Int, w20.cell? ⟨q7, ic, none⟩ = some (.int .i64 y) := by
              rcases (by omega : ic = 0 ∨ ic = 1) with rfl | rfl
              · exact ⟨_, d7.cell 0 rfl⟩
              · exact ⟨_, d7.cell 1 rfl⟩
            obtain ⟨x, cx, fx⟩ := K8.out.ls.open (i := 0) (by omega)
            have K9 : Hid (TrI w2 (w20.setCell ⟨g, 0, none⟩ (.int .i64 y)) p a len cap g N) := K8.out.set (by omega) y
            clear K8 d7
            have B9 : Hid (Below w.heap.size w (w20.setCell ⟨g, 0, none⟩ (.int .i64 y))) := B2.out.trans (K9.out.dz.kp.below (N := w.heap.size) (by rw [HP.out]; exact Nat.le_refl _) B2.out.size)
            have L9 : Hid (Lz (w20.setCell ⟨g, 0, none⟩ (.int .i64 y)) g N) := K9.out.ls
            clear K9
            go_wp2
            refine bodyPost_ret (v := .tuple #[.int .i64 (nn), .slice (some ⟨g, 0, none⟩) N N]) (by simp [results, Tryd.results6, go_sem]) rfl ?_
            exact ⟨_, _, _, rfl, ⟨by omega, by omega⟩, by omega, by omega, L9.out, B9.out⟩
      · skip
        go_wp2_with fail
        refine (below_dr I4.out.dz.st (N : Int) (by omega) (by omega)).mono ?_
        rintro e w5 ⟨c, rfl, c0, c1, hd⟩
        have I5 : Hid (TrI w2 w5 p a len cap g N) := I4.out.draw hd
        clear I4 hd
        obtain ⟨kc, rfl⟩ : ∃ i : Nat, c = (i : Int) := ⟨c.toNat, by omega⟩
        go_wp2_with fail
        refine (from_dr I5.out.dz.st (-3) 9 (by omega) (by omega) (by omega) (by omega)).mono ?_
        rintro e w6 ⟨y, rfl, y0, y1, hd⟩
        have I6 : Hid (TrI w2 w6 p a len cap g N) := I5.out.draw hd
        clear I5 hd
        obtain ⟨x6, cx6, fx6⟩ := I6.out.ls.open (i := kc) (by omega)
        have I7 : Hid (TrI w2 (w6.setCell ⟨g, kc, none⟩ (.int .i64 y)) p a len cap g N) := I6.out.set (by omega) y
        clear I6
        go_wp2_with fail
        refine (once_dr I7.out.dz.st 16 (by omega) (by omega)).mono ?_
        rintro e w11 ⟨b11, rfl, hd⟩
        have I11 : Hid (TrI w2 w11 p a len cap g N) := I7.out.draw hd
        clear I7 hd
        cases b11
        · skip
          go_wp2_with fail
          refine (once_dr I11.out.dz.st 20 (by omega) (by omega)).mono ?_
          rintro e w12 ⟨b12, rfl, hd⟩
          have I12 : Hid (TrI w2 w12 p a len cap g N) := I11.out.draw hd
          clear I11 hd
          cases b12
          · skip
            have B9 : Hid (Below w.heap.size w w12) := B2.out.trans (I12.out.dz.kp.below (N := w.heap.size) (by rw [HP.out]; exact Nat.le_refl _) B2.out.size)
            have L9 : Hid (Lz w12 g N) := I12.out.ls
            clear I12
            go_wp2
            refine bodyPost_ret (v := .tuple #[.int .i64 (N : Int), .slice (some ⟨g, 0, none⟩) N N]) (by simp [results, Tryd.results6, go_sem]) rfl ?_
            exact ⟨_, _, _, rfl, ⟨by omega, by omega⟩, by omega, by omega, L9.out, B9.out⟩
          · skip
            obtain ⟨V7, hV7, d7, bb, -⟩ := boxed w12 2 #[.int .i64 1000, .int .i64 1001]
            obtain ⟨q7, hq7⟩ : ∃ q, w12.heap.size = q := ⟨_, rfl⟩
            rw [hq7] at d7
            have K7 : Hid (TrI w2 V7 p a len cap g N) := I12.out.below bb
            have hp7 : p < q7 := by rw [← hq7]; exact I12.out.dz.cur.lt
            clear I12 bb
            go_wp2_with fail
            refine (below_dr K7.out.dz.st 2 (by omega) (by omega)).mono ?_
            rintro e w20 ⟨c, rfl, c0, c1, hd⟩
            have K8 : Hid (TrI w2 w20 p a len cap g N) := K7.out.draw hd
            replace d7 := d7.keptP hd.1 (by omega)
            clear K7 hd hV7 hq7
            obtain ⟨ic, rfl⟩ : ∃ i : Nat, c = (i : Int) := ⟨c.toNat, by omega⟩
            obtain ⟨y, hy⟩ : ∃ y : Int, w20.cell? ⟨q7, ic, none⟩ = some (.int .i64 y) := by
              rcases (by omega : ic = 0 ∨ ic = 1) with rfl | rfl
              · exact ⟨_, d7.cell 0 rfl⟩
              · exact ⟨_, d7.cell 1 rfl⟩
            obtain ⟨x, cx, fx⟩ := K8.out.ls.open (i := 0) (by omega)
            have K9 : Hid (TrI w2 (w20.setCell ⟨g, 0, none⟩ (.int .i64 y)) p a len cap g N) := K8.out.set (by omega) y
            clear K8 d7
            have B9 : Hid (Below w.heap.size w (w20.setCell ⟨g, 0, none⟩ (.int .i64 y))) := B2.out.trans (K9.out.dz.kp.below (N := w.heap.size) (by rw [HP.out]; exact Nat.le_refl _) B2.out.size)
            have L9 : Hid (Lz (w20.setCell ⟨g, 0, none⟩ (.int .i64 y)) g N) := K9.out.ls
            clear K9
            go_wp2
            refine bodyPost_ret (v := .tuple #[.int .i64 (N : Int), .slice (some ⟨g, 0, none⟩) N N]) (by simp [results, Tryd.results6, go_sem]) rfl ?_
            exact ⟨_, _, _, rfl, ⟨by omega, by omega⟩, by omega, by omega, L9.out, B9.out⟩
        · skip
          obtain ⟨V6, hV6, d6, bb, -⟩ := boxed w11 2 #[.int .i64 5, .int .i64 0, .int .i64 12]
          obtain ⟨q6, hq6⟩ : ∃ q, w11.heap.size = q := ⟨_, rfl⟩
          rw [hq6] at d6
          have K6 : Hid (TrI w2 V6 p a len cap g N) := I11.out.below bb
          have hp6 : p < q6 := by rw [← hq6]; exact I11.out.dz.cur.lt
          clear I11 bb
          go_wp2_with fail
          refine (below_dr K6.out.dz.st 3 (by omega) (by omega)).mono ?_
          rintro e w19 ⟨c, rfl, c0, c1, hd⟩
          have K5 : Hid (TrI w2 w19 p a len cap g N) := K6.out.draw hd
          replace d6 := d6.keptP hd.1 (by omega)
          clear K6 hd hV6 hq6
          obtain ⟨jc, rfl⟩ : ∃ i : Nat, c = (i : Int) := ⟨c.toNat, by omega⟩
          obtain ⟨nn, hnn, hnc⟩ : ∃ y : Int, (0 ≤ y ∧ y ≤ 12) ∧ w19.cell? ⟨q6, jc, none⟩ = some (.int .i64 y) := by
            rcases (by omega : jc = 0 ∨ jc = 1 ∨ jc = 2) with rfl | rfl | rfl
            · exact ⟨5, by omega, d6.cell 0 rfl⟩
            · exact ⟨0, by omega, d6.cell 1 rfl⟩
            · exact ⟨12, by omega, d6.cell 2 rfl⟩
          clear d6
          go_wp2_with fail
          refine (once_dr K5.out.dz.st 20 (by omega) (by omega)).mono ?_
          rintro e w13 ⟨b13, rfl, hd⟩
          have I13 : Hid (TrI w2 w13 p a len cap g N) := K5.out.draw hd
          clear K5 hd
          cases b13
          · skip
            have B9 : Hid (Below w.heap.size w w13) := B2.out.trans (I13.out.dz.kp.below (N := w.heap.size) (by rw [HP.out]; exact Nat.le_refl _) B2.out.size)
            have L9 : Hid (Lz w13 g N) := I13.out.ls
            clear I13
            go_wp2
            refine bodyPost_ret (v := .tuple #[.int .i64 (nn), .slice (some ⟨g, 0, none⟩) N N]) (by simp [results, Tryd.results6, go_sem]) rfl ?_
            exact ⟨_, _, _, rfl, ⟨by omega, by omega⟩, by omega, by omega, L9.out, B9.out⟩
          · skip
            obtain ⟨V7, hV7, d7, bb, -⟩ := boxed w13 2 #[.int .i64 1000, .int .i64 1001]
            obtain ⟨q7, hq7⟩ : ∃ q, w13.heap.size = q := ⟨_, rfl⟩
            rw [hq7] at d7
            have K7 : Hid (TrI w2 V7 p a len cap g N) := I13.out.below bb
            have hp7 : p < q7 := by rw [← hq7]; exact I13.out.dz.cur.lt
            clear I13 bb
            go_wp2_with fail
            refine (below_dr K7.out.dz.st 2 (by omega) (by omega)).mono ?_
            rintro e w20 ⟨c, rfl, c0, c1, hd⟩
            have K8 : Hid (TrI w2 w20 p a len cap g N) := K7.out.draw hd
            replace d7 := d7.keptP hd.1 (by omega)
            clear K7 hd hV7 hq7
            obtain ⟨ic, rfl⟩ : ∃ i : Nat, c = (i : Int) := ⟨c.toNat, by omega⟩
            obtain ⟨y, hy⟩ : ∃ y : Int, w20.cell? ⟨q7, ic, none⟩ = some (.int .i64 y) := by
              rcases (by omega : ic = 0 ∨ ic = 1) with rfl | rfl
              · exact ⟨_, d7.cell 0 rfl⟩
              · exact ⟨_, d7.cell 1 rfl⟩
            obtain ⟨x, cx, fx⟩ := K8.out.ls.open (i := 0) (by omega)
            have K9 : Hid (TrI w2 (w20.setCell ⟨g, 0, none⟩ (.int .i64 y)) p a len cap g N) := K8.out.set (by omega) y
            clear K8 d7
            have B9 : Hid (Below w.heap.size w (w20.setCell ⟨g, 0, none⟩ (.int .i64 y))) := B2.out.trans (K9.out.dz.kp.below (N := w.heap.size) (by rw [HP.out]; exact Nat.le_refl _) B2.out.size)
            have L9 : Hid (Lz (w20.setCell ⟨g, 0, none⟩ (.int .i64 y)) g N) := K9.out.ls
            clear K9
            go_wp2
            refine bodyPost_ret (v := .tuple #[.int .i64 (nn), .slice (some ⟨g, 0, none⟩) N N]) (by simp [results, Tryd.results6, go_sem]) rfl ?_
            exact ⟨_, _, _, rfl, ⟨by omega, by omega⟩, by omega, by omega, L9.out, B9.out⟩
end Go.Proofs.YtbninbeccgdemaaDoor
