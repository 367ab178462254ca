/-
  Sets of reflections by the program: areRising, bitOf, setsOf, allOf, standsApart, walked.
-/
import Derived.Test.YtcpeaenophaphaaAc
import Derived.BigRegion
namespace Go.Proofs.Ytcpeaenophaphaa
open Go.RowKit

set_option maxHeartbeats 4000000 in
theorem areRising_any {w : World} {a : Option Addr} {n cap : Nat} {f : Nat → Int} (hs : Src w a n f) (hn : n ≤ 1048576) (E : Int) (hE : 0 ≤ E ∧ E ≤ 1048576) :
    Calls Try.prog 47 #[.slice a n cap, .int .i64 E] w fun e w' => e = .returned (.bool (risB n f E)) ∧ Below w.heap.size w w' := by
  obtain ⟨D, hD⟩ : ∃ D, risB n f E = D := ⟨_, rfl⟩
  rw [hD]
  have H0 : ¬ Ris n f E → D = false := fun h => hD ▸ risB_no h
  have H1 : Ris n f E → D = true := fun h => hD ▸ risB_yes h
  clear hD
  go_enter Try.func47, Try.ntmps47
  go_wp2
  go_loopw [5, 10] (fun s t wr => ∃ (k : Nat) (L : Int), k ≤ n ∧ s = .int .i64 L ∧ t = .int .i64 (k : Int) ∧ Ris k f E ∧ ((k = 0 ∧ L = 0) ∨ ∃ i, k = i + 1 ∧ L = f i + 1) ∧ Below w.heap.size w wr) (fun _ t _ => n - (intOf t).toNat)
  case atStart => exact ⟨0, 0, Nat.zero_le _, rfl, rfl, Ris.zero _ _, .inl ⟨rfl, rfl⟩, Below.refl _ _⟩
  case round =>
    obtain ⟨k, L, hk, rfl, rfl, hr, hL, bW⟩ := hrel
    by_cases hlt : k < n
    · have hlt' : (k : Int) < (n : Int) := by omega
      rcases hs.below bW with h0 | ⟨b, off, rfl, hb, hc⟩
      · omega
      have c0 := hc k hlt
      obtain ⟨X, hX⟩ : ∃ X, f k = X := ⟨_, rfl⟩
      rw [hX] at c0
      by_cases h1 : X < L
      · obtain rfl : D = false := H0 fun h => by
          rcases hL with ⟨rfl, rfl⟩ | ⟨i, rfl, rfl⟩
          · have := (h.1 0 hlt).1; omega
          · have := h.2 i hlt; omega
        clear H0 H1 hL hr
        go_wp2
        go_ret
        exact ⟨rfl, bW⟩
      · by_cases h2 : E ≤ X
        · obtain rfl : D = false := H0 fun h => by
            have := (h.1 k hlt).2; omega
          clear H0 H1 hL hr
          go_wp2
          go_ret
          exact ⟨rfl, bW⟩
        · have hr' : Ris (k + 1) f E := hr.next hL (by omega) (by omega)
          have h0 : 0 ≤ X := by have := (hr'.1 k (by omega)).1; omega
          clear H0 H1 hL hr
          go_wp2
          exact ⟨⟨k + 1, X + 1, by omega, rfl, by go_num, hr', .inr ⟨k, rfl, by rw [hX]⟩, bW⟩, by simp [intOf]; omega⟩
    · have hlt' : ¬ (k : Int) < (n : Int) := by omega
      obtain rfl : k = n := by omega
      obtain rfl : D = true := H1 hr
      go_wp2
      go_ret
      exact ⟨rfl, bW⟩
theorem bitOf_any (x : Nat) (hx : x < 64) (w : World) :
    Calls Try.prog 46 #[.int .i64 (x : Int)] w fun e w' => e = .returned (.int .u64 ((msk (fun r => r = x) 64 : Nat) : Int)) ∧ w = w' := by
  have e1 : IntKind.u64.wrap (2 ^ x) = ((msk (fun r => r = x) 64 : Nat) : Int) := by simpa using shl_one x hx
  go_enter Try.func46, Try.ntmps46
  go_wp2
  go_ret
  exact ⟨rfl, rfl⟩
theorem infoRs : (Try.prog.info? 51).map (fun i => (i.zero, i.size, i.bytes)) = some (some (.int .u64 0), 1, 8) := by kernel_rfl
theorem make_sets (M : Nat) (hM : M ≤ 1048576) : ∃ C : Array Value, (C.size = M ∧ ∀ i, i < M → C[i]? = some (.int .u64 0)) ∧ ∀ w, (Instr.makeSlice 47 (.int .i64 (M : Int)) (.int .i64 (M : Int))).run Try.prog w = .ok (.slice (some ⟨w.heap.size, 0, none⟩) M M) (w.alloc (.cells C 51)) := by
  obtain ⟨i0, hi0, hz0, hz1, hz2⟩ := info_parts infoRs
  refine ⟨madeCells (Value.int .u64 0).cells M, ⟨by simp [madeCells], fun i hi => by simp [madeCells, hi, Value.cells, Nat.mod_one]⟩, fun w => ?_⟩
  have := run_make (P := Try.prog) w 47 51 i0 _ Try.underlying47 hi0 hz0 .i64 .i64 (M : Int) (M : Int) (by omega) (by omega) (by rw [hz2]; omega) (by omega)
  rw [this, hz1]
  simp
theorem hs_step (f : Nat → Nat → Int) (k j x : Nat) (h : f k j = (x : Int)) : msk (fun r => Hs f k j r ∨ r = x) 64 = msk (Hs f k (j + 1)) 64 := by
  refine msk_congr fun r _ => ⟨?_, ?_⟩
  · rintro (⟨t, h1, h2⟩ | rfl)
    · exact ⟨t, by omega, h2⟩
    · exact ⟨j, by omega, h⟩
  · rintro ⟨t, h1, h2⟩
    by_cases e : t = j
    · subst e; right; omega
    · exact .inl ⟨t, by omega, h2⟩
/-- What setsOf tells. -/
def SetP (w : World) (N : Nat) (n : Nat → Nat) (f : Nat → Nat → Int) (e : Ending) (w' : World) : Prop :=
  ((¬ ExOk N n f ∧ e = .returned (.tuple #[.slice none 0 0, .bool false])) ∨ (ExOk N n f ∧ ∃ g, e = .returned (.tuple #[.slice (some ⟨g, 0, none⟩) N N, .bool true]) ∧ U64s w' g N (fun i => msk (Hs f i (n i)) 64))) ∧ Below w.heap.size w w'
set_option maxHeartbeats 4000000 in
theorem setsOf_any {w : World} {b N cap : Nat} {a : Nat → Option Addr} {c : Nat → Nat} {n : Nat → Nat} {f : Nat → Nat → Int} (hS : Lli w b 0 N a c n f) (hN : N ≤ 1048576) (hn : ∀ i, i < N → n i ≤ 1048576) :
    Calls Try.prog 37 #[.slice (some ⟨b, 0, none⟩) N cap] w (SetP w N n f) := by
  by_cases hN12 : (12 : Int) < (N : Int)
  · go_enter Try.func37, Try.ntmps37
    go_wp2
    refine bodyPost_ret (v := .tuple #[.slice none 0 0, .bool false]) (by simp [results, Try.results37, go_sem]) rfl ?_
    exact ⟨.inl ⟨fun h => by have := h.1; omega, rfl⟩, Below.refl _ _⟩
  obtain ⟨C, ⟨hC, hC0⟩, hmk⟩ := make_sets N hN
  obtain ⟨W1, hW1, a1, B1, -⟩ := boxed w 51 C
  have L1 : U64s W1 w.heap.size N (fun i => msk (Hs f i ((fun _ => 0) i)) 64) := ⟨C, a1, hC, fun i hi => (hC0 i hi).trans (by simp only [msk_none (P := Hs f i 0) (K := 64) (fun r _ => by rintro ⟨t, ht, -⟩; omega)]; rfl)⟩
  go_enter Try.func37, Try.ntmps37
  go_wp2
  clear hmk hW1 a1
  go_loopw [17] (fun s wr => ∃ (k : Nat) (q : Nat → Nat), k ≤ N ∧ s = .int .i64 k ∧ (∀ i, i < k → Ris (n i) (f i) 64) ∧ (∀ i, i < k → q i = n i) ∧ (∀ i, k ≤ i → q i = 0) ∧ U64s wr w.heap.size N (fun i => msk (Hs f i (q i)) 64) ∧ Below w.heap.size w wr) (fun s _ => N - (intOf s).toNat)
  case atStart => exact ⟨0, fun _ => 0, Nat.zero_le _, rfl, fun i hi => absurd hi (Nat.not_lt_zero _), fun i hi => absurd hi (Nat.not_lt_zero _), fun _ _ => rfl, L1, B1⟩
  case round =>
    clear L1 B1 hC hC0
    obtain ⟨k, q, hk, rfl, hR, hq1, hq2, hU, bW⟩ := hrel
    by_cases hlt : k < N
    · have hlt' : (k : Int) < (N : Int) := by omega
      have c2 := (hS.below bW).open hlt
      have hsk := hS.src k hlt
      have hnk := hn k hlt
      obtain ⟨A, hA⟩ : ∃ A, a k = A := ⟨_, rfl⟩
      rw [hA] at c2 hsk
      go_wp2_with fail
      refine (areRising_any (hsk.below bW) hnk 64 (by omega)).mono ?_
      rintro e w3 ⟨rfl, b3⟩
      clear c2 hA
      replace hU := hU.below b3
      replace bW := bW.trans (b3.mono bW.size)
      clear b3
      by_cases hr : Ris (n k) (f k) 64
      · rw [risB_yes hr]
        go_wp2
        go_loopw [27] (fun s wr => ∃ (j : Nat) (q : Nat → Nat), j ≤ n k ∧ s = .int .i64 j ∧ (∀ i, i < k → q i = n i) ∧ q k = j ∧ (∀ i, k < i → q i = 0) ∧ U64s wr w.heap.size N (fun i => msk (Hs f i (q i)) 64) ∧ Below w.heap.size w wr) (fun s _ => n k - (intOf s).toNat)
        case atStart => exact ⟨0, q, Nat.zero_le _, rfl, hq1, hq2 k (Nat.le_refl _), fun i hi => hq2 i (by omega), hU, bW⟩
        case round =>
          clear hq1 hq2 hU bW
          obtain ⟨j, q, hj, rfl, hq1, hqk, hq2, hU, bW⟩ := hrel
          by_cases hjn : j < n k
          · have hjn' : (j : Int) < (n k : Int) := by omega
            rcases hsk.below bW with h0 | ⟨sb, so, rfl, hb, hc⟩
            · omega
            have c0 := hc j hjn
            obtain ⟨x, hx⟩ : ∃ x : Nat, f k j = (x : Int) := ⟨(f k j).toNat, by have := (hr.1 j hjn).1; omega⟩
            have hx64 : x < 64 := by have := (hr.1 j hjn).2; omega
            rw [hx] at c0
            obtain ⟨z0, y0⟩ := hU.open hlt
            rw [hqk] at z0
            have hor := mor (Hs f k j) (fun r => r = x)
            rw [hs_step f k j x hx] at hor
            have HU : Hid (U64s wr w.heap.size N (fun i => msk (Hs f i (q i)) 64)) := hU
            clear hU
            go_wp2
            go_region_with (go_at_call 46; refine (bitOf_any x hx64 _).mono ?_; rintro e w2 ⟨rfl, rfl⟩)
            all_goals
              go_wp2
              exact ⟨⟨j + 1, fun i => if i = k then j + 1 else q i, by omega, by go_num, fun i hi => (if_neg (by omega)).trans (hq1 i hi), if_pos rfl, fun i hi => (if_neg (by omega)).trans (hq2 i (by omega)), (HU.out.set hlt (by simp) (fun i _ hi => by simp [hi])).below (Below.refl _ _).drew, (bW.setCell (Nat.le_refl _) _).drew⟩, by simp [intOf]; omega⟩
          · have hjn' : ¬ (j : Int) < (n k : Int) := by omega
            obtain rfl : j = n k := by omega
            go_wp2
            exact ⟨⟨k + 1, q, by omega, by go_num, fun i hi => (by by_cases e : i = k; exact e ▸ hr; exact hR i (by omega)), fun i hi => (by by_cases e : i = k; exact e ▸ hqk; exact hq1 i (by omega)), fun i hi => hq2 i (by omega), hU, bW⟩, by simp [intOf]; omega⟩
      · rw [risB_no hr]
        go_wp2
        refine bodyPost_ret (v := .tuple #[.slice none 0 0, .bool false]) (by simp [results, Try.results37, go_sem]) rfl ?_
        exact ⟨.inl ⟨fun h => hr (h.2 k hlt), rfl⟩, bW⟩
    · have hlt' : ¬ (k : Int) < (N : Int) := by omega
      obtain rfl : k = N := by omega
      go_wp2
      refine bodyPost_ret (v := .tuple #[.slice (some ⟨w.heap.size, 0, none⟩) k k, .bool true]) (by simp [results, Try.results37, go_sem]) rfl ?_
      exact ⟨.inr ⟨⟨by omega, hR⟩, _, rfl, hU.congr fun i hi => by rw [hq1 i hi]⟩, bW⟩
end Go.Proofs.Ytcpeaenophaphaa
