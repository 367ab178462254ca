/-
  Lists that a function made, taken over, compared, marked and held, walked.
-/
import Derived.Test.YtglkddhifpnniaaWalkB
namespace Go.Proofs.Ytglkddhifpnniaa
open Go.RowKit

/-- A list of its own memory, in a block from lo up to hi; or nothing. -/
def Arr (w : World) (lo hi : Nat) (v : Value) (n : Nat) (f : Nat → Int) : Prop :=
  (v = .slice none 0 0 ∧ n = 0) ∨ ∃ g c, v = .slice (some ⟨g, 0, none⟩) n c ∧ lo ≤ g ∧ g < hi ∧ n ≤ c ∧ Made w g c n f
/-- Of what was there, the list's own block alone may have turned. -/
structure Only (v : Value) (w w' : World) : Prop where
  os : w'.os = w.os
  tape : w'.tape = w.tape
  output : w'.output = w.output
  size : w.heap.size ≤ w'.heap.size
  block : ∀ k, k < w.heap.size → v.ownBlock ≠ some k → w'.heap[k]? = w.heap[k]?
theorem Only.of_below {v : Value} {w w' : World} (h : Below w.heap.size w w') : Only v w w' := ⟨h.os, h.tape, h.output, h.size, fun k hk _ => h.block k hk⟩
theorem Only.of_kept {a : Addr} {n c : Nat} {w w' : World} (h : Kept a.block w w') : Only (.slice (some a) n c) w w' :=
  ⟨h.os, h.tape, h.output, h.size, fun k hk hne => h.block k hk (fun e => hne (by rw [e]; rfl))⟩
/-- The two lists don't share a block. -/
def Apart (v u : Value) : Prop := ∀ k, v.ownBlock = some k → u.ownBlock ≠ some k
theorem Apart.symm {v u : Value} (h : Apart v u) : Apart u v := fun k h1 h2 => h k h2 h1
theorem Arr.src {w : World} {lo hi : Nat} {v : Value} {n : Nat} {f : Nat → Int} (h : Arr w lo hi v n f) : ∃ a c, v = .slice a n c ∧ Src w a n f := by
  rcases h with ⟨rfl, rfl⟩ | ⟨g, c, rfl, hl, hh, hc, hm⟩
  · exact ⟨none, 0, rfl, .inl rfl⟩
  · obtain ⟨cur, h1, h2, h3⟩ := hm
    refine ⟨_, c, rfl, .inr ⟨g, 0, rfl, h1.lt, fun i hi => ?_⟩⟩
    rw [Nat.zero_add]
    exact h1.cell i (h3 i hi)
theorem Arr.lt {w : World} {lo hi : Nat} {v : Value} {n : Nat} {f : Nat → Int} (h : Arr w lo hi v n f) {k : Nat} (hk : v.ownBlock = some k) : lo ≤ k ∧ k < hi ∧ k < w.heap.size := by
  rcases h with ⟨rfl, rfl⟩ | ⟨g, c, rfl, hl, hh, hc, hm⟩
  · cases hk
  · cases hk
    exact ⟨hl, hh, hm.lt⟩
theorem Arr.below {w w' : World} {lo hi : Nat} {v : Value} {n : Nat} {f : Nat → Int} (h : Arr w lo hi v n f) (hb : Below w.heap.size w w') : Arr w' lo hi v n f := by
  refine h.imp id ?_
  rintro ⟨g, c, rfl, hl, hh, hc, cur, h1, h2⟩
  exact ⟨g, c, rfl, hl, hh, hc, cur, h1.below hb, h2⟩
theorem Arr.only {w w' : World} {lo hi : Nat} {v u : Value} {n : Nat} {f : Nat → Int} (h : Arr w lo hi v n f) (hb : Only u w w') (hu : Apart u v) : Arr w' lo hi v n f := by
  refine h.imp id ?_
  rintro ⟨g, c, rfl, hl, hh, hc, cur, h1, h2⟩
  exact ⟨g, c, rfl, hl, hh, hc, cur, (hb.block g h1.lt (fun e => hu g e rfl)).trans h1, h2⟩
theorem Arr.wide {w : World} {lo hi lo' hi' : Nat} {v : Value} {n : Nat} {f : Nat → Int} (h : Arr w lo hi v n f) (h1 : lo' ≤ lo) (h2 : hi ≤ hi') : Arr w lo' hi' v n f := by
  refine h.imp id ?_
  rintro ⟨g, c, rfl, hl, hh, r⟩
  exact ⟨g, c, rfl, Nat.le_trans h1 hl, Nat.lt_of_lt_of_le hh h2, r⟩
theorem Arr.apart {w w' : World} {lo hi lo' hi' : Nat} {v u : Value} {n k : Nat} {f h : Nat → Int} (h1 : Arr w lo hi v n f) (h2 : Arr w' lo' hi' u k h) (hd : hi ≤ lo' ∨ hi' ≤ lo) : Apart v u := by
  intro b e1 e2
  have a1 := h1.lt e1
  have a2 := h2.lt e2
  omega
theorem Only.below {w0 w w' : World} {lo hi : Nat} {v : Value} {n : Nat} {f : Nat → Int} {N : Nat} (ho : Only v w w') (h : Arr w lo hi v n f) (hN : N ≤ lo) (hb : Below N w0 w) (hs : N ≤ w.heap.size) : Below N w0 w' := by
  refine hb.trans ⟨ho.os, ho.tape, ho.output, ho.size, fun k hk => ho.block k (by omega) (fun e => ?_)⟩
  have := h.lt e
  omega
theorem Src.belowN {w w' : World} {a : Option Addr} {n : Nat} {f : Nat → Int} (h : Src w a n f) (hb : Below w.heap.size w w') : Src w' a n f := h.below hb
theorem arr_of_own {w : World} {lo g n : Nat} {f : Nat → Int} (h : Own w g n f) (hl : lo ≤ g) : Arr w lo w.heap.size (.slice (some ⟨g, 0, none⟩) n n) n f := .inr ⟨g, n, rfl, hl, h.lt, Nat.le_refl _, h⟩
/-- Two lists with the same numbers are told as equal. -/
theorem eqSrc_true {w : World} {a1 a2 : Option Addr} {n c1 c2 : Nat} {f h : Nat → Int} (h1 : Src w a1 n f) (h2 : Src w a2 n h) (hfh : ∀ i, i < n → f i = h i) (hn : n ≤ 1048576) :
    Calls Try.prog 24 #[.slice a1 n c1, .slice a2 n c2] w fun e w' => e = .returned (.bool true) ∧ Below w.heap.size w w' := by
  go_enter Try.func24, Try.ntmps24
  go_wp2
  go_loopw [5] (fun s wr => ∃ k : Nat, k ≤ n ∧ s = .int .i64 k ∧ Below w.heap.size w wr) (fun s _ => n - (intOf s).toNat)
  case atStart => exact ⟨0, Nat.zero_le _, rfl, Below.refl _ _⟩
  case round =>
    obtain ⟨k, hk, rfl, hbel⟩ := hrel
    by_cases hlt : k < n
    · have hlt' : (k : Int) < (n : Int) := by omega
      have hk0 : (0 : Int) ≤ (k : Int) := by omega
      rcases h1 with h0 | ⟨g1, o1, rfl, l1, r1⟩
      · omega
      rcases h2 with h0 | ⟨g2, o2, rfl, l2, r2⟩
      · omega
      have a0 := (hbel.cell (p := ⟨g1, o1 + k, none⟩) l1).trans (r1 k hlt)
      have a2 := (hbel.cell (p := ⟨g2, o2 + k, none⟩) l2).trans (r2 k hlt)
      rw [hfh k hlt] at a0
      go_wp2
      go_quiet (fail)
      go_wp2
      go_roundw
      case rel => exact ⟨k + 1, by omega, by go_num, below_drewN hbel _⟩
      case measure => simp [intOf]; omega
    · have hlt' : ¬ (k : Int) < (n : Int) := by omega
      go_wp2
      go_ret
      exact ⟨rfl, hbel⟩
theorem eqArr_true {w : World} {lo1 hi1 lo2 hi2 : Nat} {v1 v2 : Value} {n : Nat} {f : Nat → Int} (h1 : Arr w lo1 hi1 v1 n f) (h2 : Arr w lo2 hi2 v2 n f) (hn : n ≤ 1048576) :
    Calls Try.prog 24 #[v1, v2] w fun e w' => e = .returned (.bool true) ∧ Below w.heap.size w w' := by
  obtain ⟨a1, c1, rfl, s1⟩ := h1.src
  obtain ⟨a2, c2, rfl, s2⟩ := h2.src
  exact eqSrc_true s1 s2 (fun _ _ => rfl) hn
/-- Marks are written into a list of one's own. -/
theorem markArr_any {w : World} {lo hi : Nat} {v : Value} {n : Nat} {f : Nat → Int} (h : Arr w lo hi v n f) (hn : n ≤ 1048576) (x : Nat) (hx : x ≤ 10000000) :
    Calls Try.prog 25 #[v, .int .i64 (x : Int)] w fun e w' => e = .returned (.int .i64 ((x + n : Nat) : Int)) ∧ Arr w' lo hi v n (fun i => (x + i : Nat)) ∧ Only v w w' := by
  rcases h with ⟨rfl, rfl⟩ | ⟨g, c, rfl, hl, hh, hc, hm⟩
  · go_enter Try.func25, Try.ntmps25
    go_wp2
    go_loopw [1, 5] (fun s t wr => s = .int .i64 (x : Int) ∧ t = .int .i64 0 ∧ w = wr) (fun _ _ _ => 0)
    case atStart => exact ⟨rfl, rfl, rfl⟩
    case round =>
      obtain ⟨rfl, rfl, rfl⟩ := hrel
      go_wp2
      go_ret
      exact ⟨rfl, .inl ⟨rfl, rfl⟩, .of_below (Below.refl _ _)⟩
  · have m0 : Made w g c 0 (fun i => ((x + i : Nat) : Int)) := by
      obtain ⟨cur, h1, h2, -⟩ := hm
      exact ⟨cur, h1, h2, fun i hi => by omega⟩
    clear hm
    go_enter Try.func25, Try.ntmps25
    go_wp2
    go_loopw [1, 5] (fun s t wr => ∃ k : Nat, k ≤ n ∧ s = .int .i64 ((x + k : Nat) : Int) ∧ t = .int .i64 k ∧ Made wr g c k (fun i => ((x + i : Nat) : Int)) ∧ Kept g w wr) (fun _ t _ => n - (intOf t).toNat)
    case atStart => exact ⟨0, Nat.zero_le _, rfl, rfl, m0, Kept.refl _ _⟩
    case round =>
      clear m0
      obtain ⟨k, hk, rfl, rfl, hm, hK⟩ := hrel
      by_cases hlt : k < n
      · have hlt' : (k : Int) < (n : Int) := by omega
        have hn' : (n : Int) ≤ 1048576 := by omega
        obtain ⟨z0, y0⟩ := hm.open (show k < c by omega)
        have HM : Hid (Made wr g c k (fun i => ((x + i : Nat) : Int))) := hm
        clear hm
        obtain ⟨X, hX⟩ : ∃ X : Int, ((x + k : Nat) : Int) = X := ⟨_, rfl⟩
        have hX1 : 0 ≤ X ∧ X ≤ 20000000 := by omega
        rw [hX]
        go_wp2
        have hs := HM.out.set (show k < c by omega)
        simp only [hX] at hs
        refine ⟨⟨k + 1, by omega, ?_, by go_num, hs, hK.set _⟩, by simp [intOf]; omega⟩
        rw [← hX]
        congr 1
      · have hlt' : ¬ (k : Int) < (n : Int) := by omega
        obtain rfl : k = n := by omega
        go_wp2
        go_ret
        exact ⟨rfl, .inr ⟨g, c, rfl, hl, hh, hc, hm⟩, .of_kept hK⟩
theorem heldArr_any {w : World} {lo hi : Nat} {v : Value} {n : Nat} (x : Nat) (h : Arr w lo hi v n (fun i => (x + i : Nat))) (hn : n ≤ 1048576) (hx : x ≤ 10000000) :
    Calls Try.prog 26 #[v, .int .i64 (x : Int)] w fun e w' => e = .returned (.int .i64 ((x + n : Nat) : Int)) ∧ Below w.heap.size w w' := by
  obtain ⟨a, c, rfl, hs⟩ := h.src
  go_enter Try.func26, Try.ntmps26
  go_wp2
  go_loopw [1, 5] (fun s t wr => ∃ k : Nat, k ≤ n ∧ s = .int .i64 ((x + k : Nat) : Int) ∧ t = .int .i64 k ∧ Below w.heap.size w wr) (fun _ t _ => n - (intOf t).toNat)
  case atStart => exact ⟨0, Nat.zero_le _, rfl, rfl, Below.refl _ _⟩
  case round =>
    obtain ⟨k, hk, rfl, rfl, bW⟩ := hrel
    by_cases hlt : k < n
    · have hlt' : (k : Int) < (n : Int) := by omega
      have hn' : (n : Int) ≤ 1048576 := by omega
      rcases hs.below bW with h0 | ⟨g, o, rfl, l1, r1⟩
      · omega
      have c0 : wr.cell? ⟨g, o + k, none⟩ = some (.int .i64 ((x + k : Nat) : Int)) := r1 k hlt
      obtain ⟨X, hX⟩ : ∃ X : Int, ((x + k : Nat) : Int) = X := ⟨_, rfl⟩
      have hX1 : 0 ≤ X ∧ X ≤ 20000000 := by omega
      rw [hX] at c0 ⊢
      go_wp2
      refine ⟨⟨k + 1, by omega, ?_, by go_num, bW⟩, by simp [intOf]; omega⟩
      rw [← hX]
      congr 1
    · have hlt' : ¬ (k : Int) < (n : Int) := by omega
      obtain rfl : k = n := by omega
      go_wp2
      go_ret
      exact ⟨rfl, bW⟩
end Go.Proofs.Ytglkddhifpnniaa
