/-
  Texts, items and data: laid, sized and taken over: walked.
-/
import Derived.Test.YtdhfoekfejcceaaD16a
import Derived.Test.YtdhfoekfejcceaaIa
namespace Go.Proofs.Ytdhfoekfejcceaa
open Go.RowKit

def Strs (w : World) (b o n : Nat) (f : Nat → ByteArray) : Prop := ∀ i, i < n → w.cell? ⟨b, o + i, none⟩ = some (.string (f i))
/-- A list of texts. -/
def StS (w : World) (a : Option Addr) (n : Nat) (f : Nat → ByteArray) : Prop := n = 0 ∨ ∃ b o, a = some ⟨b, o, none⟩ ∧ b < w.heap.size ∧ Strs w b o n f
theorem StS.below {w w' : World} {a : Option Addr} {n : Nat} {f : Nat → ByteArray} (h : StS w a n f) (hb : Below w.heap.size w w') : StS w' a n f := by
  refine h.imp id ?_
  rintro ⟨b, o, e, h1, h2⟩
  exact ⟨b, o, e, Nat.lt_of_lt_of_le h1 hb.size, fun i hi => (hb.cell (p := ⟨b, o + i, none⟩) h1).trans (h2 i hi)⟩
def szAll (n : Nat) (f : Nat → ByteArray) : Prop := ∀ i, i < n → (f i).size ≤ maxLen
/-- N items lie in block b from o on. -/
structure Itm (w : World) (b o N : Nat) (nm : Nat → ByteArray) (a : Nat → Option Addr) (n c : Nat → Nat) (rw : Nat → Int) (f : Nat → Nat → ByteArray) : Prop where
  lt : b < w.heap.size
  c0 : ∀ i, i < N → w.cell? ⟨b, o + i * 3, none⟩ = some (.string (nm i))
  c1 : ∀ i, i < N → w.cell? ⟨b, o + i * 3 + 1, none⟩ = some (.slice (a i) (n i) (c i))
  c2 : ∀ i, i < N → w.cell? ⟨b, o + i * 3 + 2, none⟩ = some (.int .i64 (rw i))
  src : ∀ i, i < N → StS w (a i) (n i) (f i)
theorem Itm.below {w w' : World} {b o N : Nat} {nm : Nat → ByteArray} {a : Nat → Option Addr} {n c : Nat → Nat} {rw : Nat → Int} {f : Nat → Nat → ByteArray} (h : Itm w b o N nm a n c rw f) (hb : Below w.heap.size w w') : Itm w' b o N nm a n c rw f :=
  ⟨Nat.lt_of_lt_of_le h.lt hb.size, fun i hi => (hb.cell (p := ⟨b, _, none⟩) h.lt).trans (h.c0 i hi), fun i hi => (hb.cell (p := ⟨b, _, none⟩) h.lt).trans (h.c1 i hi), fun i hi => (hb.cell (p := ⟨b, _, none⟩) h.lt).trans (h.c2 i hi), fun i hi => (h.src i hi).below hb⟩
/-- A list of items. -/
def ItS (w : World) (p : Option Addr) (N : Nat) (nm : Nat → ByteArray) (a : Nat → Option Addr) (n c : Nat → Nat) (rw : Nat → Int) (f : Nat → Nat → ByteArray) : Prop := N = 0 ∨ ∃ b o, p = some ⟨b, o, none⟩ ∧ Itm w b o N nm a n c rw f
theorem ItS.below {w w' : World} {p : Option Addr} {N : Nat} {nm : Nat → ByteArray} {a : Nat → Option Addr} {n c : Nat → Nat} {rw : Nat → Int} {f : Nat → Nat → ByteArray} (h : ItS w p N nm a n c rw f) (hb : Below w.heap.size w w') : ItS w' p N nm a n c rw f := by
  refine h.imp id ?_
  rintro ⟨b, o, e, h1⟩
  exact ⟨b, o, e, h1.below hb⟩
set_option maxRecDepth 100000 in
set_option maxHeartbeats 1600000 in
theorem szStringS_any {w : World} {a : Option Addr} {n c : Nat} {f : Nat → ByteArray} (hS : StS w a n f) (hn : n ≤ maxLen) (hf : szAll n f) (L : Int) (hL : 0 ≤ L ∧ L ≤ 1048576) :
    Calls Try.prog 55 #[.slice a n c, .int .i64 L] w fun e w' => ∃ r : Int, e = .returned (.int .i64 r) ∧ (r = -1 ∨ (0 ≤ r ∧ r ≤ L ∧ n ≤ 1048576)) ∧ w = w' := by
  unfold maxLen at hn
  by_cases h1 : L - (n : Int) < 0
  · go_enter Try.func55, Try.ntmps55
    go_wp2
    go_ret
    exact ⟨_, rfl, .inl rfl, rfl⟩
  have hn' : (n : Int) ≤ 1048576 := by omega
  go_enter Try.func55, Try.ntmps55
  go_wp2
  go_loopw [1, 5] (fun s u wr => ∃ (k : Nat) (r : Int), k ≤ n ∧ s = .int .i64 r ∧ u = .int .i64 (k : Int) ∧ 0 ≤ r ∧ r ≤ L ∧ w = wr) (fun _ u _ => n - (intOf u).toNat)
  case atStart => exact ⟨0, _, Nat.zero_le _, rfl, rfl, by omega, by omega, rfl⟩
  case round =>
    obtain ⟨k, r, hk, rfl, rfl, hr0, hr1, rfl⟩ := hrel
    by_cases hlt : k < n
    · have hlt' : (k : Int) < (n : Int) := by omega
      rcases hS with h0 | ⟨b, o, rfl, hb, hc⟩
      · omega
      have c0 := hc k hlt
      have fk := hf k hlt
      unfold maxLen at fk
      have fk' : ((f k).size : Int) ≤ 9223372036854775807 := by omega
      clear hc hf
      by_cases h2 : r - ((f k).size : Int) < 0
      · go_wp2
        go_ret
        exact ⟨_, rfl, .inl rfl, rfl⟩
      · go_wp2
        exact ⟨⟨k + 1, _, by omega, rfl, by go_num, by omega, by omega, by trivial⟩, by simp [intOf]; omega⟩
    · have hlt' : ¬ (k : Int) < (n : Int) := by omega
      go_wp2
      go_ret
      exact ⟨_, rfl, .inr ⟨hr0, hr1, by omega⟩, rfl⟩
set_option maxRecDepth 100000 in
set_option maxHeartbeats 1600000 in
theorem szItem_any {w : World} {a : Option Addr} {n c : Nat} {f : Nat → ByteArray} (s : ByteArray) (rw : Int) (hS : StS w a n f) (hn : n ≤ maxLen) (hf : szAll n f) (hs : s.size ≤ maxLen) (L : Int) (hL : 0 ≤ L ∧ L ≤ 1048576) :
    Calls Try.prog 38 #[.agg #[.string s, .slice a n c, .int .i64 rw], .int .i64 L] w fun e w' => ∃ r : Int, e = .returned (.int .i64 r) ∧ (r = -1 ∨ (0 ≤ r ∧ r ≤ L ∧ n ≤ 1048576)) ∧ Below w.heap.size w w' := by
  unfold maxLen at hs
  have hs' : (s.size : Int) ≤ 9223372036854775807 := by omega
  obtain ⟨W1, hW1, a1, b1, -⟩ := boxed w 63 #[.string s, .slice a n c, .int .i64 rw]
  obtain ⟨c0, c1, c2, -⟩ := a1.open3
  have S1 := hS.below b1
  clear a1 hS
  by_cases h1 : L - (s.size : Int) < 0
  · go_enter Try.func38, Try.ntmps38
    go_wp2
    go_ret
    exact ⟨_, rfl, .inl rfl, b1⟩
  go_enter Try.func38, Try.ntmps38
  go_wp2_with fail
  refine (szStringS_any S1 hn hf _ (by omega)).mono ?_
  rintro e w2 ⟨r, rfl, hr, rfl⟩
  rcases hr with rfl | ⟨r0, r1, r2⟩
  · go_wp2
    go_ret
    exact ⟨_, rfl, .inl rfl, b1⟩
  · have hr3 : ¬ r < 0 := by omega
    go_wp2
    go_ret
    exact ⟨_, rfl, .inr ⟨r0, by omega, r2⟩, b1⟩
set_option maxRecDepth 100000 in
set_option maxHeartbeats 1600000 in
theorem szItemS_any {w : World} {p : Option Addr} {N cap : Nat} {nm : Nat → ByteArray} {a : Nat → Option Addr} {n c : Nat → Nat} {rw : Nat → Int} {f : Nat → Nat → ByteArray} (hS : ItS w p N nm a n c rw f) (hN : N ≤ maxLen) (hn : ∀ i, i < N → n i ≤ maxLen) (hm : szAll N nm) (hf : ∀ i, i < N → szAll (n i) (f i)) (L : Int) (hL : 0 ≤ L ∧ L ≤ 1048576) :
    Calls Try.prog 19 #[.slice p N cap, .int .i64 L] w fun e w' => ∃ r : Int, e = .returned (.int .i64 r) ∧ (r = -1 ∨ (0 ≤ r ∧ r ≤ L ∧ N ≤ 1048576 ∧ ∀ i, i < N → n i ≤ 1048576)) ∧ Below w.heap.size w w' := by
  unfold maxLen at hN
  by_cases h1 : L - (N : Int) < 0
  · go_enter Try.func19, Try.ntmps19
    go_wp2
    go_ret
    exact ⟨_, rfl, .inl rfl, Below.refl _ _⟩
  have hn' : (N : Int) ≤ 1048576 := by omega
  go_enter Try.func19, Try.ntmps19
  go_wp2
  go_loopw [1, 5] (fun s u wr => ∃ (k : Nat) (r : Int), k ≤ N ∧ s = .int .i64 r ∧ u = .int .i64 (k : Int) ∧ 0 ≤ r ∧ r ≤ L ∧ (∀ i, i < k → n i ≤ 1048576) ∧ Below w.heap.size w wr) (fun _ u _ => N - (intOf u).toNat)
  case atStart => exact ⟨0, _, Nat.zero_le _, rfl, rfl, by omega, by omega, fun i hi => by omega, Below.refl _ _⟩
  case round =>
    obtain ⟨k, r, hk, rfl, rfl, hr0, hr1, hall, B⟩ := hrel
    have HA : Hid (∀ i, i < k → n i ≤ 1048576) := hall
    clear hall
    by_cases hlt : k < N
    · have hlt' : (k : Int) < (N : Int) := by omega
      rcases hS.below B with h0 | ⟨b, o, rfl, I⟩
      · omega
      have c0 := I.c0 k hlt
      have c1 := I.c1 k hlt
      have c2 := I.c2 k hlt
      have S := szItem_any (c := c k) (nm k) (rw k) (I.src k hlt) (hn k hlt) (hf k hlt) (hm k hlt) r (by omega)
      have hnk : Hid (n k ≤ maxLen) := hn k hlt
      clear I
      go_wp2_with fail
      refine S.mono ?_
      rintro e w3 ⟨r2, rfl, hr, b3⟩
      replace B := B.trans (b3.mono B.size)
      clear c0 c1 c2 b3 S
      rcases hr with rfl | ⟨q0, q1, q2⟩
      · go_wp2
        go_ret
        exact ⟨_, rfl, .inl rfl, B⟩
      · have hr3 : ¬ r2 < 0 := by omega
        have H2 : Hid (n k ≤ 1048576) := q2
        clear q2
        go_wp2
        refine ⟨⟨k + 1, _, by omega, rfl, by go_num, by omega, by omega, fun i hi => ?_, B⟩, by simp [intOf]; omega⟩
        by_cases e : i = k
        · rw [e]; exact H2.out
        · exact HA.out i (by omega)
    · have hlt' : ¬ (k : Int) < (N : Int) := by omega
      obtain rfl : k = N := by omega
      go_wp2
      go_ret
      exact ⟨_, rfl, .inr ⟨hr0, hr1, by omega, HA.out⟩, B⟩
set_option maxRecDepth 100000 in
set_option maxHeartbeats 1600000 in
theorem szData_any {w : World} {p q : Option Addr} {N cap M cap2 : Nat} {s : ByteArray} {nm : Nat → ByteArray} {a : Nat → Option Addr} {n c : Nat → Nat} {rw : Nat → Int} {f : Nat → Nat → ByteArray} (hs : s.size ≤ maxLen) (hS : ItS w p N nm a n c rw f) (hN : N ≤ maxLen) (hn : ∀ i, i < N → n i ≤ maxLen) (hm : szAll N nm) (hf : ∀ i, i < N → szAll (n i) (f i)) (hM : M ≤ maxLen) :
    Calls Try.prog 6 #[.agg #[.string s, .slice p N cap, .slice q M cap2], .int .i64 1048576] w fun e w' => ∃ r : Int, e = .returned (.int .i64 r) ∧ (r = -1 ∨ (0 ≤ r ∧ M ≤ 1048576 ∧ N ≤ 1048576 ∧ ∀ i, i < N → n i ≤ 1048576)) ∧ Below w.heap.size w w' := by
  unfold maxLen at hs
  have hs' : (s.size : Int) ≤ 9223372036854775807 := by omega
  obtain ⟨W1, hW1, a1, b1, -⟩ := boxed w 25 #[.string s, .slice p N cap, .slice q M cap2]
  obtain ⟨c0, c1, c2, -⟩ := a1.open3
  have S1 := hS.below b1
  clear hS
  by_cases h1 : 1048576 - (s.size : Int) < 0
  · go_enter Try.func6, Try.ntmps6
    go_wp2
    go_ret
    exact ⟨_, rfl, .inl rfl, b1⟩
  go_enter Try.func6, Try.ntmps6
  go_wp2_with fail
  refine (szItemS_any S1 hN hn hm hf _ (by omega)).mono ?_
  rintro e w2 ⟨r, rfl, hr, b2⟩
  replace a1 := a1.below b2
  have B2 := b1.trans (b2.mono b1.size)
  clear c0 c1 c2
  obtain ⟨c0, c1, c2, -⟩ := a1.open3
  rcases hr with rfl | ⟨r0, r1, r2, r3⟩
  · go_wp2
    go_ret
    exact ⟨_, rfl, .inl rfl, B2⟩
  · have hr3 : ¬ r < 0 := by omega
    have H3 : Hid (∀ i, i < N → n i ≤ 1048576) := r3
    clear r3 hn hm hf
    go_wp2_with fail
    refine (szI_any _ _ _ r _ hM (by omega)).mono ?_
    rintro e w3 ⟨rfl, rfl⟩
    by_cases h2 : r < (M : Int)
    · rw [if_pos h2]
      go_wp2
      go_ret
      exact ⟨_, rfl, .inl rfl, B2⟩
    · rw [if_neg h2]
      have h3 : ¬ r - (M : Int) < 0 := by omega
      go_wp2
      go_ret
      exact ⟨_, rfl, .inr ⟨by omega, by omega, r2, H3.out⟩, B2⟩
end Go.Proofs.Ytdhfoekfejcceaa
