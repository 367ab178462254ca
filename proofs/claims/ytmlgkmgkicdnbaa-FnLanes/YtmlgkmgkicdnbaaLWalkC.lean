/-
  The drawing of numbers out of bytes, walked: what is drawn lies within its bounds; the cursor alone is written.
-/
import Derived.Test.YtmlgkmgkicdnbaaLWalkB
import Derived.Deep.QuietTactic
import Derived.BigQuiet
namespace Go.Proofs.Ytmlgkmgkicdnbaa
open Go.RowKit Fl

/-- Of what was there, block p alone may have turned. -/
structure Kept (p : Nat) (w w' : World) : Prop where
  os : w'.os = w.os
  tape : w'.tape = w.tape
  output : w'.output = w.output
  size : w.heap.size ≤ w'.heap.size
  block : ∀ k, k < w.heap.size → k ≠ p → w'.heap[k]? = w.heap[k]?

theorem Kept.refl (p : Nat) (w : World) : Kept p w w := ⟨rfl, rfl, rfl, Nat.le_refl _, fun _ _ _ => rfl⟩
theorem Kept.trans {p : Nat} {a b c : World} (h : Kept p a b) (k : Kept p b c) : Kept p a c :=
  ⟨k.os.trans h.os, k.tape.trans h.tape, k.output.trans h.output, Nat.le_trans h.size k.size, fun i hi hp => (k.block i (Nat.lt_of_lt_of_le hi h.size) hp).trans (h.block i hi hp)⟩
theorem Kept.of_below {p : Nat} {w w' : World} (h : Below w.heap.size w w') : Kept p w w' := ⟨h.os, h.tape, h.output, h.size, fun k hk _ => h.block k hk⟩
theorem Kept.set {p i : Nat} {w w' : World} (h : Kept p w w') (v : Value) : Kept p w (w'.setCell ⟨p, i, none⟩ v) :=
  h.trans ⟨rfl, rfl, rfl, by simp [World.setCell], fun k _ hk => Below.heap_setCell _ _ _ _ hk⟩
theorem Kept.drewN {p n : Nat} {w w' : World} (h : Kept p w w') : Kept p w (w'.drewN n) := h.trans ⟨rfl, rfl, rfl, Nat.le_refl _, fun _ _ _ => rfl⟩
/-- A block from N on alone has turned: below N all is as it was. -/
theorem Kept.below {p N : Nat} {w w' : World} (h : Kept p w w') (hp : N ≤ p) (hN : N ≤ w.heap.size) : Below N w w' :=
  ⟨h.os, h.tape, h.output, h.size, fun k hk => h.block k (by omega) (by omega)⟩
theorem Kept.cell {p b o : Nat} {w w' : World} (h : Kept p w w') (hb : b ≠ p) (hs : b < w.heap.size) : w'.cell? ⟨b, o, none⟩ = w.cell? ⟨b, o, none⟩ := World.cell?_of_block (w := w) (h.block b hs hb)
theorem Kept.frozen {p b o : Nat} {w w' : World} (h : Kept p w w') (hb : b ≠ p) (hs : b < w.heap.size) : w'.frozen? ⟨b, o, none⟩ = w.frozen? ⟨b, o, none⟩ := World.frozen?_of_block (w := w) (h.block b hs hb)

/-- The bytes of a slice: it is empty, or its cells can be read and lie in a block below p. -/
def Row (w : World) (p : Nat) (a : Option Addr) (len : Nat) : Prop :=
  len ≤ maxLen ∧ (len = 0 ∨ ∃ b off, a = some ⟨b, off, none⟩ ∧ b < p ∧ ∀ j, j < len → ∃ n : Int, 0 ≤ n ∧ n ≤ 255 ∧ w.cell? ⟨b, off + j, none⟩ = some (.int .u8 n))

theorem Row.kept {w w' : World} {p : Nat} {a : Option Addr} {len : Nat} (h : Row w p a len) (hk : Kept p w w') (hp : p ≤ w.heap.size) : Row w' p a len := by
  refine ⟨h.1, h.2.imp id ?_⟩
  rintro ⟨b, off, e, hb, hc⟩
  refine ⟨b, off, e, hb, fun j hj => ?_⟩
  obtain ⟨n, h0, h1, h2⟩ := hc j hj
  exact ⟨n, h0, h1, (hk.cell (by omega) (by omega)).trans h2⟩

/-- The cursor at block p over such a slice. -/
def Cur (w : World) (p : Nat) (a : Option Addr) (len cap : Nat) : Prop :=
  ∃ (i : Nat) (h : Int), i ≤ len ∧ w.heap[p]? = some (.cells #[.slice a len cap, .int .i64 i, .int .i64 h] 84) ∧ Row w p a len

theorem Cur.lt {w : World} {p : Nat} {a : Option Addr} {len cap : Nat} (h : Cur w p a len cap) : p < w.heap.size := by
  obtain ⟨i, x, _, hh, _⟩ := h
  exact (Array.getElem?_eq_some_iff.1 hh).1

theorem and255 (x : Int) : 0 ≤ bits .and .i64 x 255 ∧ bits .and .i64 x 255 ≤ 255 := by
  have hb : bits .and .i64 x 255 = IntKind.i64.wrap (BitVec.ofInt 64 x &&& BitVec.ofInt 64 255).toNat := rfl
  have h1 : (BitVec.ofInt 64 x &&& BitVec.ofInt 64 255).toNat ≤ 255 := by
    rw [BitVec.toNat_and]
    exact Nat.le_trans Nat.and_le_right (by decide)
  rw [hb, IntWalk.i64_left]
  unfold wrap64
  omega

theorem cur_set {w : World} {p : Nat} {s : Value} {i h : Int} {t : TypeId} (v : Value) (hh : w.heap[p]? = some (.cells #[s, .int .i64 i, .int .i64 h] t)) : (w.setCell ⟨p, 2, none⟩ v).heap[p]? = some (.cells #[s, .int .i64 i, v] t) := by
  simp [World.setCell, Array.getElem?_modify, hh]
theorem cur_set1 {w : World} {p : Nat} {s : Value} {i : Int} {u : Value} {t : TypeId} (v : Value) (hh : w.heap[p]? = some (.cells #[s, .int .i64 i, u] t)) : (w.setCell ⟨p, 1, none⟩ v).heap[p]? = some (.cells #[s, v, u] t) := by
  simp [World.setCell, Array.getElem?_modify, hh]

theorem byte_any {w : World} {p : Nat} {a : Option Addr} {len cap : Nat} (hc : Cur w p a len cap) :
    Calls Try.prog 49 #[.pointer (some ⟨p, 0, none⟩)] w fun e w' => ∃ x : Int, e = .returned (.int .i64 x) ∧ 0 ≤ x ∧ x ≤ 255 ∧ Kept p w w' ∧ Cur w' p a len cap := by
  have hlt := hc.lt
  obtain ⟨i, h, hi, hh, hr⟩ := hc
  have c0 : w.cell? ⟨p, 0, none⟩ = some (.slice a len cap) := by simp [World.cell?, hh]
  have c1 : w.cell? ⟨p, 1, none⟩ = some (.int .i64 i) := by simp [World.cell?, hh]
  have c2 : w.cell? ⟨p, 2, none⟩ = some (.int .i64 h) := by simp [World.cell?, hh]
  have f1 : w.frozen? ⟨p, 1, none⟩ = false := by simp [World.frozen?, hh]
  have f2 : w.frozen? ⟨p, 2, none⟩ = false := by simp [World.frozen?, hh]
  have hm := hr.1
  unfold maxLen at hm
  by_cases hlt2 : i < len
  · rcases hr.2 with h0 | ⟨b, off, rfl, hbp, hcell⟩
    · omega
    obtain ⟨n, n0, n1, hn⟩ := hcell i hlt2
    have hil : (i : Int) < (len : Int) := by omega
    have hne : b ≠ p := by omega
    have HH : Hid (w.heap[p]? = some (.cells #[.slice (some ⟨b, off, none⟩) len cap, .int .i64 i, .int .i64 h] 84)) := hh
    have HR : Hid (Row w p (some ⟨b, off, none⟩) len) := hr
    clear hh hr hcell
    go_enter Try.func49, Try.ntmps49
    go_wp2
    go_quiet (fail)
    go_wp2
    go_quiet (fail)
    go_wp2
    go_quiet (fail)
    go_wp2
    go_ret
    have ei : ((i + 1 : Nat) : Int) = (i : Int) + 1 := by omega
    exact ⟨_, rfl, (and255 _).1, (and255 _).2, ((Kept.set (Kept.refl _ _) _).set _).drewN, i + 1, _, by omega, (by rw [ei]; exact cur_set1 _ (cur_set _ HH.out)), HR.out.kept ((Kept.set (Kept.refl _ _) _).set _).drewN (by omega)⟩
  · have hil : ¬ (i : Int) < (len : Int) := by omega
    have HH : Hid (w.heap[p]? = some (.cells #[.slice a len cap, .int .i64 i, .int .i64 h] 84)) := hh
    have HR : Hid (Row w p a len) := hr
    clear hh hr hm
    go_enter Try.func49, Try.ntmps49
    go_wp2
    go_quiet (fail)
    go_wp2
    go_quiet (fail)
    go_wp2
    go_ret
    exact ⟨_, rfl, (and255 _).1, (and255 _).2, (Kept.set (Kept.refl _ _) _).drewN.drewN, i, _, hi, cur_set _ HH.out, HR.out.kept (Kept.set (Kept.refl _ _) _).drewN.drewN (by omega)⟩

/-- The cursor's state, and that since w0 its block alone has been written. -/
def Dr (w0 : World) (p : Nat) (a : Option Addr) (len cap : Nat) (w : World) : Prop := Hid (Kept p w0 w ∧ Cur w p a len cap)

theorem Dr.start {w : World} {p : Nat} {a : Option Addr} {len cap : Nat} (hc : Cur w p a len cap) : Dr w p a len cap w := ⟨Kept.refl _ _, hc⟩
theorem Cur.kept {w w' : World} {p : Nat} {a : Option Addr} {len cap : Nat} (hc : Cur w p a len cap) (hb : Below w.heap.size w w') : Cur w' p a len cap := by
  have := hc.lt
  obtain ⟨i, h, hi, hh, hr⟩ := hc
  exact ⟨i, h, hi, (hb.block p this).trans hh, hr.kept (.of_below hb) (by omega)⟩
/-- What makes memory and writes nothing that was there leaves the cursor alone. -/
theorem Dr.below {w0 w w' : World} {p : Nat} {a : Option Addr} {len cap : Nat} (h : Dr w0 p a len cap w) (hb : Below w.heap.size w w') : Dr w0 p a len cap w' := ⟨h.1.trans (.of_below hb), h.2.kept hb⟩
theorem Dr.from {w0 w1 w : World} {p : Nat} {a : Option Addr} {len cap : Nat} (h : Dr w1 p a len cap w) (hk : Kept p w0 w1) : Dr w0 p a len cap w := ⟨hk.trans h.1, h.2⟩

theorem byte_dr {w0 w : World} {p : Nat} {a : Option Addr} {len cap : Nat} (h : Dr w0 p a len cap w) :
    Calls Try.prog 49 #[.pointer (some ⟨p, 0, none⟩)] w fun e w' => ∃ x : Int, e = .returned (.int .i64 x) ∧ 0 ≤ x ∧ x ≤ 255 ∧ Dr w0 p a len cap w' :=
  (byte_any h.2).mono fun _ _ ⟨x, e, x0, x1, hk, hc⟩ => ⟨x, e, x0, x1, h.1.trans hk, hc⟩

/-- A number drawn below n: from 0 to n - 1, where n is above 0. -/
theorem below_dr {w0 w : World} {p : Nat} {a : Option Addr} {len cap : Nat} (hc : Dr w0 p a len cap w) (n : Int) (hn0 : 0 < n) (hn : n ≤ 1073741824) :
    Calls Try.prog 27 #[.pointer (some ⟨p, 0, none⟩), .int .i64 n] w fun e w' => ∃ x : Int, e = .returned (.int .i64 x) ∧ 0 ≤ x ∧ x < n ∧ Dr w0 p a len cap w' := by
  have h1 : ¬ n ≤ 0 := by omega
  have h2 : (n == 0) = false := by simp; omega
  by_cases h3 : n ≤ 256
  · go_enter Try.func27, Try.ntmps27
    go_wp2_with (go_at_call 49; refine (byte_dr hc).mono ?_; clear hc; rintro e w1 ⟨x, rfl, x0, x1, hc⟩)
    go_ret
    exact ⟨_, rfl, Int.emod_nonneg _ (by omega), Int.emod_lt_of_pos _ (by omega), hc⟩
  · go_enter Try.func27, Try.ntmps27
    go_wp2_with (go_at_call 49; refine (byte_dr hc).mono ?_; clear hc; rintro e w1 ⟨x, rfl, x0, x1, hc⟩)
    go_ret
    exact ⟨_, rfl, Int.emod_nonneg _ (by omega), Int.emod_lt_of_pos _ (by omega), hc⟩

/-- True once in n. -/
theorem once_dr {w0 w : World} {p : Nat} {a : Option Addr} {len cap : Nat} (hc : Dr w0 p a len cap w) (n : Int) (hn0 : 0 < n) (hn : n ≤ 1073741824) :
    Calls Try.prog 28 #[.pointer (some ⟨p, 0, none⟩), .int .i64 n] w fun e w' => ∃ b : Bool, e = .returned (.bool b) ∧ Dr w0 p a len cap w' := by
  go_enter Try.func28, Try.ntmps28
  go_wp2_with (go_at_call 27; refine (below_dr hc n hn0 hn).mono ?_; clear hc; rintro e w1 ⟨x, rfl, x0, x1, hc⟩)
  go_ret
  exact ⟨_, rfl, hc⟩

/-- A number from lo to hi. -/
theorem from_dr {w0 w : World} {p : Nat} {a : Option Addr} {len cap : Nat} (hc : Dr w0 p a len cap w) (lo hi : Int) (h0 : lo ≤ hi) (h1 : -1000 ≤ lo) (h2 : hi ≤ 1000) :
    Calls Try.prog 61 #[.pointer (some ⟨p, 0, none⟩), .int .i64 lo, .int .i64 hi] w fun e w' => ∃ x : Int, e = .returned (.int .i64 x) ∧ lo ≤ x ∧ x ≤ hi ∧ Dr w0 p a len cap w' := by
  go_enter Try.func61, Try.ntmps61
  go_wp2_with (go_at_call 27; refine (below_dr hc (hi - lo + 1) (by omega) (by omega)).mono ?_; clear hc; rintro e w1 ⟨x, rfl, x0, x1, hc⟩)
  go_ret
  exact ⟨_, rfl, by omega, by omega, hc⟩

end Go.Proofs.Ytmlgkmgkicdnbaa
