/-
  The draws' cursor, walked; bytes that came in.
-/
import Derived.Test.YtnkmiljnilmicaaRows
import Derived.Test.YtnkmiljnilmicaaKit
import Derived.Deep.AppendLies
import Derived.ProofKit
import Derived.OpenShut
import Derived.Laws.BitsAllLaws
import Derived.Laws.Tables
namespace Go.Proofs.Ytnkmiljnilmicaa
open Go.RowKit

/-- The bytes of a slice: it is empty, or its cells can be read and lie in a block below p. -/
def Row (w : World) (p : Nat) (a : Option Addr) (len : Nat) : Prop :=
  len ≤ maxLen ∧ (len = 0 ∨ ∃ b off, a = some ⟨b, off, none⟩ ∧ b < p ∧ ∀ j, j < len → ∃ n : Int, 0 ≤ n ∧ n ≤ 255 ∧ w.cell? ⟨b, off + j, none⟩ = some (.int .u8 n))

theorem Row.kept {w w' : World} {p : Nat} {a : Option Addr} {len : Nat} (h : Row w p a len) (hk : Kept p w w') (hp : p ≤ w.heap.size) : Row w' p a len := by
  refine ⟨h.1, h.2.imp id ?_⟩
  rintro ⟨b, off, e, hb, hc⟩
  refine ⟨b, off, e, hb, fun j hj => ?_⟩
  obtain ⟨n, h0, h1, h2⟩ := hc j hj
  exact ⟨n, h0, h1, (hk.cell (by omega) (by omega)).trans h2⟩

/-- The cursor at block p over such a slice. -/
def Cur (w : World) (p : Nat) (a : Option Addr) (len cap : Nat) : Prop :=
  ∃ (i : Nat) (h : Int), i ≤ len ∧ w.heap[p]? = some (.cells #[.slice a len cap, .int .i64 i, .int .i64 h] 52) ∧ Row w p a len

theorem Cur.lt {w : World} {p : Nat} {a : Option Addr} {len cap : Nat} (h : Cur w p a len cap) : p < w.heap.size := by
  obtain ⟨i, x, _, hh, _⟩ := h
  exact (Array.getElem?_eq_some_iff.1 hh).1

theorem and255 (x : Int) : 0 ≤ bits .and .i64 x 255 ∧ bits .and .i64 x 255 ≤ 255 := by
  have hb : bits .and .i64 x 255 = IntKind.i64.wrap (BitVec.ofInt 64 x &&& BitVec.ofInt 64 255).toNat := rfl
  have h1 : (BitVec.ofInt 64 x &&& BitVec.ofInt 64 255).toNat ≤ 255 := by
    rw [BitVec.toNat_and]
    exact Nat.le_trans Nat.and_le_right (by decide)
  rw [hb, IntWalk.i64_left]
  unfold wrap64
  omega

theorem cur_set {w : World} {p : Nat} {s : Value} {i h : Int} {t : TypeId} (v : Value) (hh : w.heap[p]? = some (.cells #[s, .int .i64 i, .int .i64 h] t)) : (w.setCell ⟨p, 2, none⟩ v).heap[p]? = some (.cells #[s, .int .i64 i, v] t) := by
  simp [World.setCell, Array.getElem?_modify, hh]
theorem cur_set1 {w : World} {p : Nat} {s : Value} {i : Int} {u : Value} {t : TypeId} (v : Value) (hh : w.heap[p]? = some (.cells #[s, .int .i64 i, u] t)) : (w.setCell ⟨p, 1, none⟩ v).heap[p]? = some (.cells #[s, v, u] t) := by
  simp [World.setCell, Array.getElem?_modify, hh]

theorem byte_any {w : World} {p : Nat} {a : Option Addr} {len cap : Nat} (hc : Cur w p a len cap) :
    Calls Try.prog 27 #[.pointer (some ⟨p, 0, none⟩)] w fun e w' => ∃ x : Int, e = .returned (.int .i64 x) ∧ 0 ≤ x ∧ x ≤ 255 ∧ Kept p w w' ∧ Cur w' p a len cap := by
  have hlt := hc.lt
  obtain ⟨i, h, hi, hh, hr⟩ := hc
  have c0 : w.cell? ⟨p, 0, none⟩ = some (.slice a len cap) := by simp [World.cell?, hh]
  have c1 : w.cell? ⟨p, 1, none⟩ = some (.int .i64 i) := by simp [World.cell?, hh]
  have c2 : w.cell? ⟨p, 2, none⟩ = some (.int .i64 h) := by simp [World.cell?, hh]
  have f1 : w.frozen? ⟨p, 1, none⟩ = false := by simp [World.frozen?, hh]
  have f2 : w.frozen? ⟨p, 2, none⟩ = false := by simp [World.frozen?, hh]
  have hm := hr.1
  unfold maxLen at hm
  by_cases hlt2 : i < len
  · rcases hr.2 with h0 | ⟨b, off, rfl, hbp, hcell⟩
    · omega
    obtain ⟨n, n0, n1, hn⟩ := hcell i hlt2
    have hil : (i : Int) < (len : Int) := by omega
    have hne : b ≠ p := by omega
    have HH : Hid (w.heap[p]? = some (.cells #[.slice (some ⟨b, off, none⟩) len cap, .int .i64 i, .int .i64 h] 52)) := hh
    have HR : Hid (Row w p (some ⟨b, off, none⟩) len) := hr
    clear hh hr hcell
    go_enter Try.func27, Try.ntmps27
    go_wp2
    go_quiet (fail)
    go_wp2
    go_quiet (fail)
    go_wp2
    go_quiet (fail)
    go_wp2
    go_ret
    have ei : ((i + 1 : Nat) : Int) = (i : Int) + 1 := by omega
    exact ⟨_, rfl, (and255 _).1, (and255 _).2, ((Kept.set (Kept.refl _ _) _).set _).drewN, i + 1, _, by omega, (by rw [ei]; exact cur_set1 _ (cur_set _ HH.out)), HR.out.kept ((Kept.set (Kept.refl _ _) _).set _).drewN (by omega)⟩
  · have hil : ¬ (i : Int) < (len : Int) := by omega
    have HH : Hid (w.heap[p]? = some (.cells #[.slice a len cap, .int .i64 i, .int .i64 h] 52)) := hh
    have HR : Hid (Row w p a len) := hr
    clear hh hr hm
    go_enter Try.func27, Try.ntmps27
    go_wp2
    go_quiet (fail)
    go_wp2
    go_quiet (fail)
    go_wp2
    go_ret
    exact ⟨_, rfl, (and255 _).1, (and255 _).2, (Kept.set (Kept.refl _ _) _).drewN.drewN, i, _, hi, cur_set _ HH.out, HR.out.kept (Kept.set (Kept.refl _ _) _).drewN.drewN (by omega)⟩

/-- The cursor's state, and that since w0 its block alone has been written. -/
def Dr (w0 : World) (p : Nat) (a : Option Addr) (len cap : Nat) (w : World) : Prop := Hid (Kept p w0 w ∧ Cur w p a len cap)

theorem Dr.start {w : World} {p : Nat} {a : Option Addr} {len cap : Nat} (hc : Cur w p a len cap) : Dr w p a len cap w := ⟨Kept.refl _ _, hc⟩
theorem Cur.kept {w w' : World} {p : Nat} {a : Option Addr} {len cap : Nat} (hc : Cur w p a len cap) (hb : Below w.heap.size w w') : Cur w' p a len cap := by
  have := hc.lt
  obtain ⟨i, h, hi, hh, hr⟩ := hc
  exact ⟨i, h, hi, (hb.block p this).trans hh, hr.kept (.of_below hb) (by omega)⟩
/-- What makes memory and writes nothing that was there leaves the cursor alone. -/
theorem Dr.below {w0 w w' : World} {p : Nat} {a : Option Addr} {len cap : Nat} (h : Dr w0 p a len cap w) (hb : Below w.heap.size w w') : Dr w0 p a len cap w' := ⟨h.1.trans (.of_below hb), h.2.kept hb⟩
theorem Dr.from {w0 w1 w : World} {p : Nat} {a : Option Addr} {len cap : Nat} (h : Dr w1 p a len cap w) (hk : Kept p w0 w1) : Dr w0 p a len cap w := ⟨hk.trans h.1, h.2⟩

theorem byte_dr {w0 w : World} {p : Nat} {a : Option Addr} {len cap : Nat} (h : Dr w0 p a len cap w) :
    Calls Try.prog 27 #[.pointer (some ⟨p, 0, none⟩)] w fun e w' => ∃ x : Int, e = .returned (.int .i64 x) ∧ 0 ≤ x ∧ x ≤ 255 ∧ Dr w0 p a len cap w' :=
  (byte_any h.2).mono fun _ _ ⟨x, e, x0, x1, hk, hc⟩ => ⟨x, e, x0, x1, h.1.trans hk, hc⟩

/-- A number drawn below n: from 0 to n - 1, where n is above 0. -/
theorem below_dr {w0 w : World} {p : Nat} {a : Option Addr} {len cap : Nat} (hc : Dr w0 p a len cap w) (n : Int) (hn0 : 0 < n) (hn : n ≤ 1073741824) :
    Calls Try.prog 15 #[.pointer (some ⟨p, 0, none⟩), .int .i64 n] w fun e w' => ∃ x : Int, e = .returned (.int .i64 x) ∧ 0 ≤ x ∧ x < n ∧ Dr w0 p a len cap w' := by
  have h1 : ¬ n ≤ 0 := by omega
  have h2 : (n == 0) = false := by simp; omega
  by_cases h3 : n ≤ 256
  · go_enter Try.func15, Try.ntmps15
    go_wp2_with (go_at_call 27; refine (byte_dr hc).mono ?_; clear hc; rintro e w1 ⟨x, rfl, x0, x1, hc⟩)
    go_ret
    exact ⟨_, rfl, Int.emod_nonneg _ (by omega), Int.emod_lt_of_pos _ (by omega), hc⟩
  · go_enter Try.func15, Try.ntmps15
    go_wp2_with (go_at_call 27; refine (byte_dr hc).mono ?_; clear hc; rintro e w1 ⟨x, rfl, x0, x1, hc⟩)
    go_ret
    exact ⟨_, rfl, Int.emod_nonneg _ (by omega), Int.emod_lt_of_pos _ (by omega), hc⟩

/-- True once in n. -/
theorem once_dr {w0 w : World} {p : Nat} {a : Option Addr} {len cap : Nat} (hc : Dr w0 p a len cap w) (n : Int) (hn0 : 0 < n) (hn : n ≤ 1073741824) :
    Calls Try.prog 16 #[.pointer (some ⟨p, 0, none⟩), .int .i64 n] w fun e w' => ∃ b : Bool, e = .returned (.bool b) ∧ Dr w0 p a len cap w' := by
  go_enter Try.func16, Try.ntmps16
  go_wp2_with (go_at_call 15; refine (below_dr hc n hn0 hn).mono ?_; clear hc; rintro e w1 ⟨x, rfl, x0, x1, hc⟩)
  go_ret
  exact ⟨_, rfl, hc⟩

theorem new_any {w : World} {a : Option Addr} {len cap : Nat} (hr : Row w w.heap.size a len) :
    Calls Try.prog 14 #[.slice a len cap] w fun e w' => e = .returned (.pointer (some ⟨w.heap.size, 0, none⟩)) ∧ Below w.heap.size w w' ∧ Cur w' w.heap.size a len cap := by
  have hm := hr.1
  have HR : Hid (Row w w.heap.size a len) := hr
  clear hr
  unfold maxLen at hm
  have hb : ∀ (s : Option Addr) (l c : Nat) (h : Int) (w : World), (Instr.build 52 #[(0, .slice s l c), (2, .int .i64 h)]).run Try.prog w = .ok (.agg #[.slice s l c, .int .i64 0, .int .i64 h]) w := fun s l c h w => run_build w 52 _ _ (by kernel_rfl)
  go_enter Try.func14, Try.ntmps14
  go_wp2
  go_loop [3, 4] (fun h i => ∃ (k : Nat) (z : Int), k ≤ len ∧ i = .int .i64 k ∧ h = .int .i64 z) (fun _ i => len - (intOf i).toNat)
  case atStart => exact ⟨0, _, Nat.zero_le _, rfl, rfl⟩
  case round =>
    obtain ⟨k, z, hk, rfl, rfl⟩ := hrel
    by_cases hlt : k < len
    · rcases HR.out.2 with h0 | ⟨b, off, rfl, hbp, hcell⟩
      · omega
      obtain ⟨n, n0, n1, hn⟩ := hcell k hlt
      clear hcell
      have hlt' : (k : Int) < (len : Int) := by omega
      go_wp2
      go_round
      case rel => exact ⟨k + 1, _, by omega, by go_num, rfl⟩
      case measure => simp [intOf]; omega
    · go_wp2
      go_ret
      have hbl : Below w.heap.size w (w.alloc (.cells #[.slice a len cap, .int .i64 0, .int .i64 z] 52)) := (Below.refl _ _).alloc (Nat.le_refl _) _
      exact ⟨rfl, hbl, 0, z, Nat.zero_le _, heap_alloc_new _ _, HR.out.kept (.of_below hbl) (Nat.le_refl _)⟩

theorem big_any (a : Option Addr) (len cap : Nat) (w : World) (hm : len ≤ maxLen) : Calls Try.prog 5 #[.slice a len cap] w fun e w' => e = .returned (.bool (decide (1048576 < len))) ∧ w = w' := by
  unfold maxLen at hm
  by_cases h : (1048576 : Int) < (len : Int)
  · have e : decide (1048576 < len) = true := by simp; omega
    rw [e]
    go_enter Try.func5, Try.ntmps5
    go_wp2
    go_ret
    exact ⟨rfl, rfl⟩
  · have e : decide (1048576 < len) = false := by simp; omega
    rw [e]
    go_enter Try.func5, Try.ntmps5
    go_wp2
    go_ret
    exact ⟨rfl, rfl⟩

theorem Dr.alloc {w0 w : World} {p : Nat} {a : Option Addr} {len cap : Nat} (h : Dr w0 p a len cap w) (o : Obj) : Dr w0 p a len cap (w.alloc o) := h.below ((Below.refl _ _).alloc (Nat.le_refl _) _)

open Go.ChangeShapes Go.WideShapes Go.ChangeAt in
theorem row_of {w : World} {a : Option Addr} {len cap : Nat} {zs : List Int} (h : IsRow .u8 w a len cap zs) : Row w w.heap.size a len := by
  rcases h with ⟨rfl, rfl, rfl, rfl⟩ | ⟨x, rfl, hl, hm, hz, hcell, hwz⟩
  · exact ⟨Nat.zero_le _, .inl rfl⟩
  · refine ⟨Nat.le_trans hl hm, ?_⟩
    by_cases h0 : len = 0
    · exact .inl h0
    · obtain ⟨b, off, spot⟩ := x
      have hc := hcell 0 (by omega)
      have hspot : spot = none := by simpa [Addr.add] using World.cell?_spot hc
      subst hspot
      refine .inr ⟨b, off, rfl, ?_, fun j hj => ?_⟩
      · refine Nat.lt_of_not_le fun hb => ?_
        have : w.heap[b]? = none := Array.getElem?_eq_none hb
        simp [Addr.add, World.cell?, this] at hc
      · have hj' : j < zs.length := by omega
        have hb := range_u8 hwz j
        refine ⟨zs[j]?.getD 0, hb.1, hb.2, ?_⟩
        have hcj := hcell j hj'
        by_cases e : j = 0
        · subst e; simpa [Addr.add] using hcj
        · simpa [Addr.add, e] using hcj

end Go.Proofs.Ytnkmiljnilmicaa
