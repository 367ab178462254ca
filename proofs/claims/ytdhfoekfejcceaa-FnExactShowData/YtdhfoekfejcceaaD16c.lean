/-
  Texts, items and data taken over: walked.
-/
import Derived.Test.YtdhfoekfejcceaaD16b
namespace Go.Proofs.Ytdhfoekfejcceaa
open Go.RowKit

theorem infoStr : (Try.prog.info? 9).map (fun i => (i.zero, i.size, i.bytes)) = some (some (.string ⟨#[]⟩), 1, 16) := by kernel_rfl
theorem make_strs (M : Nat) (hM : M ≤ 1048576) : ∃ C : Array Value, C.size = M ∧ ∀ w, (Instr.makeSlice 35 (.int .i64 (M : Int)) (.int .i64 (M : Int))).run Try.prog w = .ok (.slice (some ⟨w.heap.size, 0, none⟩) M M) (w.alloc (.cells C 9)) := by
  obtain ⟨i0, hi0, hz0, hz1, hz2⟩ := info_parts infoStr
  refine ⟨madeCells (Value.string ⟨#[]⟩).cells M, by simp [madeCells], fun w => ?_⟩
  have := run_make (P := Try.prog) w 35 9 i0 _ Try.underlying35 hi0 hz0 .i64 .i64 (M : Int) (M : Int) (by omega) (by omega) (by rw [hz2]; omega) (by omega)
  rw [this, hz1]
  simp
/-- The list of texts that is being made. -/
def MadeS (w : World) (g n k : Nat) (f : Nat → ByteArray) : Prop :=
  ∃ cur : Array Value, At 9 w g cur ∧ cur.size = n ∧ ∀ i, i < k → cur[i]? = some (.string (f i))
theorem MadeS.open {w : World} {g n k : Nat} {f : Nat → ByteArray} (h : MadeS w g n k f) (hk : k < n) : w.cell? ⟨g, k, none⟩ = some (cv w g k) ∧ w.frozen? ⟨g, k, none⟩ = false := by
  obtain ⟨cur, h1, h2, h3⟩ := h
  have l0 : k < cur.size := by omega
  have := h1.cell k (Array.getElem?_eq_getElem l0)
  exact ⟨by simp [cv, this], h1.frozen k⟩
theorem MadeS.set {w : World} {g n k : Nat} {f : Nat → ByteArray} (h : MadeS w g n k f) (hk : k < n) : MadeS (w.setCell ⟨g, k, none⟩ (.string (f k))) g n (k + 1) f := by
  obtain ⟨cur, h1, h2, h3⟩ := h
  refine ⟨_, h1.set k _, by simpa using h2, fun i hi => ?_⟩
  by_cases e : i = k
  · subst e
    have l0 : i < cur.size := by omega
    simp [l0]
  · have := h3 i (by omega)
    rw [Array.getElem?_setIfInBounds, if_neg (by omega)]
    exact this
theorem MadeS.strs {w : World} {g n : Nat} {f : Nat → ByteArray} (h : MadeS w g n n f) : Strs w g 0 n f := by
  obtain ⟨cur, h1, h2, h3⟩ := h
  intro i hi
  rw [Nat.zero_add]
  exact h1.cell i (h3 i hi)
theorem MadeS.lt {w : World} {g n k : Nat} {f : Nat → ByteArray} (h : MadeS w g n k f) : g < w.heap.size := by
  obtain ⟨cur, h1, -⟩ := h
  exact h1.lt
theorem MadeS.below {w w' : World} {g n k : Nat} {f : Nat → ByteArray} (h : MadeS w g n k f) (hb : Below w.heap.size w w') : MadeS w' g n k f := by
  obtain ⟨cur, h1, h2⟩ := h
  exact ⟨cur, h1.below hb, h2⟩
theorem MadeS.setOther {w : World} {g n k q i : Nat} {f : Nat → ByteArray} (h : MadeS w g n k f) (hq : g ≠ q) (u : Value) : MadeS (w.setCell ⟨q, i, none⟩ u) g n k f := by
  obtain ⟨cur, h1, h2⟩ := h
  exact ⟨cur, h1.setOther hq u, h2⟩
theorem toStringS_any {w : World} {a : Option Addr} {n cap : Nat} {f : Nat → ByteArray} (hs : StS w a n f) (hn : n ≤ 1048576) :
    Calls Try.prog 56 #[.slice a n cap] w fun e w' => ∃ g, e = .returned (.slice (some ⟨g, 0, none⟩) n n) ∧ w.heap.size ≤ g ∧ MadeS w' g n n f ∧ Below w.heap.size w w' := by
  obtain ⟨C, hC, hmk⟩ := make_strs n hn
  go_enter Try.func56, Try.ntmps56
  go_wp2
  clear hmk
  have m0 : MadeS (w.alloc (.cells C 9)) w.heap.size n 0 f := ⟨C, at_new _ _ _, hC, fun i hi => by omega⟩
  have B0 : Below w.heap.size w (w.alloc (.cells C 9)) := below_alloc _ _
  go_loopw [4] (fun s wr => ∃ k : Nat, k ≤ n ∧ s = .int .i64 k ∧ MadeS wr w.heap.size n k f ∧ Below w.heap.size w wr) (fun s _ => n - (intOf s).toNat)
  case atStart => exact ⟨0, Nat.zero_le _, rfl, m0, B0⟩
  case round =>
    clear m0 B0 hC
    obtain ⟨k, hk, rfl, hm, hbel⟩ := hrel
    by_cases hlt : k < n
    · have hlt' : (k : Int) < (n : Int) := by omega
      rcases hs with h0 | ⟨b, off, rfl, hb, hr⟩
      · omega
      have g0 := hr k hlt
      replace g0 := (hbel.cell (p := ⟨b, off + k, none⟩) hb).trans g0
      obtain ⟨z0, y0⟩ := hm.open hlt
      have HM : Hid (MadeS wr w.heap.size n k f) := hm
      clear hm
      go_wp2
      refine ⟨⟨k + 1, by omega, by go_num, HM.out.set hlt, ?_⟩, by simp [intOf]; omega⟩
      exact hbel.setCell (Nat.le_refl _) _
    · have hlt' : ¬ (k : Int) < (n : Int) := by omega
      obtain rfl : k = n := by omega
      go_wp2
      go_ret
      exact ⟨_, rfl, Nat.le_refl _, hm, hbel⟩
theorem put3_at {t : TypeId} {w : World} {q : Nat} {u0 u1 u2 : Value} (h : At t w q #[u0, u1, u2]) (v0 v1 v2 : Value) : At t (((w.setCell ⟨q, 0, none⟩ v0).setCell ⟨q, 1, none⟩ v1).setCell ⟨q, 2, none⟩ v2) q #[v0, v1, v2] := by
  have := ((h.set 0 v0).set 1 v1).set 2 v2
  simpa using this
theorem below_put3 {w w1 : World} {q : Nat} (h : Below w.heap.size w w1) (hq : w.heap.size ≤ q) (v0 v1 v2 : Value) : Below w.heap.size w (((w1.setCell ⟨q, 0, none⟩ v0).setCell ⟨q, 1, none⟩ v1).setCell ⟨q, 2, none⟩ v2) := ((h.setCell (p := ⟨q, 0, none⟩) hq _).setCell (p := ⟨q, 1, none⟩) hq _).setCell (p := ⟨q, 2, none⟩) hq _
set_option maxRecDepth 100000 in
set_option maxHeartbeats 1600000 in
theorem toItem_any {w : World} {a : Option Addr} {n c : Nat} {f : Nat → ByteArray} (s : ByteArray) (r : Int) (hs : StS w a n f) (hn : n ≤ 1048576) :
    Calls Try.prog 40 #[.agg #[.string s, .slice a n c, .int .i64 r]] w fun e w' => ∃ vb, e = .returned (.agg #[.string s, .slice (some ⟨vb, 0, none⟩) n n, .int .i64 r]) ∧ w.heap.size ≤ vb ∧ MadeS w' vb n n f ∧ Below w.heap.size w w' := by
  obtain ⟨W1, hW1, a1, bW1, -⟩ := boxed w 63 #[.string s, .slice a n c, .int .i64 r]
  obtain ⟨W2, hW2, a2, bW2, -⟩ := boxed W1 46 #[.string ⟨#[]⟩, .slice none 0 0, .int .i64 0]
  obtain ⟨W3, hW3, a3, bW3, -⟩ := boxed W2 46 #[.string ⟨#[]⟩, .slice none 0 0, .int .i64 0]
  have s2 := a2.lt
  have s1 := a1.lt
  have s3 := a3.lt
  replace a1 := (a1.below bW2).below bW3
  replace a2 := a2.below bW3
  replace bW1 := (bW1.trans (bW2.mono bW1.size)).trans (bW3.mono (by omega))
  obtain ⟨c0, c1, c2, -⟩ := a1.open3
  obtain ⟨d0, d1, d2, e0, e1, e2⟩ := a3.open3
  go_enter Try.func40, Try.ntmps40
  go_wp2_with fail
  obtain ⟨V, hV, v1, v2, v3, bV, sV⟩ : ∃ V, W3.setCell ⟨W2.heap.size, 0, none⟩ (.string s) = V ∧ At 63 V w.heap.size #[.string s, .slice a n c, .int .i64 r] ∧ At 46 V W1.heap.size #[.string ⟨#[]⟩, .slice none 0 0, .int .i64 0] ∧ At 46 V W2.heap.size #[.string s, .slice none 0 0, .int .i64 0] ∧ Below w.heap.size w V ∧ W3.heap.size ≤ V.heap.size := by
    refine ⟨_, rfl, a1.setOther (by omega) _, a2.setOther (by omega) _, by simpa using a3.set 0 (.string s), bW1.setCell (show w.heap.size ≤ W2.heap.size by omega) _, by simp [World.setCell]⟩
  rw [hV]
  clear c0 c1 c2 d0 d1 d2 e0 e1 e2 a1 a2 a3 hV hW1 hW2 hW3 bW2 bW3
  refine (toStringS_any (hs.below bV) hn).mono ?_
  rintro e w1 ⟨g1, rfl, hg1, o1, b1⟩
  replace v1 := v1.below b1
  replace v2 := v2.below b1
  replace v3 := v3.below b1
  replace bV := bV.trans (b1.mono bV.size)
  have s4 := b1.size
  have s5 := o1.lt
  clear b1
  obtain ⟨c0, c1, c2, -⟩ := v1.open3
  obtain ⟨d0, d1, d2, e0, e1, e2⟩ := v3.open3
  obtain ⟨W4, hW4, a34, a24, o14, bW4⟩ : ∃ W4, (w1.setCell ⟨W2.heap.size, 1, none⟩ (.slice (some ⟨g1, 0, none⟩) n n)).setCell ⟨W2.heap.size, 2, none⟩ (.int .i64 r) = W4 ∧ At 46 W4 W2.heap.size #[.string s, .slice (some ⟨g1, 0, none⟩) n n, .int .i64 r] ∧ At 46 W4 W1.heap.size #[.string ⟨#[]⟩, .slice none 0 0, .int .i64 0] ∧ MadeS W4 g1 n n f ∧ Below w.heap.size w W4 := by
    refine ⟨_, rfl, by simpa using (v3.set 1 (.slice (some ⟨g1, 0, none⟩) n n)).set 2 (.int .i64 r), (v2.setOther (by omega) _).setOther (by omega) _, (o1.setOther (by omega) _).setOther (by omega) _, (bV.setCell (show w.heap.size ≤ W2.heap.size by omega) _).setCell (show w.heap.size ≤ W2.heap.size by omega) _⟩
  obtain ⟨x0, x1, x2, -⟩ := a34.open3
  obtain ⟨f0, f1, f2, r0, r1, r2⟩ := a24.open3
  go_wp2
  have a7 := put3_at a24 (.string s) (.slice (some ⟨g1, 0, none⟩) n n) (.int .i64 r)
  obtain ⟨p0, p1, p2, -⟩ := a7.open3
  refine bodyPost_ret (v := .agg #[.string s, .slice (some ⟨g1, 0, none⟩) n n, .int .i64 r]) (by simp [results, Try.results40, go_sem, p0, p1, p2]) rfl ?_
  exact ⟨_, rfl, by omega, ((o14.setOther (by omega) _).setOther (by omega) _).setOther (by omega) _, below_put3 bW4 (by omega) _ _ _⟩
end Go.Proofs.Ytdhfoekfejcceaa
