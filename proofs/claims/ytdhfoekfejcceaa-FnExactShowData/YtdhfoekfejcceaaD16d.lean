/-
  Items and data taken over, and compared: walked.
-/
import Derived.Test.YtdhfoekfejcceaaD16c
namespace Go.Proofs.Ytdhfoekfejcceaa
open Go.RowKit

theorem infoItem : (Try.prog.info? 46).map (fun i => (i.zero, i.size, i.bytes)) = some (some (.agg #[.string ⟨#[]⟩, .slice none 0 0, .int .i64 0]), 3, 48) := by kernel_rfl
theorem make_items (M : Nat) (hM : M ≤ 1048576) : ∃ C : Array Value, C.size = M * 3 ∧ ∀ w, (Instr.makeSlice 28 (.int .i64 (M : Int)) (.int .i64 (M : Int))).run Try.prog w = .ok (.slice (some ⟨w.heap.size, 0, none⟩) M M) (w.alloc (.cells C 46)) := by
  obtain ⟨i0, hi0, hz0, hz1, hz2⟩ := info_parts infoItem
  refine ⟨madeCells (Value.agg #[.string ⟨#[]⟩, .slice none 0 0, .int .i64 0]).cells (M * 3), by simp [madeCells], fun w => ?_⟩
  have := run_make (P := Try.prog) w 28 46 i0 _ Try.underlying28 hi0 hz0 .i64 .i64 (M : Int) (M : Int) (by omega) (by omega) (by rw [hz2]; omega) (by omega)
  rw [this, hz1]
  simp
/-- A list of items of its own memory, k of them laid: item i's values lie at vb i, each behind those of the one ahead. -/
structure ItO (w : World) (g N k : Nat) (vb : Nat → Nat) (nm : Nat → ByteArray) (n : Nat → Nat) (rw : Nat → Int) (f : Nat → Nat → ByteArray) : Prop where
  blk : ∃ cur : Array Value, At 46 w g cur ∧ cur.size = N * 3 ∧ ∀ i, i < k → cur[i * 3]? = some (.string (nm i)) ∧ cur[i * 3 + 1]? = some (.slice (some ⟨vb i, 0, none⟩) (n i) (n i)) ∧ cur[i * 3 + 2]? = some (.int .i64 (rw i))
  own : ∀ i, i < k → g < vb i ∧ MadeS w (vb i) (n i) (n i) (f i)
  inc : ∀ i j, i < j → j < k → vb i < vb j
theorem ItO.lt {w : World} {g N k : Nat} {vb : Nat → Nat} {nm : Nat → ByteArray} {n : Nat → Nat} {rw : Nat → Int} {f : Nat → Nat → ByteArray} (h : ItO w g N k vb nm n rw f) : g < w.heap.size := by
  obtain ⟨cur, h1, -⟩ := h.blk
  exact h1.lt
theorem ItO.below {w w' : World} {g N k : Nat} {vb : Nat → Nat} {nm : Nat → ByteArray} {n : Nat → Nat} {rw : Nat → Int} {f : Nat → Nat → ByteArray} (h : ItO w g N k vb nm n rw f) (hb : Below w.heap.size w w') : ItO w' g N k vb nm n rw f := by
  obtain ⟨⟨cur, h1, h2⟩, h3, h4⟩ := h
  exact ⟨⟨cur, h1.below hb, h2⟩, fun i hi => ⟨(h3 i hi).1, (h3 i hi).2.below hb⟩, h4⟩
theorem ItO.cells {w : World} {g N k j : Nat} {vb : Nat → Nat} {nm : Nat → ByteArray} {n : Nat → Nat} {rw : Nat → Int} {f : Nat → Nat → ByteArray} (h : ItO w g N k vb nm n rw f) (hj : j < N * 3) : w.cell? ⟨g, j, none⟩ = some (cv w g j) ∧ w.frozen? ⟨g, j, none⟩ = false := by
  obtain ⟨cur, h1, h2, h3⟩ := h.blk
  have hl : j < cur.size := by omega
  have := h1.cell j (Array.getElem?_eq_getElem hl)
  exact ⟨by rw [cv, this]; rfl, h1.frozen j⟩
theorem ItO.put {w : World} {g N k : Nat} {vb : Nat → Nat} {nm : Nat → ByteArray} {n : Nat → Nat} {rw : Nat → Int} {f : Nat → Nat → ByteArray} (h : ItO w g N k vb nm n rw f) (hk : k < N) {q : Nat} (hq : g < q) (hv : ∀ i, i < k → vb i < q) (ha : MadeS w q (n k) (n k) (f k)) :
    ItO (((w.setCell ⟨g, k * 3, none⟩ (.string (nm k))).setCell ⟨g, k * 3 + 1, none⟩ (.slice (some ⟨q, 0, none⟩) (n k) (n k))).setCell ⟨g, k * 3 + 2, none⟩ (.int .i64 (rw k))) g N (k + 1) (fun i => if i = k then q else vb i) nm n rw f := by
  obtain ⟨cur, h1, h2, h3⟩ := h.blk
  refine ⟨⟨_, ((h1.set (k * 3) _).set (k * 3 + 1) _).set (k * 3 + 2) _, by simpa using h2, fun i hi => ?_⟩, fun i hi => ?_, fun i j hij hj => ?_⟩
  · by_cases e : i = k
    · subst e
      refine ⟨?_, ?_, ?_⟩
      · rw [Array.getElem?_setIfInBounds, if_neg (by omega), Array.getElem?_setIfInBounds, if_neg (by omega), Array.getElem?_setIfInBounds, if_pos rfl, if_pos (by omega)]
      · rw [Array.getElem?_setIfInBounds, if_neg (by omega), Array.getElem?_setIfInBounds, if_pos rfl, if_pos (by simp; omega), if_pos rfl]
      · rw [Array.getElem?_setIfInBounds, if_pos rfl, if_pos (by simp; omega)]
    · obtain ⟨x0, x1, x2⟩ := h3 i (by omega)
      refine ⟨?_, ?_, ?_⟩
      · rw [Array.getElem?_setIfInBounds, if_neg (by omega), Array.getElem?_setIfInBounds, if_neg (by omega), Array.getElem?_setIfInBounds, if_neg (by omega)]; exact x0
      · rw [Array.getElem?_setIfInBounds, if_neg (by omega), Array.getElem?_setIfInBounds, if_neg (by omega), Array.getElem?_setIfInBounds, if_neg (by omega), if_neg e]; exact x1
      · rw [Array.getElem?_setIfInBounds, if_neg (by omega), Array.getElem?_setIfInBounds, if_neg (by omega), Array.getElem?_setIfInBounds, if_neg (by omega)]; exact x2
  · by_cases e : i = k
    · subst e
      rw [if_pos rfl]
      exact ⟨hq, ((ha.setOther (by omega) _).setOther (by omega) _).setOther (by omega) _⟩
    · rw [if_neg e]
      obtain ⟨y0, y1⟩ := h.own i (by omega)
      exact ⟨y0, ((y1.setOther (by omega) _).setOther (by omega) _).setOther (by omega) _⟩
  · by_cases e : j = k
    · subst e
      rw [if_neg (by omega), if_pos rfl]
      exact hv i hij
    · rw [if_neg (by omega), if_neg e]
      exact h.inc i j hij (by omega)
theorem ItO.itm {w : World} {g N : Nat} {vb : Nat → Nat} {nm : Nat → ByteArray} {n : Nat → Nat} {rw : Nat → Int} {f : Nat → Nat → ByteArray} (h : ItO w g N N vb nm n rw f) : Itm w g 0 N nm (fun i => some ⟨vb i, 0, none⟩) n n rw f := by
  obtain ⟨cur, h1, h2, h3⟩ := h.blk
  refine ⟨h1.lt, fun i hi => ?_, fun i hi => ?_, fun i hi => ?_, fun i hi => .inr ⟨_, _, rfl, (h.own i hi).2.lt, (h.own i hi).2.strs⟩⟩
  · rw [Nat.zero_add]; exact h1.cell _ (h3 i hi).1
  · rw [Nat.zero_add]; exact h1.cell _ (h3 i hi).2.1
  · rw [Nat.zero_add]; exact h1.cell _ (h3 i hi).2.2
def TiP (N : Nat) (nm : Nat → ByteArray) (n : Nat → Nat) (rw : Nat → Int) (f : Nat → Nat → ByteArray) (w : World) (e : Ending) (w' : World) : Prop := ∃ g vb, e = .returned (.slice (some ⟨g, 0, none⟩) N N) ∧ w.heap.size ≤ g ∧ ItO w' g N N vb nm n rw f ∧ Below w.heap.size w w'
set_option maxRecDepth 100000 in
set_option maxHeartbeats 4000000 in
theorem toItemS_any {w : World} {p : Option Addr} {N cap : Nat} {nm : Nat → ByteArray} {a : Nat → Option Addr} {n c : Nat → Nat} {rw : Nat → Int} {f : Nat → Nat → ByteArray} (hS : ItS w p N nm a n c rw f) (hN : N ≤ 1048576) (hn : ∀ i, i < N → n i ≤ 1048576) :
    Calls Try.prog 23 #[.slice p N cap] w (TiP N nm n rw f w) := by
  have hn' : (N : Int) ≤ 1048576 := by omega
  obtain ⟨C, hC, hmk⟩ := make_items N hN
  obtain ⟨W1, hW1, a1, B1, -⟩ := boxed w 46 C
  have L1 : ItO W1 w.heap.size N 0 (fun _ => 0) nm n rw f := ⟨⟨C, a1, hC, fun i hi => absurd hi (Nat.not_lt_zero _)⟩, fun i hi => absurd hi (Nat.not_lt_zero _), fun i j _ hj => absurd hj (Nat.not_lt_zero _)⟩
  go_enter Try.func23, Try.ntmps23
  go_wp2
  clear hmk hW1 a1
  go_loopw [4] (fun s wr => ∃ k : Nat, k ≤ N ∧ s = .int .i64 k ∧ (∃ vb, ItO wr w.heap.size N k vb nm n rw f) ∧ Below w.heap.size w wr) (fun s _ => N - (intOf s).toNat)
  case atStart => exact ⟨0, Nat.zero_le _, rfl, ⟨_, L1⟩, B1⟩
  case round =>
    clear L1 B1
    obtain ⟨k, hk, rfl, ⟨vb, L⟩, B⟩ := hrel
    by_cases hlt : k < N
    · have hlt' : (k : Int) < (N : Int) := by omega
      rcases hS.below B with h0 | ⟨b, o, rfl, F⟩
      · omega
      have c0 := F.c0 k hlt
      have c1 := F.c1 k hlt
      have c2 := F.c2 k hlt
      have T := toItem_any (c := c k) (nm k) (rw k) (F.src k hlt) (hn k hlt)
      clear F
      go_wp2_with fail
      refine T.mono ?_
      rintro e w3 ⟨q, rfl, hq, M, b3⟩
      have hv : ∀ i, i < k → vb i < q := fun i hi => Nat.lt_of_lt_of_le (L.own i hi).2.lt hq
      have hgq : w.heap.size < q := Nat.lt_of_lt_of_le L.lt hq
      have L3 := L.below b3
      have B3 := B.trans (b3.mono B.size)
      clear c0 c1 c2 L B b3 T
      obtain ⟨d0, f0⟩ := L3.cells (j := k * 3) (by omega)
      obtain ⟨d1, f1⟩ := L3.cells (j := k * 3 + 1) (by omega)
      obtain ⟨d2, f2⟩ := L3.cells (j := k * 3 + 2) (by omega)
      have HL := L3.put hlt hgq hv M
      obtain ⟨V, hV⟩ : ∃ V, ((w3.setCell ⟨w.heap.size, k * 3, none⟩ (.string (nm k))).setCell ⟨w.heap.size, k * 3 + 1, none⟩ (.slice (some ⟨q, 0, none⟩) (n k) (n k))).setCell ⟨w.heap.size, k * 3 + 2, none⟩ (.int .i64 (rw k)) = V := ⟨_, rfl⟩
      have B4 : Below w.heap.size w V := by rw [← hV]; exact ((B3.setCell (Nat.le_refl w.heap.size) _).setCell (Nat.le_refl w.heap.size) _).setCell (Nat.le_refl w.heap.size) _
      rw [hV] at HL
      have HK : Hid (∃ vb, ItO V w.heap.size N (k + 1) vb nm n rw f) := ⟨_, HL⟩
      clear L3 HL M hv
      go_wp2
      exact ⟨⟨k + 1, by omega, by go_num, HK.out, B4⟩, by simp [intOf]; omega⟩
    · have hlt' : ¬ (k : Int) < (N : Int) := by omega
      obtain rfl : k = N := by omega
      have HO : Hid (∃ vb, ItO wr w.heap.size k k vb nm n rw f) := ⟨_, L⟩
      clear L
      go_wp2
      go_ret
      obtain ⟨v', h'⟩ := HO.out
      exact ⟨_, _, rfl, Nat.le_refl _, h', B⟩
/-- A data of one's own. -/
structure DaO (w : World) (g N h M : Nat) (vb : Nat → Nat) (nm : Nat → ByteArray) (n : Nat → Nat) (rw : Nat → Int) (f : Nat → Nat → ByteArray) (lp : Nat → Int) : Prop where
  it : ItO w g N N vb nm n rw f
  lo : Own w h M lp
  gh : g < h
  vh : ∀ i, i < N → vb i < h
theorem DaO.below {w w' : World} {g N h M : Nat} {vb : Nat → Nat} {nm : Nat → ByteArray} {n : Nat → Nat} {rw : Nat → Int} {f : Nat → Nat → ByteArray} {lp : Nat → Int} (k : DaO w g N h M vb nm n rw f lp) (hb : Below w.heap.size w w') : DaO w' g N h M vb nm n rw f lp := ⟨k.it.below hb, Own.below k.lo hb, k.gh, k.vh⟩
def dV (s : ByteArray) (g N h M : Nat) : Value := .agg #[.string s, .slice (some ⟨g, 0, none⟩) N N, .slice (some ⟨h, 0, none⟩) M M]
def TdP (s : ByteArray) (N M : Nat) (nm : Nat → ByteArray) (n : Nat → Nat) (rw : Nat → Int) (f : Nat → Nat → ByteArray) (lp : Nat → Int) (w : World) (e : Ending) (w' : World) : Prop := ∃ g h vb, e = .returned (dV s g N h M) ∧ w.heap.size ≤ g ∧ w.heap.size ≤ h ∧ DaO w' g N h M vb nm n rw f lp ∧ Below w.heap.size w w'
theorem itO_other {w : World} {g N k q i : Nat} {vb : Nat → Nat} {nm : Nat → ByteArray} {n : Nat → Nat} {rw : Nat → Int} {f : Nat → Nat → ByteArray} (h : ItO w g N k vb nm n rw f) (hq : q < g) (u : Value) : ItO (w.setCell ⟨q, i, none⟩ u) g N k vb nm n rw f := by
  obtain ⟨⟨cur, h1, h2⟩, h3, h4⟩ := h
  exact ⟨⟨cur, h1.setOther (by omega) u, h2⟩, fun i hi => ⟨(h3 i hi).1, (h3 i hi).2.setOther (by have := (h3 i hi).1; omega) u⟩, h4⟩
set_option maxRecDepth 100000 in
set_option maxHeartbeats 4000000 in
theorem toData_any {w : World} {p q : Option Addr} {N cap M cap2 : Nat} {s : ByteArray} {nm : Nat → ByteArray} {a : Nat → Option Addr} {n c : Nat → Nat} {rw : Nat → Int} {f : Nat → Nat → ByteArray} {lp : Nat → Int} (hS : ItS w p N nm a n c rw f) (hL : Src w q M lp) (hN : N ≤ 1048576) (hn : ∀ i, i < N → n i ≤ 1048576) (hM : M ≤ 1048576) :
    Calls Try.prog 8 #[.agg #[.string s, .slice p N cap, .slice q M cap2]] w (TdP s N M nm n rw f lp w) := by
  obtain ⟨W1, hW1, a1, bW1, -⟩ := boxed w 25 #[.string s, .slice p N cap, .slice q M cap2]
  obtain ⟨W2, hW2, a2, bW2, -⟩ := boxed W1 30 #[.string ⟨#[]⟩, .slice none 0 0, .slice none 0 0]
  obtain ⟨W3, hW3, a3, bW3, -⟩ := boxed W2 30 #[.string ⟨#[]⟩, .slice none 0 0, .slice none 0 0]
  have s2 := a2.lt
  have s1 := a1.lt
  have s3 := a3.lt
  replace a1 := (a1.below bW2).below bW3
  replace a2 := a2.below bW3
  replace bW1 := (bW1.trans (bW2.mono bW1.size)).trans (bW3.mono (by omega))
  obtain ⟨c0, c1, c2, -⟩ := a1.open3
  obtain ⟨d0, d1, d2, e0, e1, e2⟩ := a3.open3
  go_enter Try.func8, Try.ntmps8
  go_wp2_with fail
  obtain ⟨V, hV, v1, v2, v3, bV, sV⟩ : ∃ V, W3.setCell ⟨W2.heap.size, 0, none⟩ (.string s) = V ∧ At 25 V w.heap.size #[.string s, .slice p N cap, .slice q M cap2] ∧ At 30 V W1.heap.size #[.string ⟨#[]⟩, .slice none 0 0, .slice none 0 0] ∧ At 30 V W2.heap.size #[.string s, .slice none 0 0, .slice none 0 0] ∧ Below w.heap.size w V ∧ W3.heap.size ≤ V.heap.size := by
    refine ⟨_, rfl, a1.setOther (by omega) _, a2.setOther (by omega) _, by simpa using a3.set 0 (.string s), bW1.setCell (show w.heap.size ≤ W2.heap.size by omega) _, by simp [World.setCell]⟩
  rw [hV]
  clear c0 c1 c2 d0 d1 d2 e0 e1 e2 a1 a2 a3 hV hW1 hW2 hW3 bW2 bW3
  refine (toItemS_any (hS.below bV) hN hn).mono ?_
  rintro e w1 ⟨g1, vb, rfl, hg1, o1, b1⟩
  replace v1 := v1.below b1
  replace v2 := v2.below b1
  replace v3 := v3.below b1
  replace bV := bV.trans (b1.mono bV.size)
  have s4 := b1.size
  have s5 := o1.lt
  have vlt : ∀ i, i < N → vb i < w1.heap.size := fun i hi => (o1.own i hi).2.lt
  clear b1
  obtain ⟨c0, c1, c2, -⟩ := v1.open3
  obtain ⟨d0, d1, d2, e0, e1, e2⟩ := v3.open3
  obtain ⟨U, hU, u1, u2, u3, o2, bU, sU⟩ : ∃ U, w1.setCell ⟨W2.heap.size, 1, none⟩ (.slice (some ⟨g1, 0, none⟩) N N) = U ∧ At 25 U w.heap.size #[.string s, .slice p N cap, .slice q M cap2] ∧ At 30 U W1.heap.size #[.string ⟨#[]⟩, .slice none 0 0, .slice none 0 0] ∧ At 30 U W2.heap.size #[.string s, .slice (some ⟨g1, 0, none⟩) N N, .slice none 0 0] ∧ ItO U g1 N N vb nm n rw f ∧ Below w.heap.size w U ∧ w1.heap.size ≤ U.heap.size := by
    refine ⟨_, rfl, v1.setOther (by omega) _, v2.setOther (by omega) _, by simpa using v3.set 1 (.slice (some ⟨g1, 0, none⟩) N N), itO_other o1 (by omega) _, bV.setCell (show w.heap.size ≤ W2.heap.size by omega) _, by simp [World.setCell]⟩
  obtain ⟨y0, y1, y2, -⟩ := u1.open3
  go_wp2_with fail
  clear c0 c1 c2 d0 d1 d2 e0 e1 e2 v1 v2 v3 hU o1 y0 y1 y2
  refine (toInts_any (hL.below bU) hM).mono ?_
  rintro e w2 ⟨h1, rfl, hh1, l1, b2⟩
  replace u2 := u2.below b2
  replace u3 := u3.below b2
  replace o2 := o2.below b2
  replace bU := bU.trans (b2.mono bU.size)
  have s6 := b2.size
  have s7 := Made.lt l1
  clear b2 u1
  obtain ⟨d0, d1, d2, e0, e1, e2⟩ := u3.open3
  obtain ⟨W4, hW4, a34, a24, o14, l14, bW4⟩ : ∃ W4, w2.setCell ⟨W2.heap.size, 2, none⟩ (.slice (some ⟨h1, 0, none⟩) M M) = W4 ∧ At 30 W4 W2.heap.size #[.string s, .slice (some ⟨g1, 0, none⟩) N N, .slice (some ⟨h1, 0, none⟩) M M] ∧ At 30 W4 W1.heap.size #[.string ⟨#[]⟩, .slice none 0 0, .slice none 0 0] ∧ ItO W4 g1 N N vb nm n rw f ∧ Own W4 h1 M lp ∧ Below w.heap.size w W4 := by
    refine ⟨_, rfl, by simpa using u3.set 2 (.slice (some ⟨h1, 0, none⟩) M M), u2.setOther (by omega) _, itO_other o2 (by omega) _, Made.setOther l1 (by omega) _, bU.setCell (show w.heap.size ≤ W2.heap.size by omega) _⟩
  clear d0 d1
  obtain ⟨x0, x1, x2, -⟩ := a34.open3
  obtain ⟨f0, f1, f2, r0, r1, r2⟩ := a24.open3
  go_wp2
  have a7 := put3_at a24 (.string s) (.slice (some ⟨g1, 0, none⟩) N N) (.slice (some ⟨h1, 0, none⟩) M M)
  obtain ⟨p0, p1, p2, -⟩ := a7.open3
  refine bodyPost_ret (v := dV s g1 N h1 M) (by simp [results, Try.results8, go_sem, p0, p1, p2, dV]) rfl ?_
  exact ⟨_, _, _, rfl, by omega, by omega, ⟨itO_other (itO_other (itO_other o14 (by omega) _) (by omega) _) (by omega) _, Made.setOther (Made.setOther (Made.setOther l14 (by omega) _) (by omega) _) (by omega) _, by omega, fun i hi => by have := vlt i hi; omega⟩, below_put3 bW4 (by omega) _ _ _⟩
end Go.Proofs.Ytdhfoekfejcceaa
