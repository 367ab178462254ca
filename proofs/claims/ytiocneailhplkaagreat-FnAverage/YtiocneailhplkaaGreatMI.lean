/-
  Lists of operators that came in: measured, taken over, held against each other. Walked.
-/
import Derived.Test.YtiocneailhplkaaGreatMH
import Derived.Maps.Own
import Derived.Maps.OwnOps
import Derived.Maps.RangeWalk
import Derived.DeepKeys4
namespace Go.Proofs.YtiocneailhplkaaGreat
open Go.RowKit

/-- A list of operators that came in. -/
def OpsS (w : World) (a : Option Addr) (n : Nat) (A : Nat → OpD) : Prop :=
  n = 0 ∨ ∃ g off, a = some ⟨g, off, none⟩ ∧ g < w.heap.size ∧ ∀ i, i < n → ∃ x c y d, w.cell? ⟨g, off + i * 2, none⟩ = some (.slice x (A i).n c) ∧ w.cell? ⟨g, off + i * 2 + 1, none⟩ = some (.slice y (A i).k d) ∧ Src w x (A i).n (A i).f ∧ Src w y (A i).k (A i).h ∧ (A i).n ≤ maxLen ∧ (A i).k ≤ maxLen
theorem OpsS.below {w w' : World} {a : Option Addr} {n : Nat} {A : Nat → OpD} (h : OpsS w a n A) (hb : Below w.heap.size w w') : OpsS w' a n A := by
  refine h.imp id ?_
  rintro ⟨g, off, e, hg, r⟩
  refine ⟨g, off, e, Nat.lt_of_lt_of_le hg hb.size, fun i hi => ?_⟩
  obtain ⟨x, c, y, d, e1, e2, s1, s2, m⟩ := r i hi
  exact ⟨x, c, y, d, (hb.cell (p := ⟨g, off + i * 2, none⟩) hg).trans e1, (hb.cell (p := ⟨g, off + i * 2 + 1, none⟩) hg).trans e2, s1.below hb, s2.below hb, m⟩
/-- None is too long. -/
def Short (n : Nat) (A : Nat → OpD) : Prop := n ≤ 1048576 ∧ ∀ i, i < n → (A i).n ≤ 1048576 ∧ (A i).k ≤ 1048576
set_option maxRecDepth 100000 in
theorem szOpS_any {w : World} {a : Option Addr} {n cap : Nat} {A : Nat → OpD} (hS : OpsS w a n A) (hn : n ≤ maxLen) :
    Calls Tryz.prog 13 #[.slice a n cap, .int .i64 1048576] w fun e w' => ∃ r : Int, e = .returned (.int .i64 r) ∧ (r = -1 ∨ (0 ≤ r ∧ Short n A)) ∧ Below w.heap.size w w' := by
  unfold maxLen at hn
  by_cases hb : 1048576 < n
  · have h1 : (1048576 : Int) - (n : Int) < 0 := by omega
    go_enter Tryz.func13, Tryz.ntmps13
    go_wp2
    go_ret
    exact ⟨_, rfl, .inl rfl, Below.refl _ _⟩
  · have h1 : ¬ (1048576 : Int) - (n : Int) < 0 := by omega
    go_enter Tryz.func13, Tryz.ntmps13
    go_wp2
    go_loopw [1, 5] (fun l s wr => ∃ (k : Nat) (r : Int), k ≤ n ∧ s = .int .i64 k ∧ l = .int .i64 r ∧ 0 ≤ r ∧ r ≤ 1048576 ∧ Hid (∀ i, i < k → (A i).n ≤ 1048576 ∧ (A i).k ≤ 1048576) ∧ Below w.heap.size w wr) (fun _ s _ => n - (intOf s).toNat)
    case atStart => exact ⟨0, _, Nat.zero_le _, rfl, rfl, by omega, by omega, fun i hi => by omega, Below.refl _ _⟩
    case round =>
      obtain ⟨k, r, hk, rfl, rfl, hr0, hr1, hok, B⟩ := hrel
      by_cases hlt : k < n
      · have hlt' : (k : Int) < (n : Int) := by omega
        rcases hS.below B with h0 | ⟨g, off, rfl, hg, rr⟩
        · omega
        obtain ⟨x, c, y, d, e1, e2, s1, s2, m1, m2⟩ := rr k hlt
        obtain ⟨N, hN⟩ : ∃ N, (A k).n = N := ⟨_, rfl⟩
        obtain ⟨K, hK⟩ : ∃ N, (A k).k = N := ⟨_, rfl⟩
        rw [hN] at e1 m1
        rw [hK] at e2 m2
        clear rr s1 s2
        go_wp2_with fail
        refine (szOp_any x y N c K d r wr m1 m2 (by omega)).mono ?_
        rintro e w3 ⟨r', rfl, hr', b3⟩
        replace B := B.trans (b3.mono B.size)
        clear b3 e1 e2 m1 m2
        rcases hr' with rfl | ⟨he, hr'⟩
        · go_wp2
          go_ret
          exact ⟨_, rfl, .inl rfl, B⟩
        · have hr2 : ¬ r' < 0 := by omega
          have HO : Hid (∀ i, i < k + 1 → (A i).n ≤ 1048576 ∧ (A i).k ≤ 1048576) := fun i hi => by
            by_cases e : i = k
            · rw [e, hN, hK]; omega
            · exact hok.out i (by omega)
          have hr3 : r' ≤ 1048576 := by omega
          clear hok he
          go_wp2
          exact ⟨⟨k + 1, r', by omega, by go_num, rfl, hr', hr3, HO, B⟩, by simp [intOf]; omega⟩
      · have hlt' : ¬ (k : Int) < (n : Int) := by omega
        obtain rfl : k = n := by omega
        go_wp2
        go_ret
        exact ⟨_, rfl, .inr ⟨hr0, by omega, hok.out⟩, B⟩
theorem Tryz.info57 : (Tryz.prog.info? 57).map (fun i => (i.zero, i.size, i.bytes)) = some (some (.agg #[.slice none 0 0, .slice none 0 0]), 2, 48) := by kernel_rfl
theorem make_ops (M : Nat) (hM : M ≤ 1048576) : ∃ C : Array Value, C.size = M * 2 ∧ (∀ i, i < M * 2 → ∃ v, C[i]? = some v) ∧ ∀ w, (Instr.makeSlice 27 (.int .i64 (M : Int)) (.int .i64 (M : Int))).run Tryz.prog w = .ok (.slice (some ⟨w.heap.size, 0, none⟩) M M) (w.alloc (.cells C 57)) := by
  obtain ⟨i0, hi0, hz0, hz1, hz2⟩ := info_parts Tryz.info57
  refine ⟨madeCells (Value.agg #[.slice none 0 0, .slice none 0 0]).cells (M * 2), by simp [madeCells], fun i hi => ?_, fun w => ?_⟩
  · have : i < (madeCells (Value.agg #[.slice none 0 0, .slice none 0 0]).cells (M * 2)).size := by simpa [madeCells] using hi
    exact ⟨_, Array.getElem?_eq_getElem this⟩
  · have := run_make (P := Tryz.prog) w 27 57 i0 _ Tryz.underlying27 hi0 hz0 .i64 .i64 (M : Int) (M : Int) (by omega) (by omega) (by rw [hz2]; omega) (by omega)
    rw [this, hz1]
    simp
/-- A list that does not lie in block g. -/
def SrcNe (w : World) (g : Nat) (a : Option Addr) (n : Nat) (f : Nat → Int) : Prop := n = 0 ∨ ∃ b off, a = some ⟨b, off, none⟩ ∧ b ≠ g ∧ b < w.heap.size ∧ Ints w b off n f
theorem SrcNe.src {w : World} {g : Nat} {a : Option Addr} {n : Nat} {f : Nat → Int} (h : SrcNe w g a n f) : Src w a n f := by
  rcases h with h | ⟨b, off, e, -, l, r⟩
  · exact .inl h
  · exact .inr ⟨b, off, e, l, r⟩
theorem SrcNe.below {w w' : World} {g : Nat} {a : Option Addr} {n : Nat} {f : Nat → Int} (h : SrcNe w g a n f) (hb : Below w.heap.size w w') : SrcNe w' g a n f := by
  rcases h with h | ⟨b, off, e, ne, l, r⟩
  · exact .inl h
  · exact .inr ⟨b, off, e, ne, Nat.lt_of_lt_of_le l hb.size, r.below l hb⟩
theorem SrcNe.set {w : World} {g i : Nat} {a : Option Addr} {n : Nat} {f : Nat → Int} (h : SrcNe w g a n f) (v : Value) : SrcNe (w.setCell ⟨g, i, none⟩ v) g a n f := by
  rcases h with h | ⟨b, off, e, ne, l, r⟩
  · exact .inl h
  · exact .inr ⟨b, off, e, ne, by simpa [World.setCell] using l, fun j hj => (World.cell?_of_block (w := w) (Below.heap_setCell _ _ _ _ ne)).trans (r j hj)⟩
theorem arr_ne {w : World} {lo hi g n : Nat} {a : Option Addr} {c : Nat} {f : Nat → Int} (h : Arr w lo hi (.slice a n c) n f) (hg : g < lo) : SrcNe w g a n f := by
  rcases h with ⟨-, h0⟩ | ⟨b, c', e, hl, hh, hc, hm⟩
  · exact .inl h0
  · cases e
    have hlt := hm.lt
    obtain ⟨cur, h1, h2, h3⟩ := hm
    refine .inr ⟨b, 0, rfl, by omega, hlt, fun i hi => ?_⟩
    have := h1.cell i (h3 i hi)
    simpa using this
/-- A block of n operators, of which the first k are laid. -/
def Laid (w : World) (g n k : Nat) (A : Nat → OpD) : Prop :=
  ∃ cur : Array Value, At 57 w g cur ∧ cur.size = n * 2 ∧ ∀ i, i < k → ∃ x c y d, cur[i * 2]? = some (.slice x (A i).n c) ∧ cur[i * 2 + 1]? = some (.slice y (A i).k d) ∧ SrcNe w g x (A i).n (A i).f ∧ SrcNe w g y (A i).k (A i).h
theorem Laid.below {w w' : World} {g n k : Nat} {A : Nat → OpD} (h : Laid w g n k A) (hb : Below w.heap.size w w') : Laid w' g n k A := by
  obtain ⟨cur, h1, h2, h3⟩ := h
  refine ⟨cur, h1.below hb, h2, fun i hi => ?_⟩
  obtain ⟨x, c, y, d, e1, e2, s1, s2⟩ := h3 i hi
  exact ⟨x, c, y, d, e1, e2, s1.below hb, s2.below hb⟩
theorem Laid.put {w : World} {g n k : Nat} {A : Nat → OpD} (h : Laid w g n k A) (hk : k < n) {x y : Option Addr} {c d : Nat} (s1 : SrcNe w g x (A k).n (A k).f) (s2 : SrcNe w g y (A k).k (A k).h) :
    Laid ((w.setCell ⟨g, k * 2, none⟩ (.slice x (A k).n c)).setCell ⟨g, k * 2 + 1, none⟩ (.slice y (A k).k d)) g n (k + 1) A := by
  obtain ⟨cur, h1, h2, h3⟩ := h
  refine ⟨_, (h1.set (k * 2) _).set (k * 2 + 1) _, by simpa using h2, fun i hi => ?_⟩
  by_cases e : i = k
  · subst e
    refine ⟨x, c, y, d, ?_, ?_, (s1.set _).set _, (s2.set _).set _⟩
    · rw [Array.getElem?_setIfInBounds, if_neg (by omega), Array.getElem?_setIfInBounds, if_pos rfl, if_pos (by omega)]
    · rw [Array.getElem?_setIfInBounds, if_pos rfl, if_pos (by simp; omega)]
  · obtain ⟨x', c', y', d', e1, e2, t1, t2⟩ := h3 i (by omega)
    refine ⟨x', c', y', d', ?_, ?_, (t1.set _).set _, (t2.set _).set _⟩
    · rw [Array.getElem?_setIfInBounds, if_neg (by omega), Array.getElem?_setIfInBounds, if_neg (by omega)]; exact e1
    · rw [Array.getElem?_setIfInBounds, if_neg (by omega), Array.getElem?_setIfInBounds, if_neg (by omega)]; exact e2
theorem Laid.ops {w : World} {g n : Nat} {A : Nat → OpD} (h : Laid w g n n A) : OpsL w g n A := by
  obtain ⟨cur, h1, h2, h3⟩ := h
  refine ⟨h1.lt, fun i hi => ?_⟩
  obtain ⟨x, c, y, d, e1, e2, s1, s2⟩ := h3 i hi
  exact ⟨x, c, y, d, h1.cell _ e1, h1.cell _ e2, s1.src, s2.src⟩
theorem Laid.cells {w : World} {g n k j : Nat} {A : Nat → OpD} (h : Laid w g n k A) (hj : j < n * 2) : w.cell? ⟨g, j, none⟩ = some (cv w g j) ∧ w.frozen? ⟨g, j, none⟩ = false := by
  obtain ⟨cur, h1, h2, h3⟩ := h
  have hl : j < cur.size := by omega
  have := h1.cell j (Array.getElem?_eq_getElem hl)
  exact ⟨by rw [cv, this]; rfl, h1.frozen j⟩
set_option maxRecDepth 100000 in
set_option maxHeartbeats 800000 in
theorem toOpS_any {w : World} {a : Option Addr} {n cap : Nat} {A : Nat → OpD} (hS : OpsS w a n A) (hn : Short n A) :
    Calls Tryz.prog 15 #[.slice a n cap] w fun e w' => ∃ g, e = .returned (.slice (some ⟨g, 0, none⟩) n n) ∧ OpsL w' g n A ∧ Below w.heap.size w w' := by
  have hn0 := hn.1
  have hn' : (n : Int) ≤ 1048576 := by omega
  obtain ⟨C, hC, -, hmk⟩ := make_ops n hn0
  obtain ⟨W1, hW1, a1, B1, -⟩ := boxed w 57 C
  have L1 : Laid W1 w.heap.size n 0 A := ⟨C, a1, hC, fun i hi => by omega⟩
  go_enter Tryz.func15, Tryz.ntmps15
  go_wp2
  clear hmk hW1 a1
  go_loopw [4] (fun s wr => ∃ k : Nat, k ≤ n ∧ s = .int .i64 k ∧ Laid wr w.heap.size n k A ∧ Below w.heap.size w wr) (fun s _ => n - (intOf s).toNat)
  case atStart => exact ⟨0, Nat.zero_le _, rfl, L1, B1⟩
  case round =>
    clear L1 B1
    obtain ⟨k, hk, rfl, L, B⟩ := hrel
    by_cases hlt : k < n
    · have hlt' : (k : Int) < (n : Int) := by omega
      rcases hS.below B with h0 | ⟨g, off, rfl, hg, rr⟩
      · omega
      obtain ⟨x, c, y, d, e1, e2, s1, s2, m1, m2⟩ := rr k hlt
      have hsh := hn.2 k hlt
      obtain ⟨N, hN⟩ : ∃ N, (A k).n = N := ⟨_, rfl⟩
      obtain ⟨K, hK⟩ : ∃ N, (A k).k = N := ⟨_, rfl⟩
      rw [hN] at e1 m1 s1 hsh
      rw [hK] at e2 m2 s2 hsh
      clear rr
      go_wp2_with fail
      refine (toOp_any s1 s2 hsh.1 hsh.2).mono ?_
      rintro e w3 ⟨o, rfl, o3, b3⟩
      have L3 := L.below b3
      have B3 := B.trans (b3.mono B.size)
      have hgl : w.heap.size < wr.heap.size := by
        obtain ⟨cur, h1, -⟩ := L
        exact h1.lt
      obtain ⟨v1, v2, rfl, r1, r2, -⟩ := o3
      obtain ⟨x1, d1, rfl, -⟩ := r1.src
      obtain ⟨x2, d2, rfl, -⟩ := r2.src
      have n1 := arr_ne r1 hgl
      have n2 := arr_ne r2 hgl
      obtain ⟨c0, f0⟩ := L3.cells (j := k * 2) (by omega)
      obtain ⟨c1, f1⟩ := L3.cells (j := k * 2 + 1) (by omega)
      rw [← hN] at n1 ⊢
      rw [← hK] at n2 ⊢
      have HL : Hid (Laid ((w3.setCell ⟨w.heap.size, k * 2, none⟩ (.slice x1 (A k).n d1)).setCell ⟨w.heap.size, k * 2 + 1, none⟩ (.slice x2 (A k).k d2)) w.heap.size n (k + 1) A) := L3.put hlt n1 n2
      clear L L3 n1 n2 r1 r2 s1 s2 e1 e2 m1 m2 b3 hN hK hsh
      generalize (A k).n = N' at *
      generalize (A k).k = K' at *
      go_wp2
      refine ⟨⟨k + 1, by omega, by go_num, HL.out, (B3.setCell (Nat.le_refl w.heap.size) _).setCell (Nat.le_refl w.heap.size) _⟩, by simp [intOf]; omega⟩
    · have hlt' : ¬ (k : Int) < (n : Int) := by omega
      obtain rfl : k = n := by omega
      have HO : Hid (OpsL wr w.heap.size k A) := L.ops
      clear L
      go_wp2
      go_ret
      exact ⟨_, rfl, HO.out, B⟩
theorem opsL_src {w : World} {g n i : Nat} {A : Nat → OpD} (h : OpsL w g n A) (hi : i < n) : ∃ a c b d, w.cell? ⟨g, i * 2, none⟩ = some (.slice a (A i).n c) ∧ w.cell? ⟨g, i * 2 + 1, none⟩ = some (.slice b (A i).k d) ∧ Src w a (A i).n (A i).f ∧ Src w b (A i).k (A i).h := h.2 i hi
/-- Two operators alike are told so. -/
theorem eqOpSrc_true {w : World} {a1 a2 b1 b2 : Option Addr} {n k c1 c2 d1 d2 : Nat} {f h : Nat → Int} (m1 : Src w a1 n f) (m2 : Src w a2 n f) (t1 : Src w b1 k h) (t2 : Src w b2 k h) (hn : n ≤ 1048576) (hk : k ≤ 1048576) :
    Calls Tryz.prog 45 #[.agg #[.slice a1 n c1, .slice b1 k d1], .agg #[.slice a2 n c2, .slice b2 k d2]] w fun e w' => e = .returned (.bool true) ∧ Below w.heap.size w w' := by
  obtain ⟨W1, hW1, x1, bW1, -⟩ := boxed w 57 #[.slice a1 n c1, .slice b1 k d1]
  obtain ⟨W2, hW2, x2, bW2, -⟩ := boxed W1 57 #[.slice a2 n c2, .slice b2 k d2]
  have s1 := x1.lt
  replace x1 := x1.below bW2
  replace m1 := (m1.below bW1).below bW2
  replace m2 := (m2.below bW1).below bW2
  replace t1 := (t1.below bW1).below bW2
  replace t2 := (t2.below bW1).below bW2
  replace bW1 := bW1.trans (bW2.mono bW1.size)
  obtain ⟨e0, e1, -⟩ := x1.open2
  obtain ⟨e2, e3, -⟩ := x2.open2
  go_enter Tryz.func45, Tryz.ntmps45
  go_wp2_with fail
  refine (eqSrc_true m1 m2 (fun _ _ => rfl) hn).mono ?_
  rintro e w3 ⟨rfl, b3⟩
  replace x1 := x1.below b3
  replace x2 := x2.below b3
  replace t1 := t1.below b3
  replace t2 := t2.below b3
  replace bW1 := bW1.trans (b3.mono bW1.size)
  clear e0 e1 e2 e3 m1 m2
  obtain ⟨e0, e1, -⟩ := x1.open2
  obtain ⟨e2, e3, -⟩ := x2.open2
  go_wp2_with fail
  refine (eqSrc_true t1 t2 (fun _ _ => rfl) hk).mono ?_
  rintro e w4 ⟨rfl, b4⟩
  go_wp2
  go_ret
  exact ⟨rfl, bW1.trans (b4.mono bW1.size)⟩
set_option maxRecDepth 100000 in
set_option maxHeartbeats 800000 in
theorem eqOpS_true {w : World} {g1 g2 n c1 c2 : Nat} {A : Nat → OpD} (h1 : OpsL w g1 n A) (h2 : OpsL w g2 n A) (hn : Short n A) :
    Calls Tryz.prog 17 #[.slice (some ⟨g1, 0, none⟩) n c1, .slice (some ⟨g2, 0, none⟩) n c2] w fun e w' => e = .returned (.bool true) ∧ Below w.heap.size w w' := by
  have hn' : (n : Int) ≤ 1048576 := by have := hn.1; omega
  go_enter Tryz.func17, Tryz.ntmps17
  go_wp2
  go_loopw [5] (fun s wr => ∃ k : Nat, k ≤ n ∧ s = .int .i64 k ∧ Below w.heap.size w wr) (fun s _ => n - (intOf s).toNat)
  case atStart => exact ⟨0, Nat.zero_le _, rfl, Below.refl _ _⟩
  case round =>
    obtain ⟨k, hk, rfl, B⟩ := hrel
    by_cases hlt : k < n
    · have hlt' : (k : Int) < (n : Int) := by omega
      have HL1 := h1.below B
      have HL2 := h2.below B
      obtain ⟨xa, ca, ya, da, ea1, ea2, sa1, sa2⟩ := opsL_src HL1 hlt
      obtain ⟨xb, cb, yb, db, eb1, eb2, sb1, sb2⟩ := opsL_src HL2 hlt
      have hsh := hn.2 k hlt
      obtain ⟨N, hN⟩ : ∃ N, (A k).n = N := ⟨_, rfl⟩
      obtain ⟨K, hK⟩ : ∃ N, (A k).k = N := ⟨_, rfl⟩
      rw [hN] at ea1 eb1 sa1 sb1 hsh
      rw [hK] at ea2 eb2 sa2 sb2 hsh
      go_wp2_with fail
      obtain ⟨u0, hu0, bb⟩ : ∃ u0, wr.drew = u0 ∧ Below wr.heap.size wr u0 := ⟨_, rfl, (Below.refl _ _).drew⟩
      replace ea1 := HL1.cell bb ea1
      replace ea2 := HL1.cell bb ea2
      replace eb1 := HL2.cell bb eb1
      replace eb2 := HL2.cell bb eb2
      replace sa1 := sa1.below bb
      replace sa2 := sa2.below bb
      replace sb1 := sb1.below bb
      replace sb2 := sb2.below bb
      replace HL1 := HL1.below bb
      replace HL2 := HL2.below bb
      replace B := B.trans (bb.mono B.size)
      clear bb
      refine wp_region_held_drew (S := Cells4g ⟨g1, k * 2, none⟩ (.slice xa N ca) ⟨g1, k * 2 + 1, none⟩ (.slice ya K da) ⟨g2, k * 2, none⟩ (.slice xb N cb) ⟨g2, k * 2 + 1, none⟩ (.slice yb K db)) (by kernel_rfl) (by rw [hu0]; exact ⟨ea1, ea2, eb1, eb2⟩) (fun hHeld => ?_)
      rw [hu0] at hHeld ⊢
      clear hu0
      change wpAnyH _ _ _ _ _ 10 #[false, false, false, false, false, false, false, false, false, false] _ _
      refine wpAnyH_take (i := 0) (v := .slice (some ⟨g1, 0, none⟩) n c1) rfl (by kernel_rfl) (by kernel_rfl) (by kernel_rfl) (fun _ _ _ h => h) (Or.inl ⟨by kernel_rfl, ?_⟩) hHeld ?_
      · intro w' hSw; go_simp
      try simp only [Act.put, List.setIfInBounds_toArray, List.set_cons_zero]
      refine wpAnyH_take (i := 1) (v := .int .i64 (k : Int)) rfl (by kernel_rfl) (by kernel_rfl) (by kernel_rfl) (fun _ _ _ h => h) (Or.inl ⟨by kernel_rfl, ?_⟩) hHeld ?_
      · intro w' hSw; go_simp
      try simp only [Act.put, List.setIfInBounds_toArray, List.set_cons_zero, List.set_cons_succ]
      refine wpAnyH_take (i := 2) (v := .pointer (some ⟨g1, k * 2, none⟩)) rfl (by kernel_rfl) (by kernel_rfl) (by kernel_rfl) (fun _ _ _ h => h) (Or.inl ⟨by kernel_rfl, ?_⟩) hHeld ?_
      · intro w' hSw; go_simp
      try simp only [Act.put, List.setIfInBounds_toArray, List.set_cons_zero, List.set_cons_succ]
      refine wpAnyH_take (i := 3) (v := .agg #[.slice xa N ca, .slice ya K da]) rfl (by kernel_rfl) (by kernel_rfl) (by kernel_rfl) (fun _ _ _ h => h) (Or.inl ⟨by kernel_rfl, ?_⟩) hHeld ?_
      · intro w' hSw; obtain ⟨z0, z1, -, -⟩ := hSw; go_simp
      try simp only [Act.put, List.setIfInBounds_toArray, List.set_cons_zero, List.set_cons_succ]
      refine wpAnyH_take (i := 4) (v := .slice (some ⟨g2, 0, none⟩) n c2) rfl (by kernel_rfl) (by kernel_rfl) (by kernel_rfl) (fun _ _ _ h => h) (Or.inl ⟨by kernel_rfl, ?_⟩) hHeld ?_
      · intro w' hSw; go_simp
      try simp only [Act.put, List.setIfInBounds_toArray, List.set_cons_zero, List.set_cons_succ]
      refine wpAnyH_take (i := 5) (v := .int .i64 (k : Int)) rfl (by kernel_rfl) (by kernel_rfl) (by kernel_rfl) (fun _ _ _ h => h) (Or.inl ⟨by kernel_rfl, ?_⟩) hHeld ?_
      · intro w' hSw; go_simp
      try simp only [Act.put, List.setIfInBounds_toArray, List.set_cons_zero, List.set_cons_succ]
      refine wpAnyH_take (i := 6) (v := .pointer (some ⟨g2, k * 2, none⟩)) rfl (by kernel_rfl) (by kernel_rfl) (by kernel_rfl) (fun _ _ _ h => h) (Or.inl ⟨by kernel_rfl, ?_⟩) hHeld ?_
      · intro w' hSw; go_simp
      try simp only [Act.put, List.setIfInBounds_toArray, List.set_cons_zero, List.set_cons_succ]
      refine wpAnyH_take (i := 7) (v := .agg #[.slice xb N cb, .slice yb K db]) rfl (by kernel_rfl) (by kernel_rfl) (by kernel_rfl) (fun _ _ _ h => h) (Or.inl ⟨by kernel_rfl, ?_⟩) hHeld ?_
      · intro w' hSw; obtain ⟨-, -, z0, z1⟩ := hSw; go_simp
      try simp only [Act.put, List.setIfInBounds_toArray, List.set_cons_zero, List.set_cons_succ]
      refine wpAnyH_ready (rs := [8]) (by kernel_rfl) (by simp) ?_
      refine AllReadyH.cons rfl (fun KK hK' => ?_) AllReadyH.nil
      go_simp
      refine (eqOpSrc_true sa1 sb1 sa2 sb2 hsh.1 hsh.2).mono ?_
      rintro e u1 ⟨rfl, bb⟩
      replace ea1 := HL1.cell bb ea1
      replace ea2 := HL1.cell bb ea2
      replace eb1 := HL2.cell bb eb1
      replace eb2 := HL2.cell bb eb2
      replace sa1 := sa1.below bb
      replace sa2 := sa2.below bb
      replace sb1 := sb1.below bb
      replace sb2 := sb2.below bb
      replace HL1 := HL1.below bb
      replace HL2 := HL2.below bb
      replace B := B.trans (bb.mono B.size)
      clear bb
      try go_wp2_with fail
      clear hHeld
      refine hK'.out _ _ (⟨ea1, ea2, eb1, eb2⟩) (fun hHeld => ?_)
      clear hK' KK
      try simp only [List.setIfInBounds_toArray, List.set_cons_zero, List.set_cons_succ]
      refine wpAnyH_ready (rs := [9]) (by kernel_rfl) (by simp) ?_
      refine AllReadyH.cons rfl (fun KK hK' => ?_) AllReadyH.nil
      go_simp
      clear hHeld
      refine hK'.out _ _ (⟨ea1, ea2, eb1, eb2⟩) (fun hHeld => ?_)
      clear hK' KK
      try simp only [List.setIfInBounds_toArray, List.set_cons_zero, List.set_cons_succ]
      clear hHeld ea1 ea2 eb1 eb2 sa1 sa2 sb1 sb2 HL1 HL2
      refine wpAnyH_done (by kernel_rfl) ?_ _
      go_wp2
      exact ⟨⟨k + 1, by omega, by go_num, B⟩, by simp [intOf]; omega⟩
    · have hlt' : ¬ (k : Int) < (n : Int) := by omega
      go_wp2
      go_ret
      exact ⟨rfl, B⟩
end Go.Proofs.YtiocneailhplkaaGreat
/-
  Operators as a map's keys. No function of the program.
-/
namespace Go.Proofs.YtiocneailhplkaaGreat
open Go.RowKit

theorem laidOutP : laidOutB Tryz.prog = true := by kernel_rfl
theorem keyed65 : Go.Maps.Keyed Tryz.prog 90 := Go.Maps.Keyed.of_law (deep_law_laid laidOutP (m := 4) (by omega) (of_decide_eq_true (by kernel_rfl)) (by kernel_rfl) (by kernel_rfl))
/-- An operator as a value. -/
def kV (k : Nat → Int) : Value := .agg (kc k).toArray
theorem kV_opA (f h : Nat → Int) : kV (cat 9 f h) = .agg (opA f h) := rfl
def small (k : Nat → Int) : Prop := ∀ j, j < 12 → -1000 ≤ k j ∧ k j ≤ 1000
theorem wf_small {n : Int} (h : -1000 ≤ n ∧ n ≤ 1000) : (Lit.int .i64 n).wf = true := by
  have h1 : -9223372036854775808 ≤ n ∧ n ≤ 9223372036854775807 := by omega
  simpa [Lit.wf, IntKind.min, IntKind.max, IntKind.bits, IntKind.signed] using h1
theorem lits1 (d : Nat) {n : Int} (h : -1000 ≤ n ∧ n ≤ 1000) : Tryz.prog.keyLits (d + 1) 2 [.int .i64 n] = some [.int .i64 n] := by
  unfold Program.keyLits
  rw [Tryz.underlying2]
  simp [wf_small h]
theorem cells61 : Tryz.prog.cellsOf 88 = 9 := by kernel_rfl
theorem cells63 : Tryz.prog.cellsOf 66 = 3 := by kernel_rfl
theorem cells65 : Tryz.prog.cellsOf 90 = 12 := by kernel_rfl
theorem cells2' : Tryz.prog.cellsOf 2 = 1 := by kernel_rfl
theorem lits9 (d : Nat) {k : Nat → Int} (h : small k) : Tryz.prog.keyLits (d + 2) 88 [.int .i64 (k 0), .int .i64 (k 1), .int .i64 (k 2), .int .i64 (k 3), .int .i64 (k 4), .int .i64 (k 5), .int .i64 (k 6), .int .i64 (k 7), .int .i64 (k 8)] = some [.int .i64 (k 0), .int .i64 (k 1), .int .i64 (k 2), .int .i64 (k 3), .int .i64 (k 4), .int .i64 (k 5), .int .i64 (k 6), .int .i64 (k 7), .int .i64 (k 8)] := by
  unfold Program.keyLits
  have u : Tryz.prog.underlying 88 = some (.array 9 2) := by kernel_rfl
  rw [u]
  simp [cells61, cells2', List.range, List.range.loop, lits1 d (h 0 (by omega)), lits1 d (h 1 (by omega)), lits1 d (h 2 (by omega)), lits1 d (h 3 (by omega)), lits1 d (h 4 (by omega)), lits1 d (h 5 (by omega)), lits1 d (h 6 (by omega)), lits1 d (h 7 (by omega)), lits1 d (h 8 (by omega))]
theorem lits3 (d : Nat) {k : Nat → Int} (h : small k) : Tryz.prog.keyLits (d + 2) 66 [.int .i64 (k 9), .int .i64 (k 10), .int .i64 (k 11)] = some [.int .i64 (k 9), .int .i64 (k 10), .int .i64 (k 11)] := by
  unfold Program.keyLits
  have u : Tryz.prog.underlying 66 = some (.array 3 2) := by kernel_rfl
  rw [u]
  simp [cells63, cells2', List.range, List.range.loop, lits1 d (h 9 (by omega)), lits1 d (h 10 (by omega)), lits1 d (h 11 (by omega))]
theorem key_kV {k : Nat → Int} (h : small k) : ∃ l, keyOf Tryz.prog 90 (kV k) = some l := by
  have hS : Tryz.prog.underlying 90 = some (.struct (Tryz.prog.fieldsOf 90)) := by kernel_rfl
  have hk : Tryz.prog.keyType 90 = true := by kernel_rfl
  have hf : (kV k).formed Tryz.prog 90 = true := by
    unfold kV Value.formed
    simp only [hS]
    simp [kc, cells65]
  have hT : ∃ d, Tryz.prog.types.size + 1 = d + 3 := ⟨Tryz.prog.types.size - 2, by (have h3 : 3 ≤ Tryz.prog.types.size := of_decide_eq_true (by kernel_rfl)); omega⟩
  obtain ⟨d, hd⟩ := hT
  unfold keyOf
  simp only [hS]
  rw [if_pos (by simp [hk, hf]), hd]
  refine ⟨.string (keyBytes [.int .i64 (k 0), .int .i64 (k 1), .int .i64 (k 2), .int .i64 (k 3), .int .i64 (k 4), .int .i64 (k 5), .int .i64 (k 6), .int .i64 (k 7), .int .i64 (k 8), .int .i64 (k 9), .int .i64 (k 10), .int .i64 (k 11)]), ?_⟩
  unfold Program.keyLits
  have hc : (kV k).cells.toList = kc k := rfl
  simp only [Tryz.underlying90, hc]
  rw [if_pos ⟨by rw [cells65]; rfl, by simp⟩]
  have h9 := lits9 d h
  have h3 := lits3 d h
  simp only [kc, List.mapM_cons, List.mapM_nil, cells61, cells63, List.drop, List.take, h9, h3]
  rfl
end Go.Proofs.YtiocneailhplkaaGreat
/-
  A map whose keys are operators: what it holds. No function of the program.
-/
namespace Go.Proofs.YtiocneailhplkaaGreat
open Go.RowKit Go.ChangeShapes Go.WideShapes Go.MapKept
open Go.ChangeMaps (setBlock heap_setBlock_same heap_setBlock_other)
open Go.WideElems (Fit rd rg pl rd_mk)

/-- How a value of the map reads. -/
noncomputable def RE : Value → Option (DataW Unit × List MemPlace) := plainElem Tryz.prog 2
theorem re_int {n : Int} (h : (Lit.int .i64 n).wf = true) : RE (.int .i64 n) = some (.lit (.int .i64 n), []) := by
  unfold RE plainElem
  rw [Tryz.underlying2]
  simp [h]
/-- Block b is a map with these keys, in the order in which they came. -/
def MapV (w : World) (b : Nat) (ks : List (Nat → Int)) : Prop :=
  ∃ es clock, w.heap[b]? = some (.map es clock) ∧ Fit Tryz.prog 90 RE es clock ∧ es.toList.map (·.key) = ks.map kV
theorem MapV.lt {w : World} {b : Nat} {ks : List (Nat → Int)} (h : MapV w b ks) : b < w.heap.size := by
  obtain ⟨es, clock, hb, -⟩ := h
  exact (Array.getElem?_eq_some_iff.1 hb).1
theorem MapV.of_block {w w' : World} {b : Nat} {ks : List (Nat → Int)} (h : MapV w b ks) (hb : w'.heap[b]? = w.heap[b]?) : MapV w' b ks := by
  obtain ⟨es, clock, h1, h2⟩ := h
  exact ⟨es, clock, hb.trans h1, h2⟩
theorem MapV.below {w w' : World} {b : Nat} {ks : List (Nat → Int)} (h : MapV w b ks) (hb : Below w.heap.size w w') : MapV w' b ks := h.of_block (hb.block b h.lt)
theorem MapV.nodup {w : World} {b : Nat} {ks : List (Nat → Int)} (h : MapV w b ks) : (ks.map kV).Nodup := by
  obtain ⟨es, clock, h1, h2, h3⟩ := h
  rw [← h3]
  exact h2.stamped.2.2
theorem MapV.size {w : World} {b : Nat} {ks : List (Nat → Int)} (h : MapV w b ks) : ∃ es clock, w.heap[b]? = some (.map es clock) ∧ es.size = ks.length := by
  obtain ⟨es, clock, h1, h2, h3⟩ := h
  have := congrArg List.length h3
  simp at this
  exact ⟨es, clock, h1, this⟩
theorem und75 : Tryz.prog.underlying 117 = some (.map 90 2) := by kernel_rfl
/-- Is the key there? -/
theorem MapV.look {w : World} {b : Nat} {ks : List (Nat → Int)} {k : Nat → Int} (h : MapV w b ks) (hk : small k) :
    ∃ z r, (Instr.lookup 117 (.map (some b)) (kV k) true).run Tryz.prog w = .ok (.tuple #[z, .bool r]) w ∧ (r = true ↔ kV k ∈ ks.map kV) := by
  obtain ⟨l, hl⟩ := key_kV hk
  obtain ⟨es, clock, h1, h2, h3⟩ := h
  have hz : (zeroValue 2).run Tryz.prog w = .ok (.int .i64 0) w := by kernel_rfl
  rcases Go.Maps.fit_look true keyed65 und75 hz h1 h2 hl with ⟨hr, hn, -⟩ | ⟨e0, y, hm, he, hr, -⟩
  · refine ⟨_, false, hr, ⟨fun x => absurd x (by decide), fun x => ?_⟩⟩
    rw [← h3] at x
    obtain ⟨e, hm, hke⟩ := List.mem_map.1 x
    exact absurd hke (hn e hm)
  · refine ⟨_, true, hr, ⟨fun _ => ?_, fun _ => rfl⟩⟩
    rw [← h3]
    exact List.mem_map.2 ⟨e0, hm, he⟩
/-- A new key. -/
theorem MapV.store {w : World} {b : Nat} {ks : List (Nat → Int)} {k : Nat → Int} {n : Int} (h : MapV w b ks) (hk : small k) (hn : (Lit.int .i64 n).wf = true) (hnew : kV k ∉ ks.map kV) (hroom : ks.length < maxLen) :
    ∃ w', (Instr.mapUpdate 117 (.map (some b)) (kV k) (.int .i64 n)).run Tryz.prog w = .ok () w' ∧ MapV w' b (ks ++ [k]) ∧ w.grownBy w' (some b) ∧ w'.heap.size = w.heap.size := by
  obtain ⟨l, hl⟩ := key_kV hk
  obtain ⟨es, clock, h1, h2, h3⟩ := h
  have hes : es.size = ks.length := by have := congrArg List.length h3; simpa using this
  have hv := re_int hn
  have hno : ∀ x ∈ es.toList, x.key ≠ kV k := fun x hx e => hnew (by rw [← h3]; exact List.mem_map.2 ⟨x, hx, e⟩)
  rcases keyed65.find w hl es.toList h2.keys with ⟨f1, f2⟩ | ⟨j, e0, f1, f2, f3⟩
  · refine ⟨setBlock w b (.map (es.push ⟨kV k, .int .i64 n, clock⟩) (clock + 1)), ?_, ⟨_, _, heap_setBlock_same h1 _, ⟨by simp; omega, stamped_push h2.stamped hno, ?_⟩, ?_⟩, ⟨rfl, rfl, rfl, by simp [setBlock], fun i _ hi => heap_setBlock_other h1 _ (fun e => hi (by rw [e]))⟩, by simp [setBlock]⟩
    · simp [Instr.mapUpdate, run_underlying und75, MapKept.run_getObj_map h1, keyed65.check w false hl, f1, MapKept.run_setObj_map _ h1, Result.andThen, setBlock]
    · intro x hx
      simp only [Array.toList_push, List.mem_append, List.mem_singleton] at hx
      rcases hx with hx | rfl
      · exact h2.reads x hx
      · exact ⟨_, rd_mk hl hv⟩
    · simp [h3]
  · exact absurd f3 (hno e0 (List.mem_of_getElem? f2))
theorem mapV_new (w : World) : MapV (w.alloc (.map #[] 0)) w.heap.size [] := by
  refine ⟨#[], 0, heap_alloc_new _ _, ⟨by simp, ⟨by simp, by simp, by simp⟩, by simp⟩, rfl⟩
theorem makeMap75 (w : World) : (Instr.makeMap 117 none).run Tryz.prog w = .ok (.map (some w.heap.size)) (w.alloc (.map #[] 0)) := by kernel_rfl
theorem kV_inj {k k' : Nat → Int} : kV k = kV k' ↔ lexC 12 k k' = 0 := by
  rw [lexC_zero]
  constructor
  · intro h
    have h1 : kc k = kc k' := by simpa [kV] using h
    intro j hj
    have h2 := kc_get k j hj
    rw [h1, kc_get k' j hj] at h2
    simpa using h2.symm
  · intro h
    unfold kV kc
    rw [h 0 (by omega), h 1 (by omega), h 2 (by omega), h 3 (by omega), h 4 (by omega), h 5 (by omega), h 6 (by omega), h 7 (by omega), h 8 (by omega), h 9 (by omega), h 10 (by omega), h 11 (by omega)]
end Go.Proofs.YtiocneailhplkaaGreat
