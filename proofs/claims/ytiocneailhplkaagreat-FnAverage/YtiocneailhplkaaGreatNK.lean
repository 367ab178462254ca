/-
  Operators drawn, some of them spoiled, walked.
-/
import Derived.Test.YtiocneailhplkaaGreatNH
namespace Go.Proofs.YtiocneailhplkaaGreat
open Go.RowKit

/-- A list that was drawn: it is empty, or it lies in a block from lo on, x apart. -/
def SrcLo (w : World) (lo x : Nat) (a : Option Addr) (n : Nat) (f : Nat → Int) : Prop := n = 0 ∨ ∃ g off, a = some ⟨g, off, none⟩ ∧ (lo ≤ g ∧ g ≠ x) ∧ g < w.heap.size ∧ Ints w g off n f
theorem SrcLo.src {w : World} {lo x : Nat} {a : Option Addr} {n : Nat} {f : Nat → Int} (h : SrcLo w lo x a n f) : Src w a n f := by
  rcases h with h | ⟨g, off, e, l, u, i⟩
  · exact .inl h
  · exact .inr ⟨g, off, e, u, i⟩
theorem SrcLo.kept {w w' : World} {p lo x : Nat} {a : Option Addr} {n : Nat} {f : Nat → Int} (h : SrcLo w lo x a n f) (hk : Kept p w w') (hp : p < lo) : SrcLo w' lo x a n f := by
  rcases h with h | ⟨g, off, e, l, u, i⟩
  · exact .inl h
  · exact .inr ⟨g, off, e, l, Nat.lt_of_lt_of_le u hk.size, fun j hj => (hk.cell (by omega) u).trans (i j hj)⟩
theorem SrcLo.below {w w' : World} {lo x : Nat} {a : Option Addr} {n : Nat} {f : Nat → Int} (h : SrcLo w lo x a n f) (hb : Below w.heap.size w w') : SrcLo w' lo x a n f := by
  rcases h with h | ⟨g, off, e, l, u, i⟩
  · exact .inl h
  · exact .inr ⟨g, off, e, l, Nat.lt_of_lt_of_le u hb.size, i.below u hb⟩
theorem SrcLo.set {w : World} {lo x q j : Nat} {a : Option Addr} {n : Nat} {f : Nat → Int} (h : SrcLo w lo x a n f) (hq : q = x ∨ q < lo) (v : Value) : SrcLo (w.setCell ⟨q, j, none⟩ v) lo x a n f := by
  rcases h with h | ⟨g, off, e, l, u, i⟩
  · exact .inl h
  · refine .inr ⟨g, off, e, l, by simpa [World.setCell] using u, fun j hj => ?_⟩
    exact (World.cell?_of_block (w := w) (Below.heap_setCell _ _ _ _ (show g ≠ q by omega))).trans (i j hj)
theorem SrcLo.weak {w : World} {lo x lo' x' : Nat} {a : Option Addr} {n : Nat} {f : Nat → Int} (h : SrcLo w lo x a n f) (hl : lo' ≤ lo) (hx : x' < lo) : SrcLo w lo' x' a n f := by
  rcases h with h | ⟨g, off, e, l, u, i⟩
  · exact .inl h
  · exact .inr ⟨g, off, e, ⟨by omega, by omega⟩, u, i⟩
/-- An operator that was drawn, right or wrong. -/
def AnyOp (w : World) (lo x : Nat) (o : Value) : Prop := ∃ a n c b k d f h, o = .agg #[.slice a n c, .slice b k d] ∧ SrcLo w lo x a n f ∧ SrcLo w lo x b k h ∧ n ≤ 9 ∧ k ≤ 9
theorem AnyOp.kept {w w' : World} {p lo x : Nat} {o : Value} (h : AnyOp w lo x o) (hk : Kept p w w') (hp : p < lo) : AnyOp w' lo x o := by
  obtain ⟨a, n, c, b, k, d, f, h, e, s, t, z⟩ := h
  exact ⟨a, n, c, b, k, d, f, h, e, s.kept hk hp, t.kept hk hp, z⟩
theorem AnyOp.below {w w' : World} {lo x : Nat} {o : Value} (h : AnyOp w lo x o) (hb : Below w.heap.size w w') : AnyOp w' lo x o := by
  obtain ⟨a, n, c, b, k, d, f, h, e, s, t, z⟩ := h
  exact ⟨a, n, c, b, k, d, f, h, e, s.below hb, t.below hb, z⟩
theorem anyOp_nil (w : World) (lo x : Nat) : AnyOp w lo x (.agg #[.slice none 0 0, .slice none 0 0]) := ⟨none, 0, 0, none, 0, 0, fun _ => 0, fun _ => 0, rfl, .inl rfl, .inl rfl, by decide, by decide⟩
theorem made_lo {w : World} {lo x g c n m : Nat} {f : Nat → Int} (h : Made w g c n f) (hl : lo ≤ g ∧ g ≠ x) (hm : m ≤ n) : SrcLo w lo x (some ⟨g, 0, none⟩) m f := .inr ⟨g, 0, rfl, hl, h.lt, fun i hi => made_ints h i (by omega)⟩
theorem own_of_made {w : World} {lo g c n : Nat} {f : Nat → Int} (h : Made w g c n f) (hl : lo ≤ g) (hn : n ≤ c) (hc : c ≤ maxLen) : w.ownsRow lo 2 1 (.slice (some ⟨g, 0, none⟩) n c) n (iCells f n) := by
  obtain ⟨cur, h1, h2, h3⟩ := h
  refine ⟨by simp [iCells_len], .inr ⟨g, c, cur, rfl, hl, h1, hn, hc, by omega, ?_⟩⟩
  apply List.ext_getElem?
  intro i
  by_cases hi : i < n
  · rw [List.getElem?_take_of_lt (by omega), iCells_at f hi]
    simpa using h3 i hi
  · rw [List.getElem?_eq_none (by simp; omega), List.getElem?_eq_none (by rw [iCells_len]; omega)]
theorem tab4 {w : World} {q : Nat} {v0 v1 v2 v3 : Int} (h : At 2 w q #[.int .i64 v0, .int .i64 v1, .int .i64 v2, .int .i64 v3]) (z : Nat) (hz : z < 4) : ∃ y : Int, w.cell? ⟨q, z, none⟩ = some (.int .i64 y) := by
  rcases (by omega : z = 0 ∨ z = 1 ∨ z = 2 ∨ z = 3) with rfl | rfl | rfl | rfl
  · exact ⟨_, h.cell 0 rfl⟩
  · exact ⟨_, h.cell 1 rfl⟩
  · exact ⟨_, h.cell 2 rfl⟩
  · exact ⟨_, h.cell 3 rfl⟩
theorem tab10 {w : World} {q : Nat} {v0 v1 v2 v3 v4 v5 v6 v7 v8 v9 : Int} (h : At 2 w q #[.int .i64 v0, .int .i64 v1, .int .i64 v2, .int .i64 v3, .int .i64 v4, .int .i64 v5, .int .i64 v6, .int .i64 v7, .int .i64 v8, .int .i64 v9]) (z : Nat) (hz : z < 10) : ∃ y : Int, w.cell? ⟨q, z, none⟩ = some (.int .i64 y) := by
  rcases (by omega : z = 0 ∨ z = 1 ∨ z = 2 ∨ z = 3 ∨ z = 4 ∨ z = 5 ∨ z = 6 ∨ z = 7 ∨ z = 8 ∨ z = 9) with rfl | rfl | rfl | rfl | rfl | rfl | rfl | rfl | rfl | rfl
  · exact ⟨_, h.cell 0 rfl⟩
  · exact ⟨_, h.cell 1 rfl⟩
  · exact ⟨_, h.cell 2 rfl⟩
  · exact ⟨_, h.cell 3 rfl⟩
  · exact ⟨_, h.cell 4 rfl⟩
  · exact ⟨_, h.cell 5 rfl⟩
  · exact ⟨_, h.cell 6 rfl⟩
  · exact ⟨_, h.cell 7 rfl⟩
  · exact ⟨_, h.cell 8 rfl⟩
  · exact ⟨_, h.cell 9 rfl⟩
/-- Of what was there, the blocks p, g1, g2 alone may have turned. -/
def Fr (p g1 g2 : Nat) (w u : World) : Prop := w.heap.size ≤ u.heap.size ∧ ∀ k, k < w.heap.size → k ≠ p → k ≠ g1 → k ≠ g2 → u.heap[k]? = w.heap[k]?
theorem Fr.below {p g1 g2 : Nat} {w u u' : World} (h : Fr p g1 g2 w u) (hb : Below u.heap.size u u') : Fr p g1 g2 w u' :=
  ⟨Nat.le_trans h.1 hb.size, fun k hk h1 h2 h3 => (hb.block k (Nat.lt_of_lt_of_le hk h.1)).trans (h.2 k hk h1 h2 h3)⟩
theorem Fr.kept {p g1 g2 : Nat} {w u u' : World} (h : Fr p g1 g2 w u) (hb : Kept p u u') : Fr p g1 g2 w u' :=
  ⟨Nat.le_trans h.1 hb.size, fun k hk h1 h2 h3 => (hb.block k (Nat.lt_of_lt_of_le hk h.1) h1).trans (h.2 k hk h1 h2 h3)⟩
theorem Fr.set {p g1 g2 g i : Nat} {w u : World} (h : Fr p g1 g2 w u) (hg : g = g1 ∨ g = g2 ∨ w.heap.size ≤ g) (v : Value) : Fr p g1 g2 w (u.setCell ⟨g, i, none⟩ v) :=
  ⟨by have := h.1; simpa [World.setCell] using this, fun k hk h1 h2 h3 => (Below.heap_setCell _ _ _ _ (show k ≠ g by omega)).trans (h.2 k hk h1 h2 h3)⟩
theorem Fr.grown {p g1 g2 : Nat} {w u u' : World} {row : Option Nat} (h : Fr p g1 g2 w u) (hg : u.grownBy u' row) (hr : ∀ x, row = some x → x = g2) : Fr p g1 g2 w u' :=
  ⟨Nat.le_trans h.1 hg.size, fun k hk h1 h2 h3 => (hg.block k (Nat.lt_of_lt_of_le hk h.1) (fun e => h3 (hr k e.symm))).trans (h.2 k hk h1 h2 h3)⟩
set_option maxRecDepth 100000 in
theorem odd_dr {w0 w : World} {p : Nat} {a : Option Addr} {len cap : Nat} (hd : Dr w0 p a len cap w) (hp : p < w0.heap.size) :
    Calls Tryz.prog 91 #[.pointer (some ⟨p, 0, none⟩)] w fun e w' => ∃ x : Int, e = .returned (.int .i64 x) ∧ Dr w0 p a len cap w' := by
  obtain ⟨W1, hW1, a1, B1, -⟩ := boxed w 2 #[.int .i64 (-1), .int .i64 0, .int .i64 1, .int .i64 2147483648, .int .i64 (-2147483648), .int .i64 1099511627776, .int .i64 4611686018427387904, .int .i64 (-4611686018427387904), .int .i64 9223372036854775807, .int .i64 (-9223372036854775808)]
  have hs : w0.heap.size ≤ w.heap.size := hd.1.size
  replace hd := hd.below B1
  clear B1
  go_enter Tryz.func91, Tryz.ntmps91
  go_wp2_with fail
  refine (below_dr (Dr.start hd.2) 10 (by omega) (by omega)).mono ?_
  rintro e w2 ⟨z, rfl, z0, z1, hd2⟩
  replace a1 := a1.kept hd2.1 (by omega)
  replace hd := hd2.from hd.1
  obtain ⟨y, rfl⟩ := Int.eq_ofNat_of_zero_le z0
  obtain ⟨v, hv⟩ := tab10 a1 y (by omega)
  clear hW1 a1 hd2
  have hy : (y : Int) < 10 := by omega
  go_wp2
  go_ret
  exact ⟨_, rfl, hd⟩
set_option maxRecDepth 100000 in
set_option maxHeartbeats 1600000 in
theorem spoil_dr {w0 w : World} {p g1 g2 : Nat} {a : Option Addr} {len cap : Nat} {f h : Nat → Int} (HD : Dr w0 p a len cap w) (PP : Pair w w0.heap.size g1 9 g2 3 f h) (hlt : p < w0.heap.size) {X : Nat} (hX : X ≠ g1 ∧ X ≠ g2 ∧ X < w.heap.size) :
    Calls Tryz.prog 73 #[.pointer (some ⟨p, 0, none⟩), .agg #[.slice (some ⟨g1, 0, none⟩) 9 9, .slice (some ⟨g2, 0, none⟩) 3 3]] w fun e w' => ∃ o, e = .returned o ∧ AnyOp w' w0.heap.size X o ∧ Fr p g1 g2 w w' ∧ Dr w0 p a len cap w' := by
  obtain ⟨W1, hW1, A1, B1, z1⟩ := boxed w 57 #[.slice (some ⟨g1, 0, none⟩) 9 9, .slice (some ⟨g2, 0, none⟩) 3 3]
  obtain ⟨W2, hW2, A2, B2, z2⟩ := boxed W1 57 #[.slice none 0 0, .slice none 0 0]
  have t1 := PP.2.1.lt
  have t2 := PP.2.2.lt
  have hs : w0.heap.size ≤ w.heap.size := HD.1.size
  have hne := PP.1
  have hW : w.heap.size < W1.heap.size := by omega
  have hWW : W1.heap.size < W2.heap.size := by omega
  have FR : Fr p g1 g2 w W2 := Fr.below (Fr.below ⟨Nat.le_refl _, fun _ _ _ _ _ => rfl⟩ B1) B2
  replace PP := (PP.below B1).below B2
  replace HD := (HD.below B1).below B2
  replace A1 := A1.below B2
  clear z1 z2 B1 B2
  go_enter Tryz.func73, Tryz.ntmps73
  go_wp2_with fail
  refine (below_dr (Dr.start HD.2) 6 (by omega) (by omega)).mono ?_
  rintro e u0' ⟨x, rfl, x0, xx, hdn⟩
  clear hW1 hW2
  replace A1 := A1.kept hdn.1 (by omega)
  replace A2 := A2.kept hdn.1 (by omega)
  replace PP := PP.kept hdn.1 hlt
  replace FR := FR.kept hdn.1
  have zw : W2.heap.size ≤ u0'.heap.size := hdn.1.size
  replace HD := hdn.from HD.1
  clear hdn
  obtain ⟨q, hq⟩ : ∃ q, w.heap.size = q := ⟨_, rfl⟩
  obtain ⟨qr, hqr⟩ : ∃ q, W1.heap.size = q := ⟨_, rfl⟩
  rw [hq] at A1 ⊢
  rw [hqr] at A2 ⊢
  have hwq : w.heap.size ≤ q := by omega
  have hqq : q < qr ∧ qr < u0'.heap.size ∧ g1 < q ∧ g2 < q ∧ w0.heap.size ≤ q := by omega
  clear hq hqr hW hWW zw hs t1 t2
  rcases (by omega : x = 0 ∨ x = 1 ∨ x = 2 ∨ x = 3 ∨ x = 4 ∨ x = 5) with rfl | rfl | rfl | rfl | rfl | rfl
  · go_wp2_with fail
    obtain ⟨u0, hu0, A1', A2', PP', FR', HD', zu0⟩ : ∃ u0, u0'.drew = u0 ∧ At 57 u0 q #[.slice (some ⟨g1, 0, none⟩) 9 9, .slice (some ⟨g2, 0, none⟩) 3 3] ∧ At 57 u0 qr #[.slice none 0 0, .slice none 0 0] ∧ Pair u0 w0.heap.size g1 9 g2 3 f h ∧ Fr p g1 g2 w u0 ∧ Dr w0 p a len cap u0 ∧ u0'.heap.size ≤ u0.heap.size := ⟨_, rfl, A1, A2, PP.below (Below.refl _ _).drew, FR.below (Below.refl _ _).drew, HD.below (Below.refl _ _).drew, Nat.le_refl _⟩
    clear A1 A2 PP HD FR
    have FR := FR'
    have A1 := A1'
    have A2 := A2'
    have PP := PP'
    have HD := HD'
    clear A1' A2' PP' HD' FR'
    refine wp_region_held_drew (S := One2 q (.slice (some ⟨g1, 0, none⟩) 9 9) (.slice (some ⟨g2, 0, none⟩) 3 3)) (by kernel_rfl) (by rw [hu0]; exact one2_mk A1) (fun hHeld => ?_)
    rw [hu0] at hHeld ⊢
    clear hu0
    change wpAnyH _ _ _ _ _ 8 #[false, false, false, false, false, false, false, false] _ _
    refine wpAnyH_take (i := 0) (v := .pointer (some ⟨q, 0, none⟩)) rfl (by kernel_rfl) (by kernel_rfl) (by kernel_rfl) (fun _ _ _ h => h) (Or.inl ⟨by kernel_rfl, ?_⟩) hHeld ?_
    · intro w' hSw; go_simp
    try simp only [Act.put, List.setIfInBounds_toArray, List.set_cons_zero]
    refine wpAnyH_take (i := 1) (v := .slice (some ⟨g1, 0, none⟩) 9 9) rfl (by kernel_rfl) (by kernel_rfl) (by kernel_rfl) (fun _ _ _ h => h) (Or.inl ⟨by kernel_rfl, ?_⟩) hHeld ?_
    · intro w' hSw; obtain ⟨z0, z1⟩ := hSw; go_simp
    try simp only [Act.put, List.setIfInBounds_toArray, List.set_cons_zero, List.set_cons_succ]
    refine wpAnyH_take (i := 2) (v := .pointer (some ⟨p, 0, none⟩)) rfl (by kernel_rfl) (by kernel_rfl) (by kernel_rfl) (fun _ _ _ h => h) (Or.inl ⟨by kernel_rfl, ?_⟩) hHeld ?_
    · intro w' hSw; go_simp
    try simp only [Act.put, List.setIfInBounds_toArray, List.set_cons_zero, List.set_cons_succ]
    refine wpAnyH_take (i := 4) (v := .pointer (some ⟨p, 0, none⟩)) rfl (by kernel_rfl) (by kernel_rfl) (by kernel_rfl) (fun _ _ _ h => h) (Or.inl ⟨by kernel_rfl, ?_⟩) hHeld ?_
    · intro w' hSw; go_simp
    try simp only [Act.put, List.setIfInBounds_toArray, List.set_cons_zero, List.set_cons_succ]
    refine wpAnyH_ready (rs := [3]) (by kernel_rfl) (by simp) ?_
    refine AllReadyH.cons rfl (fun KK hK' => ?_) AllReadyH.nil
    go_simp
    refine (below_dr (Dr.start HD.2) 9 (by omega) (by omega)).mono ?_
    rintro e u1 ⟨z, rfl, z0, z1, hdn⟩
    replace A1 := A1.kept hdn.1 (by omega)
    replace A2 := A2.kept hdn.1 (by omega)
    replace PP := PP.kept hdn.1 hlt
    replace FR := FR.kept hdn.1
    have zu1 : u0.heap.size ≤ u1.heap.size := hdn.1.size
    replace HD := hdn.from HD.1
    clear hdn
    try go_wp2_with fail
    clear hHeld
    refine hK'.out _ _ (one2_mk A1) (fun hHeld => ?_)
    clear hK' KK
    try simp only [List.setIfInBounds_toArray, List.set_cons_zero, List.set_cons_succ]
    refine wpAnyH_ready (rs := [5]) (by kernel_rfl) (by simp) ?_
    refine AllReadyH.cons rfl (fun KK hK' => ?_) AllReadyH.nil
    go_simp
    refine (from_dr (Dr.start HD.2) (-2) 2 (by omega) (by omega) (by omega)).mono ?_
    rintro e u2 ⟨v, rfl, v0, v1, hdn⟩
    replace A1 := A1.kept hdn.1 (by omega)
    replace A2 := A2.kept hdn.1 (by omega)
    replace PP := PP.kept hdn.1 hlt
    replace FR := FR.kept hdn.1
    have zu2 : u1.heap.size ≤ u2.heap.size := hdn.1.size
    replace HD := hdn.from HD.1
    clear hdn
    try go_wp2_with fail
    clear hHeld
    refine hK'.out _ _ (one2_mk A1) (fun hHeld => ?_)
    clear hK' KK
    try simp only [List.setIfInBounds_toArray, List.set_cons_zero, List.set_cons_succ]
    obtain ⟨y, rfl⟩ := Int.eq_ofNat_of_zero_le z0
    have hix : y < 9 := by omega
    have hiy : (y : Int) < 9 := by omega
    refine wpAnyH_take (i := 6) (v := .pointer (some ⟨g1, y, none⟩)) rfl (by kernel_rfl) (by kernel_rfl) (by kernel_rfl) (fun _ _ _ h => h) (Or.inl ⟨by kernel_rfl, ?_⟩) hHeld ?_
    · intro w' hSw; go_simp
    try simp only [Act.put, List.setIfInBounds_toArray, List.set_cons_zero, List.set_cons_succ]
    refine wpAnyH_ready (rs := [7]) (by kernel_rfl) (by simp) ?_
    refine AllReadyH.cons rfl (fun KK hK' => ?_) AllReadyH.nil
    obtain ⟨⟨l1, l2, ne12, n1, n2⟩, M1, M2⟩ := PP
    have hcell : u2.cell? ⟨g1, y, none⟩ = some (.int .i64 (f y)) ∧ u2.frozen? ⟨g1, y, none⟩ = false := by
      obtain ⟨cur, q1, q2, q3⟩ := M1
      exact ⟨q1.cell y (q3 y hix), q1.frozen y⟩
    obtain ⟨e1, e2⟩ := hcell
    go_simp
    clear e1 e2
    replace A1 := A1.setOther (p := g1) (i := y) (by omega) (.int .i64 v)
    replace A2 := A2.setOther (p := g1) (i := y) (by omega) (.int .i64 v)
    replace M2 := M2.setOther (q := g1) (i := y) (by omega) (.int .i64 v)
    replace M1 := M1.put hix (by omega) v
    replace HD := HD.set (g := g1) (i := y) (by omega) hlt (.int .i64 v)
    replace FR := FR.set (g := g1) (i := y) (by omega) (.int .i64 v)
    clear hHeld
    refine hK'.out _ _ (one2_mk A1) (fun hHeld => ?_)
    clear hK' KK
    try simp only [List.setIfInBounds_toArray, List.set_cons_zero, List.set_cons_succ]
    clear hHeld
    refine wpAnyH_done (by kernel_rfl) ?_ _
    obtain ⟨d0, d1, f0, f1⟩ := A1.open2
    obtain ⟨d2, d3, f2, f3⟩ := A2.open2
    go_wp2
    have a8 := nil2_at A2 (.slice (some ⟨g1, 0, none⟩) 9 9) (.slice (some ⟨g2, 0, none⟩) 3 3)
    obtain ⟨p0, p1, -⟩ := a8.open2
    have D8 := (HD.set (g := qr) (i := 0) (by omega) hlt (.slice (some ⟨g1, 0, none⟩) 9 9)).set (g := qr) (i := 1) (by omega) hlt (.slice (some ⟨g2, 0, none⟩) 3 3)
    have F8 := (FR.set (g := qr) (i := 0) (by omega) (.slice (some ⟨g1, 0, none⟩) 9 9)).set (g := qr) (i := 1) (by omega) (.slice (some ⟨g2, 0, none⟩) 3 3)
    have AO : AnyOp _ w0.heap.size X (.agg #[.slice (some ⟨g1, 0, none⟩) 9 9, .slice (some ⟨g2, 0, none⟩) 3 3]) := ⟨_, 9, _, _, 3, _, _, _, rfl, made_lo ((M1.setOther (q := qr) (i := 0) (by omega) (.slice (some ⟨g1, 0, none⟩) 9 9)).setOther (q := qr) (i := 1) (by omega) (.slice (some ⟨g2, 0, none⟩) 3 3)) (by omega) (Nat.le_refl _), made_lo ((M2.setOther (q := qr) (i := 0) (by omega) (.slice (some ⟨g1, 0, none⟩) 9 9)).setOther (q := qr) (i := 1) (by omega) (.slice (some ⟨g2, 0, none⟩) 3 3)) (by omega) (Nat.le_refl _), by decide, by decide⟩
    exact bodyPost_ret (v := .agg #[.slice (some ⟨g1, 0, none⟩) 9 9, .slice (some ⟨g2, 0, none⟩) 3 3]) (by simp [results, Tryz.results73, go_sem, p0, p1]) rfl ⟨_, rfl, AO, F8, D8⟩
  · go_wp2_with fail
    obtain ⟨u0, hu0, A1', A2', PP', FR', HD', zu0⟩ : ∃ u0, u0'.drew = u0 ∧ At 57 u0 q #[.slice (some ⟨g1, 0, none⟩) 9 9, .slice (some ⟨g2, 0, none⟩) 3 3] ∧ At 57 u0 qr #[.slice none 0 0, .slice none 0 0] ∧ Pair u0 w0.heap.size g1 9 g2 3 f h ∧ Fr p g1 g2 w u0 ∧ Dr w0 p a len cap u0 ∧ u0'.heap.size ≤ u0.heap.size := ⟨_, rfl, A1, A2, PP.below (Below.refl _ _).drew, FR.below (Below.refl _ _).drew, HD.below (Below.refl _ _).drew, Nat.le_refl _⟩
    clear A1 A2 PP HD FR
    have FR := FR'
    have A1 := A1'
    have A2 := A2'
    have PP := PP'
    have HD := HD'
    clear A1' A2' PP' HD' FR'
    refine wp_region_held_drew (S := One2 q (.slice (some ⟨g1, 0, none⟩) 9 9) (.slice (some ⟨g2, 0, none⟩) 3 3)) (by kernel_rfl) (by rw [hu0]; exact one2_mk A1) (fun hHeld => ?_)
    rw [hu0] at hHeld ⊢
    clear hu0
    change wpAnyH _ _ _ _ _ 11 #[false, false, false, false, false, false, false, false, false, false, false] _ _
    refine wpAnyH_take (i := 0) (v := .pointer (some ⟨q, 1, none⟩)) rfl (by kernel_rfl) (by kernel_rfl) (by kernel_rfl) (fun _ _ _ h => h) (Or.inl ⟨by kernel_rfl, ?_⟩) hHeld ?_
    · intro w' hSw; go_simp
    try simp only [Act.put, List.setIfInBounds_toArray, List.set_cons_zero]
    refine wpAnyH_take (i := 1) (v := .slice (some ⟨g2, 0, none⟩) 3 3) rfl (by kernel_rfl) (by kernel_rfl) (by kernel_rfl) (fun _ _ _ h => h) (Or.inl ⟨by kernel_rfl, ?_⟩) hHeld ?_
    · intro w' hSw; obtain ⟨z0, z1⟩ := hSw; go_simp
    try simp only [Act.put, List.setIfInBounds_toArray, List.set_cons_zero, List.set_cons_succ]
    refine wpAnyH_take (i := 2) (v := .pointer (some ⟨p, 0, none⟩)) rfl (by kernel_rfl) (by kernel_rfl) (by kernel_rfl) (fun _ _ _ h => h) (Or.inl ⟨by kernel_rfl, ?_⟩) hHeld ?_
    · intro w' hSw; go_simp
    try simp only [Act.put, List.setIfInBounds_toArray, List.set_cons_zero, List.set_cons_succ]
    refine wpAnyH_take (i := 5) (v := .pointer (some ⟨p, 0, none⟩)) rfl (by kernel_rfl) (by kernel_rfl) (by kernel_rfl) (fun _ _ _ h => h) (Or.inl ⟨by kernel_rfl, ?_⟩) hHeld ?_
    · intro w' hSw; go_simp
    try simp only [Act.put, List.setIfInBounds_toArray, List.set_cons_zero, List.set_cons_succ]
    refine wpAnyH_ready (rs := [3, 4]) (by kernel_rfl) (by simp) ?_
    refine AllReadyH.cons rfl (fun KK hK' => ?_) ?_
    · go_simp
      refine (below_dr (Dr.start HD.2) 3 (by omega) (by omega)).mono ?_
      rintro e u1 ⟨z, rfl, z0, z1, hdn⟩
      replace A1 := A1.kept hdn.1 (by omega)
      replace A2 := A2.kept hdn.1 (by omega)
      replace PP := PP.kept hdn.1 hlt
      replace FR := FR.kept hdn.1
      have zu1 : u0.heap.size ≤ u1.heap.size := hdn.1.size
      replace HD := hdn.from HD.1
      clear hdn
      try go_wp2_with fail
      clear hHeld
      refine hK'.out _ _ (one2_mk A1) (fun hHeld => ?_)
      clear hK' KK
      try simp only [List.setIfInBounds_toArray, List.set_cons_zero, List.set_cons_succ]
      refine wpAnyH_ready (rs := [4, 6]) (by kernel_rfl) (by simp) ?_
      refine AllReadyH.cons rfl (fun KK hK' => ?_) ?_
      · obtain ⟨u2, hb, tb, bb, -⟩ := boxed u1 2 #[.int .i64 (-1), .int .i64 23, .int .i64 24, .int .i64 4611686018427387904]
        go_simp
        try rw [hb]
        clear hb
        replace A1 := A1.below bb
        replace A2 := A2.below bb
        replace PP := PP.below bb
        replace FR := FR.below bb
        replace HD := HD.below bb
        have zu2 := bb.size
        clear bb
        obtain ⟨t, ht⟩ : ∃ t, u1.heap.size = t := ⟨_, rfl⟩
        have tt : w0.heap.size ≤ t := by omega
        rw [ht] at tb
        try rw [ht]
        clear ht
        clear hHeld
        refine hK'.out _ _ (one2_mk A1) (fun hHeld => ?_)
        clear hK' KK
        try simp only [List.setIfInBounds_toArray, List.set_cons_zero, List.set_cons_succ]
        refine wpAnyH_ready (rs := [6]) (by kernel_rfl) (by simp) ?_
        refine AllReadyH.cons rfl (fun KK hK' => ?_) AllReadyH.nil
        go_simp
        refine (below_dr (Dr.start HD.2) 4 (by omega) (by omega)).mono ?_
        rintro e u3 ⟨y, rfl, y0, y1, hdn⟩
        replace A1 := A1.kept hdn.1 (by omega)
        replace A2 := A2.kept hdn.1 (by omega)
        replace PP := PP.kept hdn.1 hlt
        replace FR := FR.kept hdn.1
        have ltt := tb.lt
        replace tb := tb.kept hdn.1 (by omega)
        have zu3 : u2.heap.size ≤ u3.heap.size := hdn.1.size
        replace HD := hdn.from HD.1
        clear hdn
        try go_wp2_with fail
        clear hHeld
        refine hK'.out _ _ (one2_mk A1) (fun hHeld => ?_)
        clear hK' KK
        try simp only [List.setIfInBounds_toArray, List.set_cons_zero, List.set_cons_succ]
        obtain ⟨y, rfl⟩ := Int.eq_ofNat_of_zero_le z0
        have hix : y < 3 := by omega
        have hiy : (y : Int) < 3 := by omega
        obtain ⟨y', rfl⟩ := Int.eq_ofNat_of_zero_le y0
        have hy8 : (y' : Int) < 4 := by omega
        obtain ⟨v, hv⟩ := tab4 tb y' (by omega)
        refine wpAnyH_take (i := 7) (v := .pointer (some ⟨t, y', none⟩)) rfl (by kernel_rfl) (by kernel_rfl) (by kernel_rfl) (fun _ _ _ h => h) (Or.inl ⟨by kernel_rfl, ?_⟩) hHeld ?_
        · intro w' hSw; go_simp
        try simp only [Act.put, List.setIfInBounds_toArray, List.set_cons_zero, List.set_cons_succ]
        refine wpAnyH_ready (rs := [8]) (by kernel_rfl) (by simp) ?_
        refine AllReadyH.cons rfl (fun KK hK' => ?_) AllReadyH.nil
        go_simp
        clear hHeld
        refine hK'.out _ _ (one2_mk A1) (fun hHeld => ?_)
        clear hK' KK
        try simp only [List.setIfInBounds_toArray, List.set_cons_zero, List.set_cons_succ]
        clear hv
        refine wpAnyH_take (i := 9) (v := .pointer (some ⟨g2, y, none⟩)) rfl (by kernel_rfl) (by kernel_rfl) (by kernel_rfl) (fun _ _ _ h => h) (Or.inl ⟨by kernel_rfl, ?_⟩) hHeld ?_
        · intro w' hSw; go_simp
        try simp only [Act.put, List.setIfInBounds_toArray, List.set_cons_zero, List.set_cons_succ]
        refine wpAnyH_ready (rs := [10]) (by kernel_rfl) (by simp) ?_
        refine AllReadyH.cons rfl (fun KK hK' => ?_) AllReadyH.nil
        obtain ⟨⟨l1, l2, ne12, n1, n2⟩, M1, M2⟩ := PP
        have hcell : u3.cell? ⟨g2, y, none⟩ = some (.int .i64 (h y)) ∧ u3.frozen? ⟨g2, y, none⟩ = false := by
          obtain ⟨cur, q1, q2, q3⟩ := M2
          exact ⟨q1.cell y (q3 y hix), q1.frozen y⟩
        obtain ⟨e1, e2⟩ := hcell
        go_simp
        clear e1 e2
        replace A1 := A1.setOther (p := g2) (i := y) (by omega) (.int .i64 v)
        replace A2 := A2.setOther (p := g2) (i := y) (by omega) (.int .i64 v)
        replace M1 := M1.setOther (q := g2) (i := y) (by omega) (.int .i64 v)
        replace M2 := M2.put hix (by omega) v
        replace HD := HD.set (g := g2) (i := y) (by omega) hlt (.int .i64 v)
        replace FR := FR.set (g := g2) (i := y) (by omega) (.int .i64 v)
        clear hHeld
        refine hK'.out _ _ (one2_mk A1) (fun hHeld => ?_)
        clear hK' KK
        try simp only [List.setIfInBounds_toArray, List.set_cons_zero, List.set_cons_succ]
        clear hHeld
        refine wpAnyH_done (by kernel_rfl) ?_ _
        obtain ⟨d0, d1, f0, f1⟩ := A1.open2
        obtain ⟨d2, d3, f2, f3⟩ := A2.open2
        go_wp2
        have a8 := nil2_at A2 (.slice (some ⟨g1, 0, none⟩) 9 9) (.slice (some ⟨g2, 0, none⟩) 3 3)
        obtain ⟨p0, p1, -⟩ := a8.open2
        have D8 := (HD.set (g := qr) (i := 0) (by omega) hlt (.slice (some ⟨g1, 0, none⟩) 9 9)).set (g := qr) (i := 1) (by omega) hlt (.slice (some ⟨g2, 0, none⟩) 3 3)
        have F8 := (FR.set (g := qr) (i := 0) (by omega) (.slice (some ⟨g1, 0, none⟩) 9 9)).set (g := qr) (i := 1) (by omega) (.slice (some ⟨g2, 0, none⟩) 3 3)
        have AO : AnyOp _ w0.heap.size X (.agg #[.slice (some ⟨g1, 0, none⟩) 9 9, .slice (some ⟨g2, 0, none⟩) 3 3]) := ⟨_, 9, _, _, 3, _, _, _, rfl, made_lo ((M1.setOther (q := qr) (i := 0) (by omega) (.slice (some ⟨g1, 0, none⟩) 9 9)).setOther (q := qr) (i := 1) (by omega) (.slice (some ⟨g2, 0, none⟩) 3 3)) (by omega) (Nat.le_refl _), made_lo ((M2.setOther (q := qr) (i := 0) (by omega) (.slice (some ⟨g1, 0, none⟩) 9 9)).setOther (q := qr) (i := 1) (by omega) (.slice (some ⟨g2, 0, none⟩) 3 3)) (by omega) (Nat.le_refl _), by decide, by decide⟩
        exact bodyPost_ret (v := .agg #[.slice (some ⟨g1, 0, none⟩) 9 9, .slice (some ⟨g2, 0, none⟩) 3 3]) (by simp [results, Tryz.results73, go_sem, p0, p1]) rfl ⟨_, rfl, AO, F8, D8⟩
      refine AllReadyH.cons rfl (fun KK hK' => ?_) AllReadyH.nil
      go_simp
      refine (below_dr (Dr.start HD.2) 4 (by omega) (by omega)).mono ?_
      rintro e u2 ⟨y, rfl, y0, y1, hdn⟩
      replace A1 := A1.kept hdn.1 (by omega)
      replace A2 := A2.kept hdn.1 (by omega)
      replace PP := PP.kept hdn.1 hlt
      replace FR := FR.kept hdn.1
      have zu2 : u1.heap.size ≤ u2.heap.size := hdn.1.size
      replace HD := hdn.from HD.1
      clear hdn
      try go_wp2_with fail
      clear hHeld
      refine hK'.out _ _ (one2_mk A1) (fun hHeld => ?_)
      clear hK' KK
      try simp only [List.setIfInBounds_toArray, List.set_cons_zero, List.set_cons_succ]
      refine wpAnyH_ready (rs := [4]) (by kernel_rfl) (by simp) ?_
      refine AllReadyH.cons rfl (fun KK hK' => ?_) AllReadyH.nil
      obtain ⟨u3, hb, tb, bb, -⟩ := boxed u2 2 #[.int .i64 (-1), .int .i64 23, .int .i64 24, .int .i64 4611686018427387904]
      go_simp
      try rw [hb]
      clear hb
      replace A1 := A1.below bb
      replace A2 := A2.below bb
      replace PP := PP.below bb
      replace FR := FR.below bb
      replace HD := HD.below bb
      have zu3 := bb.size
      clear bb
      obtain ⟨t, ht⟩ : ∃ t, u2.heap.size = t := ⟨_, rfl⟩
      have tt : w0.heap.size ≤ t := by omega
      rw [ht] at tb
      try rw [ht]
      clear ht
      clear hHeld
      refine hK'.out _ _ (one2_mk A1) (fun hHeld => ?_)
      clear hK' KK
      try simp only [List.setIfInBounds_toArray, List.set_cons_zero, List.set_cons_succ]
      obtain ⟨y, rfl⟩ := Int.eq_ofNat_of_zero_le z0
      have hix : y < 3 := by omega
      have hiy : (y : Int) < 3 := by omega
      obtain ⟨y', rfl⟩ := Int.eq_ofNat_of_zero_le y0
      have hy8 : (y' : Int) < 4 := by omega
      obtain ⟨v, hv⟩ := tab4 tb y' (by omega)
      refine wpAnyH_take (i := 7) (v := .pointer (some ⟨t, y', none⟩)) rfl (by kernel_rfl) (by kernel_rfl) (by kernel_rfl) (fun _ _ _ h => h) (Or.inl ⟨by kernel_rfl, ?_⟩) hHeld ?_
      · intro w' hSw; go_simp
      try simp only [Act.put, List.setIfInBounds_toArray, List.set_cons_zero, List.set_cons_succ]
      refine wpAnyH_ready (rs := [8]) (by kernel_rfl) (by simp) ?_
      refine AllReadyH.cons rfl (fun KK hK' => ?_) AllReadyH.nil
      go_simp
      clear hHeld
      refine hK'.out _ _ (one2_mk A1) (fun hHeld => ?_)
      clear hK' KK
      try simp only [List.setIfInBounds_toArray, List.set_cons_zero, List.set_cons_succ]
      clear hv
      refine wpAnyH_take (i := 9) (v := .pointer (some ⟨g2, y, none⟩)) rfl (by kernel_rfl) (by kernel_rfl) (by kernel_rfl) (fun _ _ _ h => h) (Or.inl ⟨by kernel_rfl, ?_⟩) hHeld ?_
      · intro w' hSw; go_simp
      try simp only [Act.put, List.setIfInBounds_toArray, List.set_cons_zero, List.set_cons_succ]
      refine wpAnyH_ready (rs := [10]) (by kernel_rfl) (by simp) ?_
      refine AllReadyH.cons rfl (fun KK hK' => ?_) AllReadyH.nil
      obtain ⟨⟨l1, l2, ne12, n1, n2⟩, M1, M2⟩ := PP
      have hcell : u3.cell? ⟨g2, y, none⟩ = some (.int .i64 (h y)) ∧ u3.frozen? ⟨g2, y, none⟩ = false := by
        obtain ⟨cur, q1, q2, q3⟩ := M2
        exact ⟨q1.cell y (q3 y hix), q1.frozen y⟩
      obtain ⟨e1, e2⟩ := hcell
      go_simp
      clear e1 e2
      replace A1 := A1.setOther (p := g2) (i := y) (by omega) (.int .i64 v)
      replace A2 := A2.setOther (p := g2) (i := y) (by omega) (.int .i64 v)
      replace M1 := M1.setOther (q := g2) (i := y) (by omega) (.int .i64 v)
      replace M2 := M2.put hix (by omega) v
      replace HD := HD.set (g := g2) (i := y) (by omega) hlt (.int .i64 v)
      replace FR := FR.set (g := g2) (i := y) (by omega) (.int .i64 v)
      clear hHeld
      refine hK'.out _ _ (one2_mk A1) (fun hHeld => ?_)
      clear hK' KK
      try simp only [List.setIfInBounds_toArray, List.set_cons_zero, List.set_cons_succ]
      clear hHeld
      refine wpAnyH_done (by kernel_rfl) ?_ _
      obtain ⟨d0, d1, f0, f1⟩ := A1.open2
      obtain ⟨d2, d3, f2, f3⟩ := A2.open2
      go_wp2
      have a8 := nil2_at A2 (.slice (some ⟨g1, 0, none⟩) 9 9) (.slice (some ⟨g2, 0, none⟩) 3 3)
      obtain ⟨p0, p1, -⟩ := a8.open2
      have D8 := (HD.set (g := qr) (i := 0) (by omega) hlt (.slice (some ⟨g1, 0, none⟩) 9 9)).set (g := qr) (i := 1) (by omega) hlt (.slice (some ⟨g2, 0, none⟩) 3 3)
      have F8 := (FR.set (g := qr) (i := 0) (by omega) (.slice (some ⟨g1, 0, none⟩) 9 9)).set (g := qr) (i := 1) (by omega) (.slice (some ⟨g2, 0, none⟩) 3 3)
      have AO : AnyOp _ w0.heap.size X (.agg #[.slice (some ⟨g1, 0, none⟩) 9 9, .slice (some ⟨g2, 0, none⟩) 3 3]) := ⟨_, 9, _, _, 3, _, _, _, rfl, made_lo ((M1.setOther (q := qr) (i := 0) (by omega) (.slice (some ⟨g1, 0, none⟩) 9 9)).setOther (q := qr) (i := 1) (by omega) (.slice (some ⟨g2, 0, none⟩) 3 3)) (by omega) (Nat.le_refl _), made_lo ((M2.setOther (q := qr) (i := 0) (by omega) (.slice (some ⟨g1, 0, none⟩) 9 9)).setOther (q := qr) (i := 1) (by omega) (.slice (some ⟨g2, 0, none⟩) 3 3)) (by omega) (Nat.le_refl _), by decide, by decide⟩
      exact bodyPost_ret (v := .agg #[.slice (some ⟨g1, 0, none⟩) 9 9, .slice (some ⟨g2, 0, none⟩) 3 3]) (by simp [results, Tryz.results73, go_sem, p0, p1]) rfl ⟨_, rfl, AO, F8, D8⟩
    refine AllReadyH.cons rfl (fun KK hK' => ?_) AllReadyH.nil
    obtain ⟨u1, hb, tb, bb, -⟩ := boxed u0 2 #[.int .i64 (-1), .int .i64 23, .int .i64 24, .int .i64 4611686018427387904]
    go_simp
    try rw [hb]
    clear hb
    replace A1 := A1.below bb
    replace A2 := A2.below bb
    replace PP := PP.below bb
    replace FR := FR.below bb
    replace HD := HD.below bb
    have zu1 := bb.size
    clear bb
    obtain ⟨t, ht⟩ : ∃ t, u0.heap.size = t := ⟨_, rfl⟩
    have tt : w0.heap.size ≤ t := by omega
    rw [ht] at tb
    try rw [ht]
    clear ht
    clear hHeld
    refine hK'.out _ _ (one2_mk A1) (fun hHeld => ?_)
    clear hK' KK
    try simp only [List.setIfInBounds_toArray, List.set_cons_zero, List.set_cons_succ]
    refine wpAnyH_ready (rs := [3]) (by kernel_rfl) (by simp) ?_
    refine AllReadyH.cons rfl (fun KK hK' => ?_) AllReadyH.nil
    go_simp
    refine (below_dr (Dr.start HD.2) 3 (by omega) (by omega)).mono ?_
    rintro e u2 ⟨z, rfl, z0, z1, hdn⟩
    replace A1 := A1.kept hdn.1 (by omega)
    replace A2 := A2.kept hdn.1 (by omega)
    replace PP := PP.kept hdn.1 hlt
    replace FR := FR.kept hdn.1
    have ltt := tb.lt
    replace tb := tb.kept hdn.1 (by omega)
    have zu2 : u1.heap.size ≤ u2.heap.size := hdn.1.size
    replace HD := hdn.from HD.1
    clear hdn
    try go_wp2_with fail
    clear hHeld
    refine hK'.out _ _ (one2_mk A1) (fun hHeld => ?_)
    clear hK' KK
    try simp only [List.setIfInBounds_toArray, List.set_cons_zero, List.set_cons_succ]
    refine wpAnyH_ready (rs := [6]) (by kernel_rfl) (by simp) ?_
    refine AllReadyH.cons rfl (fun KK hK' => ?_) AllReadyH.nil
    go_simp
    refine (below_dr (Dr.start HD.2) 4 (by omega) (by omega)).mono ?_
    rintro e u3 ⟨y, rfl, y0, y1, hdn⟩
    replace A1 := A1.kept hdn.1 (by omega)
    replace A2 := A2.kept hdn.1 (by omega)
    replace PP := PP.kept hdn.1 hlt
    replace FR := FR.kept hdn.1
    have ltt := tb.lt
    replace tb := tb.kept hdn.1 (by omega)
    have zu3 : u2.heap.size ≤ u3.heap.size := hdn.1.size
    replace HD := hdn.from HD.1
    clear hdn
    try go_wp2_with fail
    clear hHeld
    refine hK'.out _ _ (one2_mk A1) (fun hHeld => ?_)
    clear hK' KK
    try simp only [List.setIfInBounds_toArray, List.set_cons_zero, List.set_cons_succ]
    obtain ⟨y, rfl⟩ := Int.eq_ofNat_of_zero_le z0
    have hix : y < 3 := by omega
    have hiy : (y : Int) < 3 := by omega
    obtain ⟨y', rfl⟩ := Int.eq_ofNat_of_zero_le y0
    have hy8 : (y' : Int) < 4 := by omega
    obtain ⟨v, hv⟩ := tab4 tb y' (by omega)
    refine wpAnyH_take (i := 7) (v := .pointer (some ⟨t, y', none⟩)) rfl (by kernel_rfl) (by kernel_rfl) (by kernel_rfl) (fun _ _ _ h => h) (Or.inl ⟨by kernel_rfl, ?_⟩) hHeld ?_
    · intro w' hSw; go_simp
    try simp only [Act.put, List.setIfInBounds_toArray, List.set_cons_zero, List.set_cons_succ]
    refine wpAnyH_ready (rs := [8]) (by kernel_rfl) (by simp) ?_
    refine AllReadyH.cons rfl (fun KK hK' => ?_) AllReadyH.nil
    go_simp
    clear hHeld
    refine hK'.out _ _ (one2_mk A1) (fun hHeld => ?_)
    clear hK' KK
    try simp only [List.setIfInBounds_toArray, List.set_cons_zero, List.set_cons_succ]
    clear hv
    refine wpAnyH_take (i := 9) (v := .pointer (some ⟨g2, y, none⟩)) rfl (by kernel_rfl) (by kernel_rfl) (by kernel_rfl) (fun _ _ _ h => h) (Or.inl ⟨by kernel_rfl, ?_⟩) hHeld ?_
    · intro w' hSw; go_simp
    try simp only [Act.put, List.setIfInBounds_toArray, List.set_cons_zero, List.set_cons_succ]
    refine wpAnyH_ready (rs := [10]) (by kernel_rfl) (by simp) ?_
    refine AllReadyH.cons rfl (fun KK hK' => ?_) AllReadyH.nil
    obtain ⟨⟨l1, l2, ne12, n1, n2⟩, M1, M2⟩ := PP
    have hcell : u3.cell? ⟨g2, y, none⟩ = some (.int .i64 (h y)) ∧ u3.frozen? ⟨g2, y, none⟩ = false := by
      obtain ⟨cur, q1, q2, q3⟩ := M2
      exact ⟨q1.cell y (q3 y hix), q1.frozen y⟩
    obtain ⟨e1, e2⟩ := hcell
    go_simp
    clear e1 e2
    replace A1 := A1.setOther (p := g2) (i := y) (by omega) (.int .i64 v)
    replace A2 := A2.setOther (p := g2) (i := y) (by omega) (.int .i64 v)
    replace M1 := M1.setOther (q := g2) (i := y) (by omega) (.int .i64 v)
    replace M2 := M2.put hix (by omega) v
    replace HD := HD.set (g := g2) (i := y) (by omega) hlt (.int .i64 v)
    replace FR := FR.set (g := g2) (i := y) (by omega) (.int .i64 v)
    clear hHeld
    refine hK'.out _ _ (one2_mk A1) (fun hHeld => ?_)
    clear hK' KK
    try simp only [List.setIfInBounds_toArray, List.set_cons_zero, List.set_cons_succ]
    clear hHeld
    refine wpAnyH_done (by kernel_rfl) ?_ _
    obtain ⟨d0, d1, f0, f1⟩ := A1.open2
    obtain ⟨d2, d3, f2, f3⟩ := A2.open2
    go_wp2
    have a8 := nil2_at A2 (.slice (some ⟨g1, 0, none⟩) 9 9) (.slice (some ⟨g2, 0, none⟩) 3 3)
    obtain ⟨p0, p1, -⟩ := a8.open2
    have D8 := (HD.set (g := qr) (i := 0) (by omega) hlt (.slice (some ⟨g1, 0, none⟩) 9 9)).set (g := qr) (i := 1) (by omega) hlt (.slice (some ⟨g2, 0, none⟩) 3 3)
    have F8 := (FR.set (g := qr) (i := 0) (by omega) (.slice (some ⟨g1, 0, none⟩) 9 9)).set (g := qr) (i := 1) (by omega) (.slice (some ⟨g2, 0, none⟩) 3 3)
    have AO : AnyOp _ w0.heap.size X (.agg #[.slice (some ⟨g1, 0, none⟩) 9 9, .slice (some ⟨g2, 0, none⟩) 3 3]) := ⟨_, 9, _, _, 3, _, _, _, rfl, made_lo ((M1.setOther (q := qr) (i := 0) (by omega) (.slice (some ⟨g1, 0, none⟩) 9 9)).setOther (q := qr) (i := 1) (by omega) (.slice (some ⟨g2, 0, none⟩) 3 3)) (by omega) (Nat.le_refl _), made_lo ((M2.setOther (q := qr) (i := 0) (by omega) (.slice (some ⟨g1, 0, none⟩) 9 9)).setOther (q := qr) (i := 1) (by omega) (.slice (some ⟨g2, 0, none⟩) 3 3)) (by omega) (Nat.le_refl _), by decide, by decide⟩
    exact bodyPost_ret (v := .agg #[.slice (some ⟨g1, 0, none⟩) 9 9, .slice (some ⟨g2, 0, none⟩) 3 3]) (by simp [results, Tryz.results73, go_sem, p0, p1]) rfl ⟨_, rfl, AO, F8, D8⟩
  · obtain ⟨d0, d1, f0, f1⟩ := A1.open2
    obtain ⟨d2, d3, f2, f3⟩ := A2.open2
    have hsl : ∀ wx : World, (Instr.slice 24 (.slice (some ⟨g1, 0, none⟩) 9 9) none (some (.int .i64 8)) none).run Tryz.prog wx = .ok (.slice (some ⟨g1, 0, none⟩) 8 9) wx := fun wx => by kernel_rfl
    go_wp2
    have a8 := nil2_at (A2.setOther (p := q) (i := 0) (by omega) (.slice (some ⟨g1, 0, none⟩) 8 9)) (.slice (some ⟨g1, 0, none⟩) 8 9) (.slice (some ⟨g2, 0, none⟩) 3 3)
    obtain ⟨p0, p1, -⟩ := a8.open2
    have D8 := ((HD.set (g := q) (i := 0) (by omega) hlt (.slice (some ⟨g1, 0, none⟩) 8 9)).set (g := qr) (i := 0) (by omega) hlt (.slice (some ⟨g1, 0, none⟩) 8 9)).set (g := qr) (i := 1) (by omega) hlt (.slice (some ⟨g2, 0, none⟩) 3 3)
    have F8 := ((FR.set (g := q) (i := 0) (by omega) (.slice (some ⟨g1, 0, none⟩) 8 9)).set (g := qr) (i := 0) (by omega) (.slice (some ⟨g1, 0, none⟩) 8 9)).set (g := qr) (i := 1) (by omega) (.slice (some ⟨g2, 0, none⟩) 3 3)
    have AO : AnyOp _ w0.heap.size X (.agg #[.slice (some ⟨g1, 0, none⟩) 8 9, .slice (some ⟨g2, 0, none⟩) 3 3]) := ⟨_, 8, _, _, 3, _, _, _, rfl, made_lo (((PP.2.1.setOther (q := q) (i := 0) (by omega) (.slice (some ⟨g1, 0, none⟩) 8 9)).setOther (q := qr) (i := 0) (by omega) (.slice (some ⟨g1, 0, none⟩) 8 9)).setOther (q := qr) (i := 1) (by omega) (.slice (some ⟨g2, 0, none⟩) 3 3)) (by omega) (by omega), made_lo (((PP.2.2.setOther (q := q) (i := 0) (by omega) (.slice (some ⟨g1, 0, none⟩) 8 9)).setOther (q := qr) (i := 0) (by omega) (.slice (some ⟨g1, 0, none⟩) 8 9)).setOther (q := qr) (i := 1) (by omega) (.slice (some ⟨g2, 0, none⟩) 3 3)) (by omega) (Nat.le_refl _), by decide, by decide⟩
    exact bodyPost_ret (v := .agg #[.slice (some ⟨g1, 0, none⟩) 8 9, .slice (some ⟨g2, 0, none⟩) 3 3]) (by simp [results, Tryz.results73, go_sem, p0, p1]) rfl ⟨_, rfl, AO, F8, D8⟩
  · obtain ⟨i0, hi0, hz0, hz1, hz2⟩ := info_parts Tryz.info2
    obtain ⟨w5, hw5, a5, b5, -⟩ := boxed u0' 2 #[.int .i64 0]
    obtain ⟨d0, d1, f0, f1⟩ := A1.open2
    have own5 := own_below (own_of_made PP.2.2 (lo := w0.heap.size) (by omega) (Nat.le_refl _) (by unfold maxLen; omega)) b5
    have PP5 := PP.below b5
    have HD5 := HD.below b5
    have FR5 := FR.below b5
    have A15 := A1.below b5
    have A25 := A2.below b5
    have s5 := b5.size
    have hnw : ∀ j u, [Value.int .i64 0][j]? = some u → w5.cell? ((⟨u0'.heap.size, 0, none⟩ : Addr).add j) = some u := by
      intro j u hu
      cases j with
      | zero => cases hu; exact a5.cell 0 rfl
      | succ j => cases hu
    have h1c : ∀ u ∈ [Value.int .i64 0], u.oneCell' = true := by
      intro u hu
      rw [List.mem_singleton] at hu
      rw [hu]
      rfl
    have hm1 : 3 + 1 ≤ maxLen := by unfold maxLen; omega
    have hm3 : w0.heap.size ≤ w5.heap.size := by omega
    go_wp2_with (at_builtin; refine Hid.out (?_ : Hid _))
    refine (?_ : wpList _ _ _ _ _ _)
    refine wpList_append_own_at _ rfl _ _ _ rfl w0.heap.size 2 i0 _ 1 8 Tryz.underlying24 hi0 hz0 hz1 hz2 rfl (by omega) (.slice (some ⟨g2, 0, none⟩) 3 3) 3 (iCells h 3) rfl own5 ⟨u0'.heap.size, 0, none⟩ 1 1 [.int .i64 0] rfl rfl hnw h1c hm1 (by omega) hm3 ?_
    intro v3 w6 hown3 hgrow3 hne3 hblk3
    clear d0 d1 f0 f1 hnw h1c hm1 hne3 hw5 a5 b5
    have ho3 : w6.ownsRow w0.heap.size 2 1 v3 4 (iCells (snoc h 3 0) 4) := by rw [iCells_snoc']; exact hown3
    rcases arr_of_owns ho3 with ⟨-, h0⟩ | ⟨g3, c3, rfl, l3, u3, n3, M3⟩
    · omega
    have hg3 : g3 ≠ q ∧ g3 ≠ qr ∧ g3 ≠ X := by
      rcases hblk3 with e | e
      · have : g3 = g2 := Option.some.inj e
        omega
      · have : g3 = w5.heap.size := Option.some.inj e
        omega
    clear hown3 ho3 hblk3
    have M1 := PP5.2.1.grown hgrow3 (fun e => hne.2.2.1 (Option.some.inj e).symm)
    have A1' : At 57 w6 q #[.slice (some ⟨g1, 0, none⟩) 9 9, .slice (some ⟨g2, 0, none⟩) 3 3] := (hgrow3.block q A15.lt (fun e => by have : q = g2 := Option.some.inj e; omega)).trans A15
    have A2' : At 57 w6 qr #[.slice none 0 0, .slice none 0 0] := (hgrow3.block qr A25.lt (fun e => by have : qr = g2 := Option.some.inj e; omega)).trans A25
    have HD6 : Dr w0 p a len cap w6 := HD5.grown hgrow3 (fun x hx => by have : g2 = x := Option.some.inj hx; omega) hlt
    have FR6 := FR5.grown hgrow3 (fun x hx => by have : g2 = x := Option.some.inj hx; omega)
    clear A1 A2 HD PP A15 A25 HD5 PP5 hgrow3 FR FR5
    have FR := FR6
    clear FR6
    have HD := HD6
    have A1 := A1'
    have A2 := A2'
    clear HD6 A1' A2'
    obtain ⟨d0, d1, f0, f1⟩ := A1.open2
    obtain ⟨d2, d3, f2, f3⟩ := A2.open2
    go_wp2
    have a8 := nil2_at (A2.setOther (p := q) (i := 1) (by omega) (.slice (some ⟨g3, 0, none⟩) 4 c3)) (.slice (some ⟨g1, 0, none⟩) 9 9) (.slice (some ⟨g3, 0, none⟩) 4 c3)
    obtain ⟨p0, p1, -⟩ := a8.open2
    have D8 := ((HD.set (g := q) (i := 1) (by omega) hlt (.slice (some ⟨g3, 0, none⟩) 4 c3)).set (g := qr) (i := 0) (by omega) hlt (.slice (some ⟨g1, 0, none⟩) 9 9)).set (g := qr) (i := 1) (by omega) hlt (.slice (some ⟨g3, 0, none⟩) 4 c3)
    have F8 := ((FR.set (g := q) (i := 1) (by omega) (.slice (some ⟨g3, 0, none⟩) 4 c3)).set (g := qr) (i := 0) (by omega) (.slice (some ⟨g1, 0, none⟩) 9 9)).set (g := qr) (i := 1) (by omega) (.slice (some ⟨g3, 0, none⟩) 4 c3)
    have AO : AnyOp _ w0.heap.size X (.agg #[.slice (some ⟨g1, 0, none⟩) 9 9, .slice (some ⟨g3, 0, none⟩) 4 c3]) := ⟨_, 9, _, _, 4, _, _, _, rfl, made_lo (((M1.setOther (q := q) (i := 1) (by omega) (.slice (some ⟨g3, 0, none⟩) 4 c3)).setOther (q := qr) (i := 0) (by omega) (.slice (some ⟨g1, 0, none⟩) 9 9)).setOther (q := qr) (i := 1) (by omega) (.slice (some ⟨g3, 0, none⟩) 4 c3)) (by omega) (Nat.le_refl _), made_lo (((M3.setOther (q := q) (i := 1) (by omega) (.slice (some ⟨g3, 0, none⟩) 4 c3)).setOther (q := qr) (i := 0) (by omega) (.slice (some ⟨g1, 0, none⟩) 9 9)).setOther (q := qr) (i := 1) (by omega) (.slice (some ⟨g3, 0, none⟩) 4 c3)) (by omega) (Nat.le_refl _), by decide, by decide⟩
    exact bodyPost_ret (v := .agg #[.slice (some ⟨g1, 0, none⟩) 9 9, .slice (some ⟨g3, 0, none⟩) 4 c3]) (by simp [results, Tryz.results73, go_sem, p0, p1]) rfl ⟨_, rfl, AO, F8, D8⟩
  · obtain ⟨d0, d1, f0, f1⟩ := A1.open2
    obtain ⟨d2, d3, f2, f3⟩ := A2.open2
    go_wp2
    have a8 := nil2_at ((A2.setOther (p := q) (i := 0) (by omega) (.slice none 0 0)).setOther (p := q) (i := 1) (by omega) (.slice none 0 0)) (.slice none 0 0) (.slice none 0 0)
    obtain ⟨p0, p1, -⟩ := a8.open2
    have D8 := (((HD.set (g := q) (i := 0) (by omega) hlt (.slice none 0 0)).set (g := q) (i := 1) (by omega) hlt (.slice none 0 0)).set (g := qr) (i := 0) (by omega) hlt (.slice none 0 0)).set (g := qr) (i := 1) (by omega) hlt (.slice none 0 0)
    have F8 := (((FR.set (g := q) (i := 0) (by omega) (.slice none 0 0)).set (g := q) (i := 1) (by omega) (.slice none 0 0)).set (g := qr) (i := 0) (by omega) (.slice none 0 0)).set (g := qr) (i := 1) (by omega) (.slice none 0 0)
    exact bodyPost_ret (v := .agg #[.slice none 0 0, .slice none 0 0]) (by simp [results, Tryz.results73, go_sem, p0, p1]) rfl ⟨_, rfl, anyOp_nil _ _ _, F8, D8⟩
  · go_wp2_with fail
    obtain ⟨u0, hu0, A1', A2', PP', FR', HD', zu0⟩ : ∃ u0, u0'.drew = u0 ∧ At 57 u0 q #[.slice (some ⟨g1, 0, none⟩) 9 9, .slice (some ⟨g2, 0, none⟩) 3 3] ∧ At 57 u0 qr #[.slice none 0 0, .slice none 0 0] ∧ Pair u0 w0.heap.size g1 9 g2 3 f h ∧ Fr p g1 g2 w u0 ∧ Dr w0 p a len cap u0 ∧ u0'.heap.size ≤ u0.heap.size := ⟨_, rfl, A1, A2, PP.below (Below.refl _ _).drew, FR.below (Below.refl _ _).drew, HD.below (Below.refl _ _).drew, Nat.le_refl _⟩
    clear A1 A2 PP HD FR
    have FR := FR'
    have A1 := A1'
    have A2 := A2'
    have PP := PP'
    have HD := HD'
    clear A1' A2' PP' HD' FR'
    refine wp_region_held_drew (S := One2 q (.slice (some ⟨g1, 0, none⟩) 9 9) (.slice (some ⟨g2, 0, none⟩) 3 3)) (by kernel_rfl) (by rw [hu0]; exact one2_mk A1) (fun hHeld => ?_)
    rw [hu0] at hHeld ⊢
    clear hu0
    change wpAnyH _ _ _ _ _ 8 #[false, false, false, false, false, false, false, false] _ _
    refine wpAnyH_take (i := 0) (v := .pointer (some ⟨q, 0, none⟩)) rfl (by kernel_rfl) (by kernel_rfl) (by kernel_rfl) (fun _ _ _ h => h) (Or.inl ⟨by kernel_rfl, ?_⟩) hHeld ?_
    · intro w' hSw; go_simp
    try simp only [Act.put, List.setIfInBounds_toArray, List.set_cons_zero]
    refine wpAnyH_take (i := 1) (v := .slice (some ⟨g1, 0, none⟩) 9 9) rfl (by kernel_rfl) (by kernel_rfl) (by kernel_rfl) (fun _ _ _ h => h) (Or.inl ⟨by kernel_rfl, ?_⟩) hHeld ?_
    · intro w' hSw; obtain ⟨z0, z1⟩ := hSw; go_simp
    try simp only [Act.put, List.setIfInBounds_toArray, List.set_cons_zero, List.set_cons_succ]
    refine wpAnyH_take (i := 2) (v := .pointer (some ⟨p, 0, none⟩)) rfl (by kernel_rfl) (by kernel_rfl) (by kernel_rfl) (fun _ _ _ h => h) (Or.inl ⟨by kernel_rfl, ?_⟩) hHeld ?_
    · intro w' hSw; go_simp
    try simp only [Act.put, List.setIfInBounds_toArray, List.set_cons_zero, List.set_cons_succ]
    refine wpAnyH_take (i := 4) (v := .pointer (some ⟨p, 0, none⟩)) rfl (by kernel_rfl) (by kernel_rfl) (by kernel_rfl) (fun _ _ _ h => h) (Or.inl ⟨by kernel_rfl, ?_⟩) hHeld ?_
    · intro w' hSw; go_simp
    try simp only [Act.put, List.setIfInBounds_toArray, List.set_cons_zero, List.set_cons_succ]
    refine wpAnyH_ready (rs := [3]) (by kernel_rfl) (by simp) ?_
    refine AllReadyH.cons rfl (fun KK hK' => ?_) AllReadyH.nil
    go_simp
    refine (below_dr (Dr.start HD.2) 9 (by omega) (by omega)).mono ?_
    rintro e u1 ⟨z, rfl, z0, z1, hdn⟩
    replace A1 := A1.kept hdn.1 (by omega)
    replace A2 := A2.kept hdn.1 (by omega)
    replace PP := PP.kept hdn.1 hlt
    replace FR := FR.kept hdn.1
    have zu1 : u0.heap.size ≤ u1.heap.size := hdn.1.size
    replace HD := hdn.from HD.1
    clear hdn
    try go_wp2_with fail
    clear hHeld
    refine hK'.out _ _ (one2_mk A1) (fun hHeld => ?_)
    clear hK' KK
    try simp only [List.setIfInBounds_toArray, List.set_cons_zero, List.set_cons_succ]
    refine wpAnyH_ready (rs := [5]) (by kernel_rfl) (by simp) ?_
    refine AllReadyH.cons rfl (fun KK hK' => ?_) AllReadyH.nil
    go_simp
    refine (odd_dr (Dr.start HD.2) HD.2.lt).mono ?_
    rintro e u2 ⟨v, rfl, hdn⟩
    replace A1 := A1.kept hdn.1 (by omega)
    replace A2 := A2.kept hdn.1 (by omega)
    replace PP := PP.kept hdn.1 hlt
    replace FR := FR.kept hdn.1
    have zu2 : u1.heap.size ≤ u2.heap.size := hdn.1.size
    replace HD := hdn.from HD.1
    clear hdn
    try go_wp2_with fail
    clear hHeld
    refine hK'.out _ _ (one2_mk A1) (fun hHeld => ?_)
    clear hK' KK
    try simp only [List.setIfInBounds_toArray, List.set_cons_zero, List.set_cons_succ]
    obtain ⟨y, rfl⟩ := Int.eq_ofNat_of_zero_le z0
    have hix : y < 9 := by omega
    have hiy : (y : Int) < 9 := by omega
    refine wpAnyH_take (i := 6) (v := .pointer (some ⟨g1, y, none⟩)) rfl (by kernel_rfl) (by kernel_rfl) (by kernel_rfl) (fun _ _ _ h => h) (Or.inl ⟨by kernel_rfl, ?_⟩) hHeld ?_
    · intro w' hSw; go_simp
    try simp only [Act.put, List.setIfInBounds_toArray, List.set_cons_zero, List.set_cons_succ]
    refine wpAnyH_ready (rs := [7]) (by kernel_rfl) (by simp) ?_
    refine AllReadyH.cons rfl (fun KK hK' => ?_) AllReadyH.nil
    obtain ⟨⟨l1, l2, ne12, n1, n2⟩, M1, M2⟩ := PP
    have hcell : u2.cell? ⟨g1, y, none⟩ = some (.int .i64 (f y)) ∧ u2.frozen? ⟨g1, y, none⟩ = false := by
      obtain ⟨cur, q1, q2, q3⟩ := M1
      exact ⟨q1.cell y (q3 y hix), q1.frozen y⟩
    obtain ⟨e1, e2⟩ := hcell
    go_simp
    clear e1 e2
    replace A1 := A1.setOther (p := g1) (i := y) (by omega) (.int .i64 v)
    replace A2 := A2.setOther (p := g1) (i := y) (by omega) (.int .i64 v)
    replace M2 := M2.setOther (q := g1) (i := y) (by omega) (.int .i64 v)
    replace M1 := M1.put hix (by omega) v
    replace HD := HD.set (g := g1) (i := y) (by omega) hlt (.int .i64 v)
    replace FR := FR.set (g := g1) (i := y) (by omega) (.int .i64 v)
    clear hHeld
    refine hK'.out _ _ (one2_mk A1) (fun hHeld => ?_)
    clear hK' KK
    try simp only [List.setIfInBounds_toArray, List.set_cons_zero, List.set_cons_succ]
    clear hHeld
    refine wpAnyH_done (by kernel_rfl) ?_ _
    obtain ⟨d0, d1, f0, f1⟩ := A1.open2
    obtain ⟨d2, d3, f2, f3⟩ := A2.open2
    go_wp2
    have a8 := nil2_at A2 (.slice (some ⟨g1, 0, none⟩) 9 9) (.slice (some ⟨g2, 0, none⟩) 3 3)
    obtain ⟨p0, p1, -⟩ := a8.open2
    have D8 := (HD.set (g := qr) (i := 0) (by omega) hlt (.slice (some ⟨g1, 0, none⟩) 9 9)).set (g := qr) (i := 1) (by omega) hlt (.slice (some ⟨g2, 0, none⟩) 3 3)
    have F8 := (FR.set (g := qr) (i := 0) (by omega) (.slice (some ⟨g1, 0, none⟩) 9 9)).set (g := qr) (i := 1) (by omega) (.slice (some ⟨g2, 0, none⟩) 3 3)
    have AO : AnyOp _ w0.heap.size X (.agg #[.slice (some ⟨g1, 0, none⟩) 9 9, .slice (some ⟨g2, 0, none⟩) 3 3]) := ⟨_, 9, _, _, 3, _, _, _, rfl, made_lo ((M1.setOther (q := qr) (i := 0) (by omega) (.slice (some ⟨g1, 0, none⟩) 9 9)).setOther (q := qr) (i := 1) (by omega) (.slice (some ⟨g2, 0, none⟩) 3 3)) (by omega) (Nat.le_refl _), made_lo ((M2.setOther (q := qr) (i := 0) (by omega) (.slice (some ⟨g1, 0, none⟩) 9 9)).setOther (q := qr) (i := 1) (by omega) (.slice (some ⟨g2, 0, none⟩) 3 3)) (by omega) (Nat.le_refl _), by decide, by decide⟩
    exact bodyPost_ret (v := .agg #[.slice (some ⟨g1, 0, none⟩) 9 9, .slice (some ⟨g2, 0, none⟩) 3 3]) (by simp [results, Tryz.results73, go_sem, p0, p1]) rfl ⟨_, rfl, AO, F8, D8⟩
theorem Row.wide {w w' : World} {p p' : Nat} {a : Option Addr} {len : Nat} (h : Row w p a len) (hb : Below w.heap.size w w') (hp : p ≤ w.heap.size) (hpp : p ≤ p') : Row w' p' a len := by
  have h' := h.kept (.of_below hb) hp
  refine ⟨h'.1, h'.2.imp id ?_⟩
  rintro ⟨b, off, e, hbp, hc⟩
  exact ⟨b, off, e, by omega, hc⟩
end Go.Proofs.YtiocneailhplkaaGreat
/-
  A right operator spoilt, whatever room its rows have: walked.
-/
namespace Go.Proofs.YtiocneailhplkaaGreat
open Go.RowKit

/-- Two rows of a right operator, with room or none. -/
def PairG (w : World) (lo g1 c1 g2 c2 : Nat) (f h : Nat → Int) : Prop :=
  (lo ≤ g1 ∧ lo ≤ g2 ∧ g1 ≠ g2 ∧ 9 ≤ c1 ∧ c1 ≤ maxLen ∧ 3 ≤ c2 ∧ c2 ≤ maxLen) ∧ Made w g1 c1 9 f ∧ Made w g2 c2 3 h
theorem PairG.below {w w' : World} {lo g1 c1 g2 c2 : Nat} {f h : Nat → Int} (x : PairG w lo g1 c1 g2 c2 f h) (hb : Below w.heap.size w w') : PairG w' lo g1 c1 g2 c2 f h := ⟨x.1, x.2.1.below hb, x.2.2.below hb⟩
theorem PairG.kept {w w' : World} {p lo g1 c1 g2 c2 : Nat} {f h : Nat → Int} (x : PairG w lo g1 c1 g2 c2 f h) (hk : Kept p w w') (hp : p < lo) : PairG w' lo g1 c1 g2 c2 f h := by
  have := x.1
  exact ⟨x.1, x.2.1.kept hk (by omega), x.2.2.kept hk (by omega)⟩
theorem PairG.set {w : World} {q i lo g1 c1 g2 c2 : Nat} {f h : Nat → Int} (x : PairG w lo g1 c1 g2 c2 f h) (h1 : g1 ≠ q) (h2 : g2 ≠ q) (v : Value) : PairG (w.setCell ⟨q, i, none⟩ v) lo g1 c1 g2 c2 f h := ⟨x.1, x.2.1.setOther h1 v, x.2.2.setOther h2 v⟩
set_option maxRecDepth 100000 in
set_option maxHeartbeats 1600000 in
theorem spoilG_dr {w0 w : World} {p g1 g2 cA cB : Nat} {a : Option Addr} {len cap : Nat} {f h : Nat → Int} (HD : Dr w0 p a len cap w) (PP : PairG w w0.heap.size g1 cA g2 cB f h) (hlt : p < w0.heap.size) {X : Nat} (hX : X ≠ g1 ∧ X ≠ g2 ∧ X < w.heap.size) :
    Calls Tryz.prog 73 #[.pointer (some ⟨p, 0, none⟩), .agg #[.slice (some ⟨g1, 0, none⟩) 9 cA, .slice (some ⟨g2, 0, none⟩) 3 cB]] w fun e w' => ∃ o, e = .returned o ∧ AnyOp w' w0.heap.size X o ∧ Fr p g1 g2 w w' ∧ Dr w0 p a len cap w' := by
  obtain ⟨W1, hW1, A1, B1, z1⟩ := boxed w 57 #[.slice (some ⟨g1, 0, none⟩) 9 cA, .slice (some ⟨g2, 0, none⟩) 3 cB]
  obtain ⟨W2, hW2, A2, B2, z2⟩ := boxed W1 57 #[.slice none 0 0, .slice none 0 0]
  have t1 := PP.2.1.lt
  have t2 := PP.2.2.lt
  have hs : w0.heap.size ≤ w.heap.size := HD.1.size
  have hne := PP.1
  have hW : w.heap.size < W1.heap.size := by omega
  have hWW : W1.heap.size < W2.heap.size := by omega
  have FR : Fr p g1 g2 w W2 := Fr.below (Fr.below ⟨Nat.le_refl _, fun _ _ _ _ _ => rfl⟩ B1) B2
  replace PP := (PP.below B1).below B2
  replace HD := (HD.below B1).below B2
  replace A1 := A1.below B2
  clear z1 z2 B1 B2
  go_enter Tryz.func73, Tryz.ntmps73
  go_wp2_with fail
  refine (below_dr (Dr.start HD.2) 6 (by omega) (by omega)).mono ?_
  rintro e u0' ⟨x, rfl, x0, xx, hdn⟩
  clear hW1 hW2
  replace A1 := A1.kept hdn.1 (by omega)
  replace A2 := A2.kept hdn.1 (by omega)
  replace PP := PP.kept hdn.1 hlt
  replace FR := FR.kept hdn.1
  have zw : W2.heap.size ≤ u0'.heap.size := hdn.1.size
  replace HD := hdn.from HD.1
  clear hdn
  obtain ⟨q, hq⟩ : ∃ q, w.heap.size = q := ⟨_, rfl⟩
  obtain ⟨qr, hqr⟩ : ∃ q, W1.heap.size = q := ⟨_, rfl⟩
  rw [hq] at A1 ⊢
  rw [hqr] at A2 ⊢
  have hwq : w.heap.size ≤ q := by omega
  have hqq : q < qr ∧ qr < u0'.heap.size ∧ g1 < q ∧ g2 < q ∧ w0.heap.size ≤ q := by omega
  clear hq hqr hW hWW zw hs t1 t2
  rcases (by omega : x = 0 ∨ x = 1 ∨ x = 2 ∨ x = 3 ∨ x = 4 ∨ x = 5) with rfl | rfl | rfl | rfl | rfl | rfl
  · go_wp2_with fail
    obtain ⟨u0, hu0, A1', A2', PP', FR', HD', zu0⟩ : ∃ u0, u0'.drew = u0 ∧ At 57 u0 q #[.slice (some ⟨g1, 0, none⟩) 9 cA, .slice (some ⟨g2, 0, none⟩) 3 cB] ∧ At 57 u0 qr #[.slice none 0 0, .slice none 0 0] ∧ PairG u0 w0.heap.size g1 cA g2 cB f h ∧ Fr p g1 g2 w u0 ∧ Dr w0 p a len cap u0 ∧ u0'.heap.size ≤ u0.heap.size := ⟨_, rfl, A1, A2, PP.below (Below.refl _ _).drew, FR.below (Below.refl _ _).drew, HD.below (Below.refl _ _).drew, Nat.le_refl _⟩
    clear A1 A2 PP HD FR
    have FR := FR'
    have A1 := A1'
    have A2 := A2'
    have PP := PP'
    have HD := HD'
    clear A1' A2' PP' HD' FR'
    refine wp_region_held_drew (S := One2 q (.slice (some ⟨g1, 0, none⟩) 9 cA) (.slice (some ⟨g2, 0, none⟩) 3 cB)) (by kernel_rfl) (by rw [hu0]; exact one2_mk A1) (fun hHeld => ?_)
    rw [hu0] at hHeld ⊢
    clear hu0
    change wpAnyH _ _ _ _ _ 8 #[false, false, false, false, false, false, false, false] _ _
    refine wpAnyH_take (i := 0) (v := .pointer (some ⟨q, 0, none⟩)) rfl (by kernel_rfl) (by kernel_rfl) (by kernel_rfl) (fun _ _ _ h => h) (Or.inl ⟨by kernel_rfl, ?_⟩) hHeld ?_
    · intro w' hSw; go_simp
    try simp only [Act.put, List.setIfInBounds_toArray, List.set_cons_zero]
    refine wpAnyH_take (i := 1) (v := .slice (some ⟨g1, 0, none⟩) 9 cA) rfl (by kernel_rfl) (by kernel_rfl) (by kernel_rfl) (fun _ _ _ h => h) (Or.inl ⟨by kernel_rfl, ?_⟩) hHeld ?_
    · intro w' hSw; obtain ⟨z0, z1⟩ := hSw; go_simp
    try simp only [Act.put, List.setIfInBounds_toArray, List.set_cons_zero, List.set_cons_succ]
    refine wpAnyH_take (i := 2) (v := .pointer (some ⟨p, 0, none⟩)) rfl (by kernel_rfl) (by kernel_rfl) (by kernel_rfl) (fun _ _ _ h => h) (Or.inl ⟨by kernel_rfl, ?_⟩) hHeld ?_
    · intro w' hSw; go_simp
    try simp only [Act.put, List.setIfInBounds_toArray, List.set_cons_zero, List.set_cons_succ]
    refine wpAnyH_take (i := 4) (v := .pointer (some ⟨p, 0, none⟩)) rfl (by kernel_rfl) (by kernel_rfl) (by kernel_rfl) (fun _ _ _ h => h) (Or.inl ⟨by kernel_rfl, ?_⟩) hHeld ?_
    · intro w' hSw; go_simp
    try simp only [Act.put, List.setIfInBounds_toArray, List.set_cons_zero, List.set_cons_succ]
    refine wpAnyH_ready (rs := [3]) (by kernel_rfl) (by simp) ?_
    refine AllReadyH.cons rfl (fun KK hK' => ?_) AllReadyH.nil
    go_simp
    refine (below_dr (Dr.start HD.2) 9 (by omega) (by omega)).mono ?_
    rintro e u1 ⟨z, rfl, z0, z1, hdn⟩
    replace A1 := A1.kept hdn.1 (by omega)
    replace A2 := A2.kept hdn.1 (by omega)
    replace PP := PP.kept hdn.1 hlt
    replace FR := FR.kept hdn.1
    have zu1 : u0.heap.size ≤ u1.heap.size := hdn.1.size
    replace HD := hdn.from HD.1
    clear hdn
    try go_wp2_with fail
    clear hHeld
    refine hK'.out _ _ (one2_mk A1) (fun hHeld => ?_)
    clear hK' KK
    try simp only [List.setIfInBounds_toArray, List.set_cons_zero, List.set_cons_succ]
    refine wpAnyH_ready (rs := [5]) (by kernel_rfl) (by simp) ?_
    refine AllReadyH.cons rfl (fun KK hK' => ?_) AllReadyH.nil
    go_simp
    refine (from_dr (Dr.start HD.2) (-2) 2 (by omega) (by omega) (by omega)).mono ?_
    rintro e u2 ⟨v, rfl, v0, v1, hdn⟩
    replace A1 := A1.kept hdn.1 (by omega)
    replace A2 := A2.kept hdn.1 (by omega)
    replace PP := PP.kept hdn.1 hlt
    replace FR := FR.kept hdn.1
    have zu2 : u1.heap.size ≤ u2.heap.size := hdn.1.size
    replace HD := hdn.from HD.1
    clear hdn
    try go_wp2_with fail
    clear hHeld
    refine hK'.out _ _ (one2_mk A1) (fun hHeld => ?_)
    clear hK' KK
    try simp only [List.setIfInBounds_toArray, List.set_cons_zero, List.set_cons_succ]
    obtain ⟨y, rfl⟩ := Int.eq_ofNat_of_zero_le z0
    have hix : y < 9 := by omega
    have hiy : (y : Int) < 9 := by omega
    refine wpAnyH_take (i := 6) (v := .pointer (some ⟨g1, y, none⟩)) rfl (by kernel_rfl) (by kernel_rfl) (by kernel_rfl) (fun _ _ _ h => h) (Or.inl ⟨by kernel_rfl, ?_⟩) hHeld ?_
    · intro w' hSw; go_simp
    try simp only [Act.put, List.setIfInBounds_toArray, List.set_cons_zero, List.set_cons_succ]
    refine wpAnyH_ready (rs := [7]) (by kernel_rfl) (by simp) ?_
    refine AllReadyH.cons rfl (fun KK hK' => ?_) AllReadyH.nil
    obtain ⟨⟨l1, l2, ne12, n1, n2⟩, M1, M2⟩ := PP
    have hcell : u2.cell? ⟨g1, y, none⟩ = some (.int .i64 (f y)) ∧ u2.frozen? ⟨g1, y, none⟩ = false := by
      obtain ⟨cur, q1, q2, q3⟩ := M1
      exact ⟨q1.cell y (q3 y hix), q1.frozen y⟩
    obtain ⟨e1, e2⟩ := hcell
    go_simp
    clear e1 e2
    replace A1 := A1.setOther (p := g1) (i := y) (by omega) (.int .i64 v)
    replace A2 := A2.setOther (p := g1) (i := y) (by omega) (.int .i64 v)
    replace M2 := M2.setOther (q := g1) (i := y) (by omega) (.int .i64 v)
    replace M1 := M1.put hix (by omega) v
    replace HD := HD.set (g := g1) (i := y) (by omega) hlt (.int .i64 v)
    replace FR := FR.set (g := g1) (i := y) (by omega) (.int .i64 v)
    clear hHeld
    refine hK'.out _ _ (one2_mk A1) (fun hHeld => ?_)
    clear hK' KK
    try simp only [List.setIfInBounds_toArray, List.set_cons_zero, List.set_cons_succ]
    clear hHeld
    refine wpAnyH_done (by kernel_rfl) ?_ _
    obtain ⟨d0, d1, f0, f1⟩ := A1.open2
    obtain ⟨d2, d3, f2, f3⟩ := A2.open2
    go_wp2
    have a8 := nil2_at A2 (.slice (some ⟨g1, 0, none⟩) 9 cA) (.slice (some ⟨g2, 0, none⟩) 3 cB)
    obtain ⟨p0, p1, -⟩ := a8.open2
    have D8 := (HD.set (g := qr) (i := 0) (by omega) hlt (.slice (some ⟨g1, 0, none⟩) 9 cA)).set (g := qr) (i := 1) (by omega) hlt (.slice (some ⟨g2, 0, none⟩) 3 cB)
    have F8 := (FR.set (g := qr) (i := 0) (by omega) (.slice (some ⟨g1, 0, none⟩) 9 cA)).set (g := qr) (i := 1) (by omega) (.slice (some ⟨g2, 0, none⟩) 3 cB)
    have AO : AnyOp _ w0.heap.size X (.agg #[.slice (some ⟨g1, 0, none⟩) 9 cA, .slice (some ⟨g2, 0, none⟩) 3 cB]) := ⟨_, 9, _, _, 3, _, _, _, rfl, made_lo ((M1.setOther (q := qr) (i := 0) (by omega) (.slice (some ⟨g1, 0, none⟩) 9 cA)).setOther (q := qr) (i := 1) (by omega) (.slice (some ⟨g2, 0, none⟩) 3 cB)) (by omega) (Nat.le_refl _), made_lo ((M2.setOther (q := qr) (i := 0) (by omega) (.slice (some ⟨g1, 0, none⟩) 9 cA)).setOther (q := qr) (i := 1) (by omega) (.slice (some ⟨g2, 0, none⟩) 3 cB)) (by omega) (Nat.le_refl _), by decide, by decide⟩
    exact bodyPost_ret (v := .agg #[.slice (some ⟨g1, 0, none⟩) 9 cA, .slice (some ⟨g2, 0, none⟩) 3 cB]) (by simp [results, Tryz.results73, go_sem, p0, p1]) rfl ⟨_, rfl, AO, F8, D8⟩
  · go_wp2_with fail
    obtain ⟨u0, hu0, A1', A2', PP', FR', HD', zu0⟩ : ∃ u0, u0'.drew = u0 ∧ At 57 u0 q #[.slice (some ⟨g1, 0, none⟩) 9 cA, .slice (some ⟨g2, 0, none⟩) 3 cB] ∧ At 57 u0 qr #[.slice none 0 0, .slice none 0 0] ∧ PairG u0 w0.heap.size g1 cA g2 cB f h ∧ Fr p g1 g2 w u0 ∧ Dr w0 p a len cap u0 ∧ u0'.heap.size ≤ u0.heap.size := ⟨_, rfl, A1, A2, PP.below (Below.refl _ _).drew, FR.below (Below.refl _ _).drew, HD.below (Below.refl _ _).drew, Nat.le_refl _⟩
    clear A1 A2 PP HD FR
    have FR := FR'
    have A1 := A1'
    have A2 := A2'
    have PP := PP'
    have HD := HD'
    clear A1' A2' PP' HD' FR'
    refine wp_region_held_drew (S := One2 q (.slice (some ⟨g1, 0, none⟩) 9 cA) (.slice (some ⟨g2, 0, none⟩) 3 cB)) (by kernel_rfl) (by rw [hu0]; exact one2_mk A1) (fun hHeld => ?_)
    rw [hu0] at hHeld ⊢
    clear hu0
    change wpAnyH _ _ _ _ _ 11 #[false, false, false, false, false, false, false, false, false, false, false] _ _
    refine wpAnyH_take (i := 0) (v := .pointer (some ⟨q, 1, none⟩)) rfl (by kernel_rfl) (by kernel_rfl) (by kernel_rfl) (fun _ _ _ h => h) (Or.inl ⟨by kernel_rfl, ?_⟩) hHeld ?_
    · intro w' hSw; go_simp
    try simp only [Act.put, List.setIfInBounds_toArray, List.set_cons_zero]
    refine wpAnyH_take (i := 1) (v := .slice (some ⟨g2, 0, none⟩) 3 cB) rfl (by kernel_rfl) (by kernel_rfl) (by kernel_rfl) (fun _ _ _ h => h) (Or.inl ⟨by kernel_rfl, ?_⟩) hHeld ?_
    · intro w' hSw; obtain ⟨z0, z1⟩ := hSw; go_simp
    try simp only [Act.put, List.setIfInBounds_toArray, List.set_cons_zero, List.set_cons_succ]
    refine wpAnyH_take (i := 2) (v := .pointer (some ⟨p, 0, none⟩)) rfl (by kernel_rfl) (by kernel_rfl) (by kernel_rfl) (fun _ _ _ h => h) (Or.inl ⟨by kernel_rfl, ?_⟩) hHeld ?_
    · intro w' hSw; go_simp
    try simp only [Act.put, List.setIfInBounds_toArray, List.set_cons_zero, List.set_cons_succ]
    refine wpAnyH_take (i := 5) (v := .pointer (some ⟨p, 0, none⟩)) rfl (by kernel_rfl) (by kernel_rfl) (by kernel_rfl) (fun _ _ _ h => h) (Or.inl ⟨by kernel_rfl, ?_⟩) hHeld ?_
    · intro w' hSw; go_simp
    try simp only [Act.put, List.setIfInBounds_toArray, List.set_cons_zero, List.set_cons_succ]
    refine wpAnyH_ready (rs := [3, 4]) (by kernel_rfl) (by simp) ?_
    refine AllReadyH.cons rfl (fun KK hK' => ?_) ?_
    · go_simp
      refine (below_dr (Dr.start HD.2) 3 (by omega) (by omega)).mono ?_
      rintro e u1 ⟨z, rfl, z0, z1, hdn⟩
      replace A1 := A1.kept hdn.1 (by omega)
      replace A2 := A2.kept hdn.1 (by omega)
      replace PP := PP.kept hdn.1 hlt
      replace FR := FR.kept hdn.1
      have zu1 : u0.heap.size ≤ u1.heap.size := hdn.1.size
      replace HD := hdn.from HD.1
      clear hdn
      try go_wp2_with fail
      clear hHeld
      refine hK'.out _ _ (one2_mk A1) (fun hHeld => ?_)
      clear hK' KK
      try simp only [List.setIfInBounds_toArray, List.set_cons_zero, List.set_cons_succ]
      refine wpAnyH_ready (rs := [4, 6]) (by kernel_rfl) (by simp) ?_
      refine AllReadyH.cons rfl (fun KK hK' => ?_) ?_
      · obtain ⟨u2, hb, tb, bb, -⟩ := boxed u1 2 #[.int .i64 (-1), .int .i64 23, .int .i64 24, .int .i64 4611686018427387904]
        go_simp
        try rw [hb]
        clear hb
        replace A1 := A1.below bb
        replace A2 := A2.below bb
        replace PP := PP.below bb
        replace FR := FR.below bb
        replace HD := HD.below bb
        have zu2 := bb.size
        clear bb
        obtain ⟨t, ht⟩ : ∃ t, u1.heap.size = t := ⟨_, rfl⟩
        have tt : w0.heap.size ≤ t := by omega
        rw [ht] at tb
        try rw [ht]
        clear ht
        clear hHeld
        refine hK'.out _ _ (one2_mk A1) (fun hHeld => ?_)
        clear hK' KK
        try simp only [List.setIfInBounds_toArray, List.set_cons_zero, List.set_cons_succ]
        refine wpAnyH_ready (rs := [6]) (by kernel_rfl) (by simp) ?_
        refine AllReadyH.cons rfl (fun KK hK' => ?_) AllReadyH.nil
        go_simp
        refine (below_dr (Dr.start HD.2) 4 (by omega) (by omega)).mono ?_
        rintro e u3 ⟨y, rfl, y0, y1, hdn⟩
        replace A1 := A1.kept hdn.1 (by omega)
        replace A2 := A2.kept hdn.1 (by omega)
        replace PP := PP.kept hdn.1 hlt
        replace FR := FR.kept hdn.1
        have ltt := tb.lt
        replace tb := tb.kept hdn.1 (by omega)
        have zu3 : u2.heap.size ≤ u3.heap.size := hdn.1.size
        replace HD := hdn.from HD.1
        clear hdn
        try go_wp2_with fail
        clear hHeld
        refine hK'.out _ _ (one2_mk A1) (fun hHeld => ?_)
        clear hK' KK
        try simp only [List.setIfInBounds_toArray, List.set_cons_zero, List.set_cons_succ]
        obtain ⟨y, rfl⟩ := Int.eq_ofNat_of_zero_le z0
        have hix : y < 3 := by omega
        have hiy : (y : Int) < 3 := by omega
        obtain ⟨y', rfl⟩ := Int.eq_ofNat_of_zero_le y0
        have hy8 : (y' : Int) < 4 := by omega
        obtain ⟨v, hv⟩ := tab4 tb y' (by omega)
        refine wpAnyH_take (i := 7) (v := .pointer (some ⟨t, y', none⟩)) rfl (by kernel_rfl) (by kernel_rfl) (by kernel_rfl) (fun _ _ _ h => h) (Or.inl ⟨by kernel_rfl, ?_⟩) hHeld ?_
        · intro w' hSw; go_simp
        try simp only [Act.put, List.setIfInBounds_toArray, List.set_cons_zero, List.set_cons_succ]
        refine wpAnyH_ready (rs := [8]) (by kernel_rfl) (by simp) ?_
        refine AllReadyH.cons rfl (fun KK hK' => ?_) AllReadyH.nil
        go_simp
        clear hHeld
        refine hK'.out _ _ (one2_mk A1) (fun hHeld => ?_)
        clear hK' KK
        try simp only [List.setIfInBounds_toArray, List.set_cons_zero, List.set_cons_succ]
        clear hv
        refine wpAnyH_take (i := 9) (v := .pointer (some ⟨g2, y, none⟩)) rfl (by kernel_rfl) (by kernel_rfl) (by kernel_rfl) (fun _ _ _ h => h) (Or.inl ⟨by kernel_rfl, ?_⟩) hHeld ?_
        · intro w' hSw; go_simp
        try simp only [Act.put, List.setIfInBounds_toArray, List.set_cons_zero, List.set_cons_succ]
        refine wpAnyH_ready (rs := [10]) (by kernel_rfl) (by simp) ?_
        refine AllReadyH.cons rfl (fun KK hK' => ?_) AllReadyH.nil
        obtain ⟨⟨l1, l2, ne12, n1, n2⟩, M1, M2⟩ := PP
        have hcell : u3.cell? ⟨g2, y, none⟩ = some (.int .i64 (h y)) ∧ u3.frozen? ⟨g2, y, none⟩ = false := by
          obtain ⟨cur, q1, q2, q3⟩ := M2
          exact ⟨q1.cell y (q3 y hix), q1.frozen y⟩
        obtain ⟨e1, e2⟩ := hcell
        go_simp
        clear e1 e2
        replace A1 := A1.setOther (p := g2) (i := y) (by omega) (.int .i64 v)
        replace A2 := A2.setOther (p := g2) (i := y) (by omega) (.int .i64 v)
        replace M1 := M1.setOther (q := g2) (i := y) (by omega) (.int .i64 v)
        replace M2 := M2.put hix (by omega) v
        replace HD := HD.set (g := g2) (i := y) (by omega) hlt (.int .i64 v)
        replace FR := FR.set (g := g2) (i := y) (by omega) (.int .i64 v)
        clear hHeld
        refine hK'.out _ _ (one2_mk A1) (fun hHeld => ?_)
        clear hK' KK
        try simp only [List.setIfInBounds_toArray, List.set_cons_zero, List.set_cons_succ]
        clear hHeld
        refine wpAnyH_done (by kernel_rfl) ?_ _
        obtain ⟨d0, d1, f0, f1⟩ := A1.open2
        obtain ⟨d2, d3, f2, f3⟩ := A2.open2
        go_wp2
        have a8 := nil2_at A2 (.slice (some ⟨g1, 0, none⟩) 9 cA) (.slice (some ⟨g2, 0, none⟩) 3 cB)
        obtain ⟨p0, p1, -⟩ := a8.open2
        have D8 := (HD.set (g := qr) (i := 0) (by omega) hlt (.slice (some ⟨g1, 0, none⟩) 9 cA)).set (g := qr) (i := 1) (by omega) hlt (.slice (some ⟨g2, 0, none⟩) 3 cB)
        have F8 := (FR.set (g := qr) (i := 0) (by omega) (.slice (some ⟨g1, 0, none⟩) 9 cA)).set (g := qr) (i := 1) (by omega) (.slice (some ⟨g2, 0, none⟩) 3 cB)
        have AO : AnyOp _ w0.heap.size X (.agg #[.slice (some ⟨g1, 0, none⟩) 9 cA, .slice (some ⟨g2, 0, none⟩) 3 cB]) := ⟨_, 9, _, _, 3, _, _, _, rfl, made_lo ((M1.setOther (q := qr) (i := 0) (by omega) (.slice (some ⟨g1, 0, none⟩) 9 cA)).setOther (q := qr) (i := 1) (by omega) (.slice (some ⟨g2, 0, none⟩) 3 cB)) (by omega) (Nat.le_refl _), made_lo ((M2.setOther (q := qr) (i := 0) (by omega) (.slice (some ⟨g1, 0, none⟩) 9 cA)).setOther (q := qr) (i := 1) (by omega) (.slice (some ⟨g2, 0, none⟩) 3 cB)) (by omega) (Nat.le_refl _), by decide, by decide⟩
        exact bodyPost_ret (v := .agg #[.slice (some ⟨g1, 0, none⟩) 9 cA, .slice (some ⟨g2, 0, none⟩) 3 cB]) (by simp [results, Tryz.results73, go_sem, p0, p1]) rfl ⟨_, rfl, AO, F8, D8⟩
      refine AllReadyH.cons rfl (fun KK hK' => ?_) AllReadyH.nil
      go_simp
      refine (below_dr (Dr.start HD.2) 4 (by omega) (by omega)).mono ?_
      rintro e u2 ⟨y, rfl, y0, y1, hdn⟩
      replace A1 := A1.kept hdn.1 (by omega)
      replace A2 := A2.kept hdn.1 (by omega)
      replace PP := PP.kept hdn.1 hlt
      replace FR := FR.kept hdn.1
      have zu2 : u1.heap.size ≤ u2.heap.size := hdn.1.size
      replace HD := hdn.from HD.1
      clear hdn
      try go_wp2_with fail
      clear hHeld
      refine hK'.out _ _ (one2_mk A1) (fun hHeld => ?_)
      clear hK' KK
      try simp only [List.setIfInBounds_toArray, List.set_cons_zero, List.set_cons_succ]
      refine wpAnyH_ready (rs := [4]) (by kernel_rfl) (by simp) ?_
      refine AllReadyH.cons rfl (fun KK hK' => ?_) AllReadyH.nil
      obtain ⟨u3, hb, tb, bb, -⟩ := boxed u2 2 #[.int .i64 (-1), .int .i64 23, .int .i64 24, .int .i64 4611686018427387904]
      go_simp
      try rw [hb]
      clear hb
      replace A1 := A1.below bb
      replace A2 := A2.below bb
      replace PP := PP.below bb
      replace FR := FR.below bb
      replace HD := HD.below bb
      have zu3 := bb.size
      clear bb
      obtain ⟨t, ht⟩ : ∃ t, u2.heap.size = t := ⟨_, rfl⟩
      have tt : w0.heap.size ≤ t := by omega
      rw [ht] at tb
      try rw [ht]
      clear ht
      clear hHeld
      refine hK'.out _ _ (one2_mk A1) (fun hHeld => ?_)
      clear hK' KK
      try simp only [List.setIfInBounds_toArray, List.set_cons_zero, List.set_cons_succ]
      obtain ⟨y, rfl⟩ := Int.eq_ofNat_of_zero_le z0
      have hix : y < 3 := by omega
      have hiy : (y : Int) < 3 := by omega
      obtain ⟨y', rfl⟩ := Int.eq_ofNat_of_zero_le y0
      have hy8 : (y' : Int) < 4 := by omega
      obtain ⟨v, hv⟩ := tab4 tb y' (by omega)
      refine wpAnyH_take (i := 7) (v := .pointer (some ⟨t, y', none⟩)) rfl (by kernel_rfl) (by kernel_rfl) (by kernel_rfl) (fun _ _ _ h => h) (Or.inl ⟨by kernel_rfl, ?_⟩) hHeld ?_
      · intro w' hSw; go_simp
      try simp only [Act.put, List.setIfInBounds_toArray, List.set_cons_zero, List.set_cons_succ]
      refine wpAnyH_ready (rs := [8]) (by kernel_rfl) (by simp) ?_
      refine AllReadyH.cons rfl (fun KK hK' => ?_) AllReadyH.nil
      go_simp
      clear hHeld
      refine hK'.out _ _ (one2_mk A1) (fun hHeld => ?_)
      clear hK' KK
      try simp only [List.setIfInBounds_toArray, List.set_cons_zero, List.set_cons_succ]
      clear hv
      refine wpAnyH_take (i := 9) (v := .pointer (some ⟨g2, y, none⟩)) rfl (by kernel_rfl) (by kernel_rfl) (by kernel_rfl) (fun _ _ _ h => h) (Or.inl ⟨by kernel_rfl, ?_⟩) hHeld ?_
      · intro w' hSw; go_simp
      try simp only [Act.put, List.setIfInBounds_toArray, List.set_cons_zero, List.set_cons_succ]
      refine wpAnyH_ready (rs := [10]) (by kernel_rfl) (by simp) ?_
      refine AllReadyH.cons rfl (fun KK hK' => ?_) AllReadyH.nil
      obtain ⟨⟨l1, l2, ne12, n1, n2⟩, M1, M2⟩ := PP
      have hcell : u3.cell? ⟨g2, y, none⟩ = some (.int .i64 (h y)) ∧ u3.frozen? ⟨g2, y, none⟩ = false := by
        obtain ⟨cur, q1, q2, q3⟩ := M2
        exact ⟨q1.cell y (q3 y hix), q1.frozen y⟩
      obtain ⟨e1, e2⟩ := hcell
      go_simp
      clear e1 e2
      replace A1 := A1.setOther (p := g2) (i := y) (by omega) (.int .i64 v)
      replace A2 := A2.setOther (p := g2) (i := y) (by omega) (.int .i64 v)
      replace M1 := M1.setOther (q := g2) (i := y) (by omega) (.int .i64 v)
      replace M2 := M2.put hix (by omega) v
      replace HD := HD.set (g := g2) (i := y) (by omega) hlt (.int .i64 v)
      replace FR := FR.set (g := g2) (i := y) (by omega) (.int .i64 v)
      clear hHeld
      refine hK'.out _ _ (one2_mk A1) (fun hHeld => ?_)
      clear hK' KK
      try simp only [List.setIfInBounds_toArray, List.set_cons_zero, List.set_cons_succ]
      clear hHeld
      refine wpAnyH_done (by kernel_rfl) ?_ _
      obtain ⟨d0, d1, f0, f1⟩ := A1.open2
      obtain ⟨d2, d3, f2, f3⟩ := A2.open2
      go_wp2
      have a8 := nil2_at A2 (.slice (some ⟨g1, 0, none⟩) 9 cA) (.slice (some ⟨g2, 0, none⟩) 3 cB)
      obtain ⟨p0, p1, -⟩ := a8.open2
      have D8 := (HD.set (g := qr) (i := 0) (by omega) hlt (.slice (some ⟨g1, 0, none⟩) 9 cA)).set (g := qr) (i := 1) (by omega) hlt (.slice (some ⟨g2, 0, none⟩) 3 cB)
      have F8 := (FR.set (g := qr) (i := 0) (by omega) (.slice (some ⟨g1, 0, none⟩) 9 cA)).set (g := qr) (i := 1) (by omega) (.slice (some ⟨g2, 0, none⟩) 3 cB)
      have AO : AnyOp _ w0.heap.size X (.agg #[.slice (some ⟨g1, 0, none⟩) 9 cA, .slice (some ⟨g2, 0, none⟩) 3 cB]) := ⟨_, 9, _, _, 3, _, _, _, rfl, made_lo ((M1.setOther (q := qr) (i := 0) (by omega) (.slice (some ⟨g1, 0, none⟩) 9 cA)).setOther (q := qr) (i := 1) (by omega) (.slice (some ⟨g2, 0, none⟩) 3 cB)) (by omega) (Nat.le_refl _), made_lo ((M2.setOther (q := qr) (i := 0) (by omega) (.slice (some ⟨g1, 0, none⟩) 9 cA)).setOther (q := qr) (i := 1) (by omega) (.slice (some ⟨g2, 0, none⟩) 3 cB)) (by omega) (Nat.le_refl _), by decide, by decide⟩
      exact bodyPost_ret (v := .agg #[.slice (some ⟨g1, 0, none⟩) 9 cA, .slice (some ⟨g2, 0, none⟩) 3 cB]) (by simp [results, Tryz.results73, go_sem, p0, p1]) rfl ⟨_, rfl, AO, F8, D8⟩
    refine AllReadyH.cons rfl (fun KK hK' => ?_) AllReadyH.nil
    obtain ⟨u1, hb, tb, bb, -⟩ := boxed u0 2 #[.int .i64 (-1), .int .i64 23, .int .i64 24, .int .i64 4611686018427387904]
    go_simp
    try rw [hb]
    clear hb
    replace A1 := A1.below bb
    replace A2 := A2.below bb
    replace PP := PP.below bb
    replace FR := FR.below bb
    replace HD := HD.below bb
    have zu1 := bb.size
    clear bb
    obtain ⟨t, ht⟩ : ∃ t, u0.heap.size = t := ⟨_, rfl⟩
    have tt : w0.heap.size ≤ t := by omega
    rw [ht] at tb
    try rw [ht]
    clear ht
    clear hHeld
    refine hK'.out _ _ (one2_mk A1) (fun hHeld => ?_)
    clear hK' KK
    try simp only [List.setIfInBounds_toArray, List.set_cons_zero, List.set_cons_succ]
    refine wpAnyH_ready (rs := [3]) (by kernel_rfl) (by simp) ?_
    refine AllReadyH.cons rfl (fun KK hK' => ?_) AllReadyH.nil
    go_simp
    refine (below_dr (Dr.start HD.2) 3 (by omega) (by omega)).mono ?_
    rintro e u2 ⟨z, rfl, z0, z1, hdn⟩
    replace A1 := A1.kept hdn.1 (by omega)
    replace A2 := A2.kept hdn.1 (by omega)
    replace PP := PP.kept hdn.1 hlt
    replace FR := FR.kept hdn.1
    have ltt := tb.lt
    replace tb := tb.kept hdn.1 (by omega)
    have zu2 : u1.heap.size ≤ u2.heap.size := hdn.1.size
    replace HD := hdn.from HD.1
    clear hdn
    try go_wp2_with fail
    clear hHeld
    refine hK'.out _ _ (one2_mk A1) (fun hHeld => ?_)
    clear hK' KK
    try simp only [List.setIfInBounds_toArray, List.set_cons_zero, List.set_cons_succ]
    refine wpAnyH_ready (rs := [6]) (by kernel_rfl) (by simp) ?_
    refine AllReadyH.cons rfl (fun KK hK' => ?_) AllReadyH.nil
    go_simp
    refine (below_dr (Dr.start HD.2) 4 (by omega) (by omega)).mono ?_
    rintro e u3 ⟨y, rfl, y0, y1, hdn⟩
    replace A1 := A1.kept hdn.1 (by omega)
    replace A2 := A2.kept hdn.1 (by omega)
    replace PP := PP.kept hdn.1 hlt
    replace FR := FR.kept hdn.1
    have ltt := tb.lt
    replace tb := tb.kept hdn.1 (by omega)
    have zu3 : u2.heap.size ≤ u3.heap.size := hdn.1.size
    replace HD := hdn.from HD.1
    clear hdn
    try go_wp2_with fail
    clear hHeld
    refine hK'.out _ _ (one2_mk A1) (fun hHeld => ?_)
    clear hK' KK
    try simp only [List.setIfInBounds_toArray, List.set_cons_zero, List.set_cons_succ]
    obtain ⟨y, rfl⟩ := Int.eq_ofNat_of_zero_le z0
    have hix : y < 3 := by omega
    have hiy : (y : Int) < 3 := by omega
    obtain ⟨y', rfl⟩ := Int.eq_ofNat_of_zero_le y0
    have hy8 : (y' : Int) < 4 := by omega
    obtain ⟨v, hv⟩ := tab4 tb y' (by omega)
    refine wpAnyH_take (i := 7) (v := .pointer (some ⟨t, y', none⟩)) rfl (by kernel_rfl) (by kernel_rfl) (by kernel_rfl) (fun _ _ _ h => h) (Or.inl ⟨by kernel_rfl, ?_⟩) hHeld ?_
    · intro w' hSw; go_simp
    try simp only [Act.put, List.setIfInBounds_toArray, List.set_cons_zero, List.set_cons_succ]
    refine wpAnyH_ready (rs := [8]) (by kernel_rfl) (by simp) ?_
    refine AllReadyH.cons rfl (fun KK hK' => ?_) AllReadyH.nil
    go_simp
    clear hHeld
    refine hK'.out _ _ (one2_mk A1) (fun hHeld => ?_)
    clear hK' KK
    try simp only [List.setIfInBounds_toArray, List.set_cons_zero, List.set_cons_succ]
    clear hv
    refine wpAnyH_take (i := 9) (v := .pointer (some ⟨g2, y, none⟩)) rfl (by kernel_rfl) (by kernel_rfl) (by kernel_rfl) (fun _ _ _ h => h) (Or.inl ⟨by kernel_rfl, ?_⟩) hHeld ?_
    · intro w' hSw; go_simp
    try simp only [Act.put, List.setIfInBounds_toArray, List.set_cons_zero, List.set_cons_succ]
    refine wpAnyH_ready (rs := [10]) (by kernel_rfl) (by simp) ?_
    refine AllReadyH.cons rfl (fun KK hK' => ?_) AllReadyH.nil
    obtain ⟨⟨l1, l2, ne12, n1, n2⟩, M1, M2⟩ := PP
    have hcell : u3.cell? ⟨g2, y, none⟩ = some (.int .i64 (h y)) ∧ u3.frozen? ⟨g2, y, none⟩ = false := by
      obtain ⟨cur, q1, q2, q3⟩ := M2
      exact ⟨q1.cell y (q3 y hix), q1.frozen y⟩
    obtain ⟨e1, e2⟩ := hcell
    go_simp
    clear e1 e2
    replace A1 := A1.setOther (p := g2) (i := y) (by omega) (.int .i64 v)
    replace A2 := A2.setOther (p := g2) (i := y) (by omega) (.int .i64 v)
    replace M1 := M1.setOther (q := g2) (i := y) (by omega) (.int .i64 v)
    replace M2 := M2.put hix (by omega) v
    replace HD := HD.set (g := g2) (i := y) (by omega) hlt (.int .i64 v)
    replace FR := FR.set (g := g2) (i := y) (by omega) (.int .i64 v)
    clear hHeld
    refine hK'.out _ _ (one2_mk A1) (fun hHeld => ?_)
    clear hK' KK
    try simp only [List.setIfInBounds_toArray, List.set_cons_zero, List.set_cons_succ]
    clear hHeld
    refine wpAnyH_done (by kernel_rfl) ?_ _
    obtain ⟨d0, d1, f0, f1⟩ := A1.open2
    obtain ⟨d2, d3, f2, f3⟩ := A2.open2
    go_wp2
    have a8 := nil2_at A2 (.slice (some ⟨g1, 0, none⟩) 9 cA) (.slice (some ⟨g2, 0, none⟩) 3 cB)
    obtain ⟨p0, p1, -⟩ := a8.open2
    have D8 := (HD.set (g := qr) (i := 0) (by omega) hlt (.slice (some ⟨g1, 0, none⟩) 9 cA)).set (g := qr) (i := 1) (by omega) hlt (.slice (some ⟨g2, 0, none⟩) 3 cB)
    have F8 := (FR.set (g := qr) (i := 0) (by omega) (.slice (some ⟨g1, 0, none⟩) 9 cA)).set (g := qr) (i := 1) (by omega) (.slice (some ⟨g2, 0, none⟩) 3 cB)
    have AO : AnyOp _ w0.heap.size X (.agg #[.slice (some ⟨g1, 0, none⟩) 9 cA, .slice (some ⟨g2, 0, none⟩) 3 cB]) := ⟨_, 9, _, _, 3, _, _, _, rfl, made_lo ((M1.setOther (q := qr) (i := 0) (by omega) (.slice (some ⟨g1, 0, none⟩) 9 cA)).setOther (q := qr) (i := 1) (by omega) (.slice (some ⟨g2, 0, none⟩) 3 cB)) (by omega) (Nat.le_refl _), made_lo ((M2.setOther (q := qr) (i := 0) (by omega) (.slice (some ⟨g1, 0, none⟩) 9 cA)).setOther (q := qr) (i := 1) (by omega) (.slice (some ⟨g2, 0, none⟩) 3 cB)) (by omega) (Nat.le_refl _), by decide, by decide⟩
    exact bodyPost_ret (v := .agg #[.slice (some ⟨g1, 0, none⟩) 9 cA, .slice (some ⟨g2, 0, none⟩) 3 cB]) (by simp [results, Tryz.results73, go_sem, p0, p1]) rfl ⟨_, rfl, AO, F8, D8⟩
  · obtain ⟨d0, d1, f0, f1⟩ := A1.open2
    obtain ⟨d2, d3, f2, f3⟩ := A2.open2
    have hcA : (8 : Int) ≤ (cA : Int) := by omega
    have hcA2 : (cA : Int) ≤ 9223372036854775807 := by have h9 := PP.1.2.2.2.2.1; unfold maxLen at h9; omega
    go_wp2
    have a8 := nil2_at (A2.setOther (p := q) (i := 0) (by omega) (.slice (some ⟨g1, 0, none⟩) 8 cA)) (.slice (some ⟨g1, 0, none⟩) 8 cA) (.slice (some ⟨g2, 0, none⟩) 3 cB)
    obtain ⟨p0, p1, -⟩ := a8.open2
    have D8 := ((HD.set (g := q) (i := 0) (by omega) hlt (.slice (some ⟨g1, 0, none⟩) 8 cA)).set (g := qr) (i := 0) (by omega) hlt (.slice (some ⟨g1, 0, none⟩) 8 cA)).set (g := qr) (i := 1) (by omega) hlt (.slice (some ⟨g2, 0, none⟩) 3 cB)
    have F8 := ((FR.set (g := q) (i := 0) (by omega) (.slice (some ⟨g1, 0, none⟩) 8 cA)).set (g := qr) (i := 0) (by omega) (.slice (some ⟨g1, 0, none⟩) 8 cA)).set (g := qr) (i := 1) (by omega) (.slice (some ⟨g2, 0, none⟩) 3 cB)
    have AO : AnyOp _ w0.heap.size X (.agg #[.slice (some ⟨g1, 0, none⟩) 8 cA, .slice (some ⟨g2, 0, none⟩) 3 cB]) := ⟨_, 8, _, _, 3, _, _, _, rfl, made_lo (((PP.2.1.setOther (q := q) (i := 0) (by omega) (.slice (some ⟨g1, 0, none⟩) 8 cA)).setOther (q := qr) (i := 0) (by omega) (.slice (some ⟨g1, 0, none⟩) 8 cA)).setOther (q := qr) (i := 1) (by omega) (.slice (some ⟨g2, 0, none⟩) 3 cB)) (by omega) (by omega), made_lo (((PP.2.2.setOther (q := q) (i := 0) (by omega) (.slice (some ⟨g1, 0, none⟩) 8 cA)).setOther (q := qr) (i := 0) (by omega) (.slice (some ⟨g1, 0, none⟩) 8 cA)).setOther (q := qr) (i := 1) (by omega) (.slice (some ⟨g2, 0, none⟩) 3 cB)) (by omega) (Nat.le_refl _), by decide, by decide⟩
    exact bodyPost_ret (v := .agg #[.slice (some ⟨g1, 0, none⟩) 8 cA, .slice (some ⟨g2, 0, none⟩) 3 cB]) (by simp [results, Tryz.results73, go_sem, p0, p1]) rfl ⟨_, rfl, AO, F8, D8⟩
  · obtain ⟨i0, hi0, hz0, hz1, hz2⟩ := info_parts Tryz.info2
    obtain ⟨w5, hw5, a5, b5, -⟩ := boxed u0' 2 #[.int .i64 0]
    obtain ⟨d0, d1, f0, f1⟩ := A1.open2
    have own5 := own_below (own_of_made PP.2.2 (lo := w0.heap.size) (by omega) (by omega) (by omega)) b5
    have PP5 := PP.below b5
    have HD5 := HD.below b5
    have FR5 := FR.below b5
    have A15 := A1.below b5
    have A25 := A2.below b5
    have s5 := b5.size
    have hnw : ∀ j u, [Value.int .i64 0][j]? = some u → w5.cell? ((⟨u0'.heap.size, 0, none⟩ : Addr).add j) = some u := by
      intro j u hu
      cases j with
      | zero => cases hu; exact a5.cell 0 rfl
      | succ j => cases hu
    have h1c : ∀ u ∈ [Value.int .i64 0], u.oneCell' = true := by
      intro u hu
      rw [List.mem_singleton] at hu
      rw [hu]
      rfl
    have hm1 : 3 + 1 ≤ maxLen := by unfold maxLen; omega
    have hm3 : w0.heap.size ≤ w5.heap.size := by omega
    go_wp2_with (at_builtin; refine Hid.out (?_ : Hid _))
    refine (?_ : wpList _ _ _ _ _ _)
    refine wpList_append_own_at _ rfl _ _ _ rfl w0.heap.size 2 i0 _ 1 8 Tryz.underlying24 hi0 hz0 hz1 hz2 rfl (by omega) (.slice (some ⟨g2, 0, none⟩) 3 cB) 3 (iCells h 3) rfl own5 ⟨u0'.heap.size, 0, none⟩ 1 1 [.int .i64 0] rfl rfl hnw h1c hm1 (by omega) hm3 ?_
    intro v3 w6 hown3 hgrow3 hne3 hblk3
    clear d0 d1 f0 f1 hnw h1c hm1 hne3 hw5 a5 b5
    have ho3 : w6.ownsRow w0.heap.size 2 1 v3 4 (iCells (snoc h 3 0) 4) := by rw [iCells_snoc']; exact hown3
    rcases arr_of_owns ho3 with ⟨-, h0⟩ | ⟨g3, c3, rfl, l3, u3, n3, M3⟩
    · omega
    have hg3 : g3 ≠ q ∧ g3 ≠ qr ∧ g3 ≠ X := by
      rcases hblk3 with e | e
      · have : g3 = g2 := Option.some.inj e
        omega
      · have : g3 = w5.heap.size := Option.some.inj e
        omega
    clear hown3 ho3 hblk3
    have M1 := PP5.2.1.grown hgrow3 (fun e => hne.2.2.1 (Option.some.inj e).symm)
    have A1' : At 57 w6 q #[.slice (some ⟨g1, 0, none⟩) 9 cA, .slice (some ⟨g2, 0, none⟩) 3 cB] := (hgrow3.block q A15.lt (fun e => by have : q = g2 := Option.some.inj e; omega)).trans A15
    have A2' : At 57 w6 qr #[.slice none 0 0, .slice none 0 0] := (hgrow3.block qr A25.lt (fun e => by have : qr = g2 := Option.some.inj e; omega)).trans A25
    have HD6 : Dr w0 p a len cap w6 := HD5.grown hgrow3 (fun x hx => by have : g2 = x := Option.some.inj hx; omega) hlt
    have FR6 := FR5.grown hgrow3 (fun x hx => by have : g2 = x := Option.some.inj hx; omega)
    clear A1 A2 HD PP A15 A25 HD5 PP5 hgrow3 FR FR5
    have FR := FR6
    clear FR6
    have HD := HD6
    have A1 := A1'
    have A2 := A2'
    clear HD6 A1' A2'
    obtain ⟨d0, d1, f0, f1⟩ := A1.open2
    obtain ⟨d2, d3, f2, f3⟩ := A2.open2
    go_wp2
    have a8 := nil2_at (A2.setOther (p := q) (i := 1) (by omega) (.slice (some ⟨g3, 0, none⟩) 4 c3)) (.slice (some ⟨g1, 0, none⟩) 9 cA) (.slice (some ⟨g3, 0, none⟩) 4 c3)
    obtain ⟨p0, p1, -⟩ := a8.open2
    have D8 := ((HD.set (g := q) (i := 1) (by omega) hlt (.slice (some ⟨g3, 0, none⟩) 4 c3)).set (g := qr) (i := 0) (by omega) hlt (.slice (some ⟨g1, 0, none⟩) 9 cA)).set (g := qr) (i := 1) (by omega) hlt (.slice (some ⟨g3, 0, none⟩) 4 c3)
    have F8 := ((FR.set (g := q) (i := 1) (by omega) (.slice (some ⟨g3, 0, none⟩) 4 c3)).set (g := qr) (i := 0) (by omega) (.slice (some ⟨g1, 0, none⟩) 9 cA)).set (g := qr) (i := 1) (by omega) (.slice (some ⟨g3, 0, none⟩) 4 c3)
    have AO : AnyOp _ w0.heap.size X (.agg #[.slice (some ⟨g1, 0, none⟩) 9 cA, .slice (some ⟨g3, 0, none⟩) 4 c3]) := ⟨_, 9, _, _, 4, _, _, _, rfl, made_lo (((M1.setOther (q := q) (i := 1) (by omega) (.slice (some ⟨g3, 0, none⟩) 4 c3)).setOther (q := qr) (i := 0) (by omega) (.slice (some ⟨g1, 0, none⟩) 9 cA)).setOther (q := qr) (i := 1) (by omega) (.slice (some ⟨g3, 0, none⟩) 4 c3)) (by omega) (Nat.le_refl _), made_lo (((M3.setOther (q := q) (i := 1) (by omega) (.slice (some ⟨g3, 0, none⟩) 4 c3)).setOther (q := qr) (i := 0) (by omega) (.slice (some ⟨g1, 0, none⟩) 9 cA)).setOther (q := qr) (i := 1) (by omega) (.slice (some ⟨g3, 0, none⟩) 4 c3)) (by omega) (Nat.le_refl _), by decide, by decide⟩
    exact bodyPost_ret (v := .agg #[.slice (some ⟨g1, 0, none⟩) 9 cA, .slice (some ⟨g3, 0, none⟩) 4 c3]) (by simp [results, Tryz.results73, go_sem, p0, p1]) rfl ⟨_, rfl, AO, F8, D8⟩
  · obtain ⟨d0, d1, f0, f1⟩ := A1.open2
    obtain ⟨d2, d3, f2, f3⟩ := A2.open2
    go_wp2
    have a8 := nil2_at ((A2.setOther (p := q) (i := 0) (by omega) (.slice none 0 0)).setOther (p := q) (i := 1) (by omega) (.slice none 0 0)) (.slice none 0 0) (.slice none 0 0)
    obtain ⟨p0, p1, -⟩ := a8.open2
    have D8 := (((HD.set (g := q) (i := 0) (by omega) hlt (.slice none 0 0)).set (g := q) (i := 1) (by omega) hlt (.slice none 0 0)).set (g := qr) (i := 0) (by omega) hlt (.slice none 0 0)).set (g := qr) (i := 1) (by omega) hlt (.slice none 0 0)
    have F8 := (((FR.set (g := q) (i := 0) (by omega) (.slice none 0 0)).set (g := q) (i := 1) (by omega) (.slice none 0 0)).set (g := qr) (i := 0) (by omega) (.slice none 0 0)).set (g := qr) (i := 1) (by omega) (.slice none 0 0)
    exact bodyPost_ret (v := .agg #[.slice none 0 0, .slice none 0 0]) (by simp [results, Tryz.results73, go_sem, p0, p1]) rfl ⟨_, rfl, anyOp_nil _ _ _, F8, D8⟩
  · go_wp2_with fail
    obtain ⟨u0, hu0, A1', A2', PP', FR', HD', zu0⟩ : ∃ u0, u0'.drew = u0 ∧ At 57 u0 q #[.slice (some ⟨g1, 0, none⟩) 9 cA, .slice (some ⟨g2, 0, none⟩) 3 cB] ∧ At 57 u0 qr #[.slice none 0 0, .slice none 0 0] ∧ PairG u0 w0.heap.size g1 cA g2 cB f h ∧ Fr p g1 g2 w u0 ∧ Dr w0 p a len cap u0 ∧ u0'.heap.size ≤ u0.heap.size := ⟨_, rfl, A1, A2, PP.below (Below.refl _ _).drew, FR.below (Below.refl _ _).drew, HD.below (Below.refl _ _).drew, Nat.le_refl _⟩
    clear A1 A2 PP HD FR
    have FR := FR'
    have A1 := A1'
    have A2 := A2'
    have PP := PP'
    have HD := HD'
    clear A1' A2' PP' HD' FR'
    refine wp_region_held_drew (S := One2 q (.slice (some ⟨g1, 0, none⟩) 9 cA) (.slice (some ⟨g2, 0, none⟩) 3 cB)) (by kernel_rfl) (by rw [hu0]; exact one2_mk A1) (fun hHeld => ?_)
    rw [hu0] at hHeld ⊢
    clear hu0
    change wpAnyH _ _ _ _ _ 8 #[false, false, false, false, false, false, false, false] _ _
    refine wpAnyH_take (i := 0) (v := .pointer (some ⟨q, 0, none⟩)) rfl (by kernel_rfl) (by kernel_rfl) (by kernel_rfl) (fun _ _ _ h => h) (Or.inl ⟨by kernel_rfl, ?_⟩) hHeld ?_
    · intro w' hSw; go_simp
    try simp only [Act.put, List.setIfInBounds_toArray, List.set_cons_zero]
    refine wpAnyH_take (i := 1) (v := .slice (some ⟨g1, 0, none⟩) 9 cA) rfl (by kernel_rfl) (by kernel_rfl) (by kernel_rfl) (fun _ _ _ h => h) (Or.inl ⟨by kernel_rfl, ?_⟩) hHeld ?_
    · intro w' hSw; obtain ⟨z0, z1⟩ := hSw; go_simp
    try simp only [Act.put, List.setIfInBounds_toArray, List.set_cons_zero, List.set_cons_succ]
    refine wpAnyH_take (i := 2) (v := .pointer (some ⟨p, 0, none⟩)) rfl (by kernel_rfl) (by kernel_rfl) (by kernel_rfl) (fun _ _ _ h => h) (Or.inl ⟨by kernel_rfl, ?_⟩) hHeld ?_
    · intro w' hSw; go_simp
    try simp only [Act.put, List.setIfInBounds_toArray, List.set_cons_zero, List.set_cons_succ]
    refine wpAnyH_take (i := 4) (v := .pointer (some ⟨p, 0, none⟩)) rfl (by kernel_rfl) (by kernel_rfl) (by kernel_rfl) (fun _ _ _ h => h) (Or.inl ⟨by kernel_rfl, ?_⟩) hHeld ?_
    · intro w' hSw; go_simp
    try simp only [Act.put, List.setIfInBounds_toArray, List.set_cons_zero, List.set_cons_succ]
    refine wpAnyH_ready (rs := [3]) (by kernel_rfl) (by simp) ?_
    refine AllReadyH.cons rfl (fun KK hK' => ?_) AllReadyH.nil
    go_simp
    refine (below_dr (Dr.start HD.2) 9 (by omega) (by omega)).mono ?_
    rintro e u1 ⟨z, rfl, z0, z1, hdn⟩
    replace A1 := A1.kept hdn.1 (by omega)
    replace A2 := A2.kept hdn.1 (by omega)
    replace PP := PP.kept hdn.1 hlt
    replace FR := FR.kept hdn.1
    have zu1 : u0.heap.size ≤ u1.heap.size := hdn.1.size
    replace HD := hdn.from HD.1
    clear hdn
    try go_wp2_with fail
    clear hHeld
    refine hK'.out _ _ (one2_mk A1) (fun hHeld => ?_)
    clear hK' KK
    try simp only [List.setIfInBounds_toArray, List.set_cons_zero, List.set_cons_succ]
    refine wpAnyH_ready (rs := [5]) (by kernel_rfl) (by simp) ?_
    refine AllReadyH.cons rfl (fun KK hK' => ?_) AllReadyH.nil
    go_simp
    refine (odd_dr (Dr.start HD.2) HD.2.lt).mono ?_
    rintro e u2 ⟨v, rfl, hdn⟩
    replace A1 := A1.kept hdn.1 (by omega)
    replace A2 := A2.kept hdn.1 (by omega)
    replace PP := PP.kept hdn.1 hlt
    replace FR := FR.kept hdn.1
    have zu2 : u1.heap.size ≤ u2.heap.size := hdn.1.size
    replace HD := hdn.from HD.1
    clear hdn
    try go_wp2_with fail
    clear hHeld
    refine hK'.out _ _ (one2_mk A1) (fun hHeld => ?_)
    clear hK' KK
    try simp only [List.setIfInBounds_toArray, List.set_cons_zero, List.set_cons_succ]
    obtain ⟨y, rfl⟩ := Int.eq_ofNat_of_zero_le z0
    have hix : y < 9 := by omega
    have hiy : (y : Int) < 9 := by omega
    refine wpAnyH_take (i := 6) (v := .pointer (some ⟨g1, y, none⟩)) rfl (by kernel_rfl) (by kernel_rfl) (by kernel_rfl) (fun _ _ _ h => h) (Or.inl ⟨by kernel_rfl, ?_⟩) hHeld ?_
    · intro w' hSw; go_simp
    try simp only [Act.put, List.setIfInBounds_toArray, List.set_cons_zero, List.set_cons_succ]
    refine wpAnyH_ready (rs := [7]) (by kernel_rfl) (by simp) ?_
    refine AllReadyH.cons rfl (fun KK hK' => ?_) AllReadyH.nil
    obtain ⟨⟨l1, l2, ne12, n1, n2⟩, M1, M2⟩ := PP
    have hcell : u2.cell? ⟨g1, y, none⟩ = some (.int .i64 (f y)) ∧ u2.frozen? ⟨g1, y, none⟩ = false := by
      obtain ⟨cur, q1, q2, q3⟩ := M1
      exact ⟨q1.cell y (q3 y hix), q1.frozen y⟩
    obtain ⟨e1, e2⟩ := hcell
    go_simp
    clear e1 e2
    replace A1 := A1.setOther (p := g1) (i := y) (by omega) (.int .i64 v)
    replace A2 := A2.setOther (p := g1) (i := y) (by omega) (.int .i64 v)
    replace M2 := M2.setOther (q := g1) (i := y) (by omega) (.int .i64 v)
    replace M1 := M1.put hix (by omega) v
    replace HD := HD.set (g := g1) (i := y) (by omega) hlt (.int .i64 v)
    replace FR := FR.set (g := g1) (i := y) (by omega) (.int .i64 v)
    clear hHeld
    refine hK'.out _ _ (one2_mk A1) (fun hHeld => ?_)
    clear hK' KK
    try simp only [List.setIfInBounds_toArray, List.set_cons_zero, List.set_cons_succ]
    clear hHeld
    refine wpAnyH_done (by kernel_rfl) ?_ _
    obtain ⟨d0, d1, f0, f1⟩ := A1.open2
    obtain ⟨d2, d3, f2, f3⟩ := A2.open2
    go_wp2
    have a8 := nil2_at A2 (.slice (some ⟨g1, 0, none⟩) 9 cA) (.slice (some ⟨g2, 0, none⟩) 3 cB)
    obtain ⟨p0, p1, -⟩ := a8.open2
    have D8 := (HD.set (g := qr) (i := 0) (by omega) hlt (.slice (some ⟨g1, 0, none⟩) 9 cA)).set (g := qr) (i := 1) (by omega) hlt (.slice (some ⟨g2, 0, none⟩) 3 cB)
    have F8 := (FR.set (g := qr) (i := 0) (by omega) (.slice (some ⟨g1, 0, none⟩) 9 cA)).set (g := qr) (i := 1) (by omega) (.slice (some ⟨g2, 0, none⟩) 3 cB)
    have AO : AnyOp _ w0.heap.size X (.agg #[.slice (some ⟨g1, 0, none⟩) 9 cA, .slice (some ⟨g2, 0, none⟩) 3 cB]) := ⟨_, 9, _, _, 3, _, _, _, rfl, made_lo ((M1.setOther (q := qr) (i := 0) (by omega) (.slice (some ⟨g1, 0, none⟩) 9 cA)).setOther (q := qr) (i := 1) (by omega) (.slice (some ⟨g2, 0, none⟩) 3 cB)) (by omega) (Nat.le_refl _), made_lo ((M2.setOther (q := qr) (i := 0) (by omega) (.slice (some ⟨g1, 0, none⟩) 9 cA)).setOther (q := qr) (i := 1) (by omega) (.slice (some ⟨g2, 0, none⟩) 3 cB)) (by omega) (Nat.le_refl _), by decide, by decide⟩
    exact bodyPost_ret (v := .agg #[.slice (some ⟨g1, 0, none⟩) 9 cA, .slice (some ⟨g2, 0, none⟩) 3 cB]) (by simp [results, Tryz.results73, go_sem, p0, p1]) rfl ⟨_, rfl, AO, F8, D8⟩
end Go.Proofs.YtiocneailhplkaaGreat
