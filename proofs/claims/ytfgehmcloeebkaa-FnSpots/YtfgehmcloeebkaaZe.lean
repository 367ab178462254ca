/-
  Unsqueeze, by the specification, walked.
-/
import Derived.Test.YtfgehmcloeebkaaZd
import Derived.Deep.AppendLies
namespace Go.Proofs.Ytfgehmcloeebkaa
open Go.RowKit

def lI (l : List Int) : List Value := l.map (Value.int .i64)
/-- What stands while the pixels are gathered. -/
structure PxW (w0 w : World) (q : Nat) (X0 X1 : Int) (v : Value) (P : List Int) : Prop where
  own : w.ownsRow w0.heap.size 2 1 v P.length (lI P)
  bx : At 26 w q #[.int .i64 X0, .int .i64 X1, v]
  rb : At 26 w w0.heap.size #[.int .i64 0, .int .i64 0, .slice none 0 0]
  b : Below w0.heap.size w0 w
  o : w0.heap.size < q
theorem own_ne {w : World} {B n q : Nat} {v : Value} {xs : List Value} {s : TypeId} {vs : Array Value} (h : w.ownsRow B 2 1 v n xs) (ha : At s w q vs) (hst : s ≠ 2) : v.ownBlock ≠ some q := by
  intro e
  rcases h.2 with ⟨rfl, -⟩ | ⟨g, c, cur, rfl, hb, hh, -⟩
  · cases e
  · simp only [Value.ownBlock, Option.some.injEq] at e
    subst e
    have h1 := ha
    unfold At at h1
    rw [hh] at h1
    simp only [Option.some.injEq, Obj.cells.injEq] at h1
    exact hst h1.2.1.symm
theorem PxW.open {w0 w : World} {q : Nat} {X0 X1 : Int} {v : Value} {P : List Int} (h : PxW w0 w q X0 X1 v P) : ∃ a c, v = .slice a P.length c := by
  rcases h.own.2 with ⟨rfl, e⟩ | ⟨g, c, cur, e, -⟩
  · refine ⟨none, 0, ?_⟩
    simp_all
  · exact ⟨_, c, e⟩
theorem PxW.below {w0 w w' : World} {q : Nat} {X0 X1 : Int} {v : Value} {P : List Int} (h : PxW w0 w q X0 X1 v P) (hb : Below w.heap.size w w') : PxW w0 w' q X0 X1 v P :=
  ⟨own_below h.own hb, h.bx.below hb, h.rb.below hb, h.b.trans (hb.mono h.b.size), h.o⟩
/-- One pixel more, laid into the box. -/
theorem PxW.add {w0 w w' : World} {q : Nat} {X0 X1 : Int} {v v' : Value} {P : List Int} (h : PxW w0 w q X0 X1 v P) (x : Int) (ho : w'.ownsRow w0.heap.size 2 1 v' (P.length + 1) (lI P ++ [.int .i64 x])) (hg : w.grownBy w' v.ownBlock) : PxW w0 (w'.setCell ⟨q, 2, none⟩ v') q X0 X1 v' (P ++ [x]) := by
  have b1 : At 26 w' q #[.int .i64 X0, .int .i64 X1, v] := (hg.block q h.bx.lt (fun e => own_ne h.own h.bx (by decide) e.symm)).trans h.bx
  have b2 : At 26 w' w0.heap.size #[.int .i64 0, .int .i64 0, .slice none 0 0] := (hg.block _ h.rb.lt (fun e => own_ne h.own h.rb (by decide) e.symm)).trans h.rb
  have B : Below w0.heap.size w0 w' := Below.grown h.b hg h.b.size (fun k hk => ownBlock_ge h.own hk)
  have o := h.o
  refine ⟨?_, by simpa using b1.set 2 v', b2.setOther (by omega) _, B.setCell (show w0.heap.size ≤ q by omega) _, o⟩
  have ho' : w'.ownsRow w0.heap.size 2 1 v' (P ++ [x]).length (lI (P ++ [x])) := by simpa [lI] using ho
  refine ⟨ho'.1, ho'.2.imp id ?_⟩
  rintro ⟨g, c, cur, rfl, h1, h2, h3⟩
  have hne : q ≠ g := fun e => own_ne ho' b1 (by decide) (by simp [Value.ownBlock, e])
  exact ⟨g, c, cur, rfl, h1, (Below.heap_setCell _ _ _ _ (by simpa using hne.symm)).trans h2, h3⟩
theorem PxW.arr {w0 w : World} {q : Nat} {X0 X1 : Int} {v : Value} {P : List Int} (h : PxW w0 w q X0 X1 v P) : Arr w w0.heap.size w.heap.size v P.length (fun i => P.getD i 0) := by
  rcases h.own.2 with ⟨rfl, e⟩ | ⟨g, c, cur, e, hb, hh, hc1, hc2, hsz, ht⟩
  · exact .inl ⟨rfl, by simp_all⟩
  · refine .inr ⟨g, c, e, hb, (Array.getElem?_eq_some_iff.1 hh).1, hc1, cur, hh, by omega, fun i hi => ?_⟩
    have a1 : (lI P)[i]? = some (.int .i64 (P.getD i 0)) := by simp [lI, hi]
    rw [← ht, List.getElem?_take_of_lt (by omega)] at a1
    simpa using a1
theorem arr_set {w : World} {lo hi q i : Nat} {v x : Value} {n : Nat} {f : Nat → Int} (h : Arr w lo hi v n f) (hq : v.ownBlock ≠ some q) : Arr (w.setCell ⟨q, i, none⟩ x) lo hi v n f := by
  refine h.imp id ?_
  rintro ⟨g, c, rfl, hl, hh, hc, hm⟩
  exact ⟨g, c, rfl, hl, hh, hc, hm.setOther (fun e => hq (by simp [Value.ownBlock, e])) _⟩
theorem own_slice {w : World} {B n : Nat} {v : Value} {xs : List Value} (h : w.ownsRow B 2 1 v (n + 1) xs) : ∃ a c, v = .slice a (n + 1) c := by
  rcases h.2 with ⟨-, e⟩ | ⟨g, c, cur, e, -⟩
  · omega
  · exact ⟨_, c, e⟩
/-- What is read of a step so far. -/
def InS (F : Nat → Int) (n p i : Nat) (v y : Int) (wh : Bool) : Prop :=
  (wh = false ∧ i ≤ 3 ∧ p + i ≤ n ∧ (∀ j, j < i → 128 ≤ F (p + j)) ∧ v = acc (fun j => F (p + j)) i ∧ y = 128 ^ i) ∨
  (wh = true ∧ ∃ i', i = i' + 1 ∧ i' ≤ 2 ∧ p + i' < n ∧ (∀ j, j < i' → 128 ≤ F (p + j)) ∧ F (p + i') < 128 ∧ v = acc (fun j => F (p + j)) i' + 128 ^ i' * F (p + i'))
def InV (F : Nat → Int) (n p i : Nat) (s7 s8 s10 : Value) : Prop := ∃ v y wh, s7 = .int .i64 v ∧ s8 = .int .i64 y ∧ s10 = .bool wh ∧ InS F n p i v y wh
/-- What the step is then. -/
theorem InS.no {F : Nat → Int} {n p i : Nat} {v y : Int} (h : InS F n p i v y false) (he : ¬ (p + i < n ∧ i < 3)) : st F n p = none := by
  rcases h with ⟨-, h1, h2, h3, -⟩ | ⟨h0, -⟩
  · rw [← st_shift]
    refine st_end (q := if 3 < n - p then 3 else n - p) rfl (fun j hj => h3 j ?_)
    split at hj <;> omega
  · cases h0
theorem InS.yes {F : Nat → Int} {n p i : Nat} {v y : Int} (h : InS F n p i v y true) (hF : ∀ i, i < n → 0 ≤ F i ∧ F i ≤ 255) : 1 ≤ i ∧ i ≤ 3 ∧ p + i ≤ n ∧ (0 ≤ v ∧ v ≤ 3000000) ∧ ((2 ≤ i ∧ F (p + i - 1) = 0 ∧ st F n p = none) ∨ (¬ (2 ≤ i ∧ F (p + i - 1) = 0) ∧ st F n p = some (unf v, i))) := by
  rcases h with ⟨h0, -⟩ | ⟨-, i', rfl, h1, h2, h3, h4, h5⟩
  · cases h0
  · have e1 : p + (i' + 1) - 1 = p + i' := by omega
    rw [e1]
    rw [← st_shift]
    have r4 := hF (p + i') (by omega)
    rcases (by omega : i' = 0 ∨ i' = 1 ∨ i' = 2) with rfl | rfl | rfl
    · refine ⟨by omega, by omega, by omega, by simp [acc] at h5; simp at r4; omega, .inr ⟨by omega, ?_⟩⟩
      rw [st1 (by omega) (by simpa using h4)]
      simp [acc] at h5
      simp [h5]
    · have k0 := h3 0 (by omega)
      have r0 := hF (p + 0) (by omega)
      simp [acc] at h5 k0 r0
      refine ⟨by omega, by omega, by omega, by omega, ?_⟩
      by_cases hz : F (p + 1) = 0
      · exact .inl ⟨by omega, hz, st2z (by simpa using k0) (by simpa using hz)⟩
      · refine .inr ⟨fun h => hz h.2, ?_⟩
        rw [st2 (by omega) (by simpa using k0) (by simpa using h4) (by simpa using hz)]
        simp [h5]
    · have k0 := h3 0 (by omega)
      have k1 := h3 1 (by omega)
      have r0 := hF (p + 0) (by omega)
      have r1 := hF (p + 1) (by omega)
      simp [acc] at h5 k0 r0
      refine ⟨by omega, by omega, by omega, by omega, ?_⟩
      by_cases hz : F (p + 2) = 0
      · exact .inl ⟨by omega, hz, st3z (by simpa using k0) (by simpa using k1) (by simpa using hz)⟩
      · refine .inr ⟨fun h => hz h.2, ?_⟩
        rw [st3 (by omega) (by simpa using k0) (by simpa using k1) (by simpa using h4) (by simpa using hz)]
        simp [h5]
set_option maxRecDepth 100000 in
set_option maxHeartbeats 8000000 in
theorem specUn_any {w : World} {gb n cb : Nat} {F : Nat → Int} (hs : SrcB w (some ⟨gb, 0, none⟩) n F) (hn : n ≤ 1048576) (hF : ∀ i, i < n → 0 ≤ F i ∧ F i ≤ 255) :
    Calls Try.prog 33 #[.slice (some ⟨gb, 0, none⟩) n cb] w (UnP F n w) := by
  have hn' : (n : Int) ≤ 1048576 := by omega
  obtain ⟨i0, hi0, hz0, hz1, hz2⟩ := info_parts infoI
  obtain ⟨V, hV, b2, bW, -⟩ := boxed w 26 #[.int .i64 0, .int .i64 0, .slice none 0 0]
  have z_V := b2.lt
  have hs0 := hs
  replace hs := hs.below bW
  go_enter Try.func33, Try.ntmps33
  by_cases h2 : n < 2
  · have h2' : (n : Int) < 2 := by omega
    have HU : Hid (UnT F n 0 0 0 (fun _ => 0) 0) := .inl ⟨⟨fun h => by have := h.1; omega, rfl⟩, rfl, rfl, rfl, rfl⟩
    obtain ⟨d0, d1, d2, f0, f1, f2⟩ := b2.open3
    go_wp2
    have a7 := put3_at b2 (.int .i64 0) (.int .i64 0) (.slice none 0 0)
    obtain ⟨p0, p1, p2, -⟩ := a7.open3
    refine bodyPost_ret (v := .tuple #[fV 0 0 (.slice none 0 0), .int .i64 0]) (by simp [results, Try.results33, go_sem, p0, p1, p2]) rfl ?_
    exact ⟨_, _, _, _, _, _, rfl, HU.out, zero_fr _ _ _, below_put3 bW (by omega) _ _ _⟩
  have h2' : ¬ (n : Int) < 2 := by omega
  rcases hs with h0 | ⟨b9, off9, e9, hb, hr⟩
  · omega
  simp only [Option.some.injEq, Addr.mk.injEq] at e9
  obtain ⟨rfl, rfl, -⟩ := e9
  have g0 := hr 0 (by omega)
  have g1 := hr 1 (by omega)
  simp only [Nat.zero_add] at g0 g1
  have hF0 := hF 0 (by omega)
  have hF1 := hF 1 (by omega)
  have n0 : ¬ n = 0 := by omega
  have l1 : (1 : Int) < (n : Int) := by omega
  have l0 : (0 : Int) < (n : Int) := by omega
  have HX : Hid (F 0 = F 0) := rfl
  obtain ⟨X0, hX0⟩ : ∃ X, F 0 = X := ⟨_, rfl⟩
  obtain ⟨X1, hX1⟩ : ∃ X, F 1 = X := ⟨_, rfl⟩
  rw [hX0] at g0 hF0
  rw [hX1] at g1 hF1
  clear HX hr
  by_cases hh : hdr F n
  · obtain ⟨hn2, hW, hH⟩ := id hh
    rw [hX0] at hW
    rw [hX1] at hH
    have p1 := mul_in (a := X0) (b := X1) (x := 64) (y := 64) (by omega) (by omega)
    obtain ⟨L, hL⟩ : ∃ L : Nat, L = (X0 * X1).toNat := ⟨_, rfl⟩
    have hLI : (L : Int) = X0 * X1 := by omega
    have hL4 : L ≤ 4096 := by omega
    have hLF : L = (F 0 * F 1).toNat := by rw [hX0, hX1]; exact hL
    have HU : Hid (∀ k p a P, k < L → unS F n k = some (p, a, P) → unS F n (k + 1) = none → UnT F n 0 0 0 (fun _ => 0) (p : Int)) := fun k p a P h1 h2 h3 => .inr (.inl ⟨⟨hh, k, p, a, P, by omega, h2, h3, rfl⟩, rfl, rfl, rfl, rfl⟩)
    have HU2 : Hid (∀ p a P, unS F n L = some (p, a, P) → p < n → UnT F n 0 0 0 (fun _ => 0) (p : Int)) := fun p a P h1 h2 => .inr (.inr (.inl ⟨⟨hh, p, a, P, by rw [← hLF]; exact h1, h2, rfl⟩, rfl, rfl, rfl, rfl⟩))
    have HU3 : Hid (∀ p a P, unS F n L = some (p, a, P) → ¬ p < n → UnT F n X0 X1 L (fun i => P.getD i 0) (-1)) := fun p a P h1 h2 => .inr (.inr (.inr ⟨hh, p, a, P, by rw [← hLF]; exact h1, h2, rfl, hX0.symm, hX1.symm, hLF, rfl⟩))
    have HLI : Hid ((L : Int) = X0 * X1) := hLI
    clear hL hLI hLF hX0 hX1 hh
    have wr0 : IntKind.i64.wrap X0 = X0 := IntWalk.i64_in _ (by omega)
    have wr1 : IntKind.i64.wrap X1 = X1 := IntWalk.i64_in _ (by omega)
    have t0 : (X0 == 0) = false := by simp; omega
    have t1 : (X1 == 0) = false := by simp; omega
    go_upto_region 3 with (fail)
    clear hV
    obtain ⟨u0, hu0, bb⟩ : ∃ uu, V.drew = uu ∧ Below V.heap.size V uu := ⟨_, rfl, (Below.refl _ _).drew⟩
    replace b2 := b2.below bb
    replace g0 := (bb.cell (p := ⟨gb, 0, none⟩) hb).trans g0
    replace g1 := (bb.cell (p := ⟨gb, 1, none⟩) hb).trans g1
    have hbu : gb < u0.heap.size := Nat.lt_of_lt_of_le hb bb.size
    replace bW := bW.trans (bb.mono bW.size)
    have zu := b2.lt
    clear bb
    refine wp_region_held_drew (S := Kb u0) (by kernel_rfl) (by rw [hu0]; exact Below.refl _ _) (fun hHeld => ?_)
    rw [hu0] at hHeld ⊢
    clear hu0
    have bu : Kb u0 u0 := Below.refl _ _
    change wpAnyH _ _ _ _ _ 11 #[false, false, false, false, false, false, false, false, false, false, false] _ _
    refine wpAnyH_take (i := 0) (v := .slice ((some ⟨gb, 0, none⟩)) n cb) rfl (by kernel_rfl) (by kernel_rfl) (by kernel_rfl) (fun _ _ _ h => h) (Or.inl ⟨by kernel_rfl, ?_⟩) hHeld ?_
    · intro w' hSw; go_simp
    try simp only [Act.put, List.setIfInBounds_toArray, List.set_cons_zero, List.set_cons_succ, List.getElem_toArray, List.getElem_cons_zero]
    refine wpAnyH_take (i := 1) (v := .pointer (some ⟨gb, 0, none⟩)) rfl (by kernel_rfl) (by kernel_rfl) (by kernel_rfl) (fun _ _ _ h => h) (Or.inl ⟨by kernel_rfl, ?_⟩) hHeld ?_
    · intro w' hSw; go_simp
    try simp only [Act.put, List.setIfInBounds_toArray, List.set_cons_zero, List.set_cons_succ, List.getElem_toArray, List.getElem_cons_succ, List.getElem_cons_zero]
    refine wpAnyH_take (i := 2) (v := .int .u8 X0) rfl (by kernel_rfl) (by kernel_rfl) (by kernel_rfl) (fun _ _ _ h => h) (Or.inl ⟨by kernel_rfl, ?_⟩) hHeld ?_
    · intro w' hSw; have z0 := (fun {w' : World} (hSw : Kb u0 w') => (Below.cell (p := ⟨gb, 0, none⟩) hSw hbu).trans g0) hSw; go_simp
    try simp only [Act.put, List.setIfInBounds_toArray, List.set_cons_zero, List.set_cons_succ, List.getElem_toArray, List.getElem_cons_succ, List.getElem_cons_zero]
    refine wpAnyH_take (i := 3) (v := .int .i64 (X0)) rfl (by kernel_rfl) (by kernel_rfl) (by kernel_rfl) (fun _ _ _ h => h) (Or.inl ⟨by kernel_rfl, ?_⟩) hHeld ?_
    · intro w' hSw; go_simp
    try simp only [Act.put, List.setIfInBounds_toArray, List.set_cons_zero, List.set_cons_succ, List.getElem_toArray, List.getElem_cons_succ, List.getElem_cons_zero]
    refine wpAnyH_take (i := 4) (v := .slice ((some ⟨gb, 0, none⟩)) n cb) rfl (by kernel_rfl) (by kernel_rfl) (by kernel_rfl) (fun _ _ _ h => h) (Or.inl ⟨by kernel_rfl, ?_⟩) hHeld ?_
    · intro w' hSw; go_simp
    try simp only [Act.put, List.setIfInBounds_toArray, List.set_cons_zero, List.set_cons_succ, List.getElem_toArray, List.getElem_cons_succ, List.getElem_cons_zero]
    refine wpAnyH_take (i := 5) (v := .pointer (some ⟨gb, 1, none⟩)) rfl (by kernel_rfl) (by kernel_rfl) (by kernel_rfl) (fun _ _ _ h => h) (Or.inl ⟨by kernel_rfl, ?_⟩) hHeld ?_
    · intro w' hSw; go_simp
    try simp only [Act.put, List.setIfInBounds_toArray, List.set_cons_zero, List.set_cons_succ, List.getElem_toArray, List.getElem_cons_succ, List.getElem_cons_zero]
    refine wpAnyH_take (i := 6) (v := .int .u8 X1) rfl (by kernel_rfl) (by kernel_rfl) (by kernel_rfl) (fun _ _ _ h => h) (Or.inl ⟨by kernel_rfl, ?_⟩) hHeld ?_
    · intro w' hSw; have z0 := (fun {w' : World} (hSw : Kb u0 w') => (Below.cell (p := ⟨gb, 1, none⟩) hSw hbu).trans g1) hSw; go_simp
    try simp only [Act.put, List.setIfInBounds_toArray, List.set_cons_zero, List.set_cons_succ, List.getElem_toArray, List.getElem_cons_succ, List.getElem_cons_zero]
    refine wpAnyH_take (i := 7) (v := .int .i64 (X1)) rfl (by kernel_rfl) (by kernel_rfl) (by kernel_rfl) (fun _ _ _ h => h) (Or.inl ⟨by kernel_rfl, ?_⟩) hHeld ?_
    · intro w' hSw; go_simp
    try simp only [Act.put, List.setIfInBounds_toArray, List.set_cons_zero, List.set_cons_succ, List.getElem_toArray, List.getElem_cons_succ, List.getElem_cons_zero]
    refine wpAnyH_take (i := 8) (v := .agg #[.int .i64 X0, .int .i64 X1, .slice none 0 0]) rfl (by kernel_rfl) (by kernel_rfl) (by kernel_rfl) (fun _ _ _ h => h) (Or.inl ⟨by kernel_rfl, ?_⟩) hHeld ?_
    · intro w' hSw; go_simp
    try simp only [Act.put, List.setIfInBounds_toArray, List.set_cons_zero, List.set_cons_succ, List.getElem_toArray, List.getElem_cons_succ, List.getElem_cons_zero]
    refine wpAnyH_ready (rs := [9]) (by kernel_rfl) (by simp) ?_
    refine AllReadyH.cons rfl (fun KK hK' => ?_) AllReadyH.nil
    go_simp
    obtain ⟨u1, hV9, Z, bb, -⟩ := boxed u0 26 #[.int .i64 0, .int .i64 0, .slice none 0 0]
    rw [hV9]
    clear hV9
    replace b2 := b2.below bb
    replace bu : Kb u0 u1 := bu.trans (bb.mono bu.size)
    clear bb
    clear hHeld
    refine hK'.out _ _ (bu) (fun hHeld => ?_)
    clear hK' KK
    try simp only [List.setIfInBounds_toArray, List.set_cons_zero, List.set_cons_succ]
    refine wpAnyH_ready (rs := [10]) (by kernel_rfl) (by simp) ?_
    refine AllReadyH.cons rfl (fun KK hK' => ?_) AllReadyH.nil
    obtain ⟨d0, d1, d2, f0, f1, f2⟩ := Z.open3
    go_simp
    obtain ⟨u2, hx, X, r2, bu2⟩ : ∃ y, ((u1.setCell ⟨u0.heap.size, 0, none⟩ (.int .i64 X0)).setCell ⟨u0.heap.size, 1, none⟩ (.int .i64 X1)).setCell ⟨u0.heap.size, 2, none⟩ (.slice none 0 0) = y ∧ At 26 y u0.heap.size #[.int .i64 X0, .int .i64 X1, .slice none 0 0] ∧ At 26 y w.heap.size #[.int .i64 0, .int .i64 0, .slice none 0 0] ∧ Kb u0 y := ⟨_, rfl, put3_at Z _ _ _, ((b2.setOther (by omega) _).setOther (by omega) _).setOther (by omega) _, below_put3 bu (Nat.le_refl _) _ _ _⟩
    rw [hx]
    clear hx bu Z d0 d1 d2 f0 f1 f2 b2
    have bu := bu2
    clear bu2
    clear hHeld
    refine hK'.out _ _ (bu) (fun hHeld => ?_)
    clear hK' KK
    try simp only [List.setIfInBounds_toArray, List.set_cons_zero, List.set_cons_succ]
    refine wpAnyH_done (by kernel_rfl) ?_ _
    clear hHeld
    replace bW := bW.trans (bu.mono bW.size)
    clear g0 g1 wr0 wr1 t0 t1 bu
    obtain ⟨q, hq⟩ : ∃ q, u0.heap.size = q := ⟨_, rfl⟩
    rw [hq] at X
    have r0 : PxW w u2 q X0 X1 (.slice none 0 0) [] := ⟨⟨rfl, .inl ⟨rfl, rfl⟩⟩, X, r2, bW, by omega⟩
    clear X r2 bW
    clear hF0 hF1 hbu zu hb
    rw [hq]
    go_wp2_with fail
    clear hq
    go_loopw [5, 6] (fun s5 s6 wr => ∃ p : Nat, ∃ a : Int, ∃ P : List Int, ∃ v : Value, P.length ≤ L ∧ s5 = .int .i64 (p : Int) ∧ s6 = .int .i64 a ∧ unS F n P.length = some (p, a, P) ∧ p ≤ n ∧ PxW w wr q X0 X1 v P) (fun s5 _ _ => n - (intOf s5).toNat)
    case atStart => exact ⟨2, 0, [], _, Nat.zero_le _, rfl, rfl, rfl, hn2, r0⟩
    case round =>
      clear r0
      obtain ⟨p, a, P, v, hk, rfl, rfl, hu, hpn, R⟩ := hrel
      obtain ⟨-, -, ha, hp2⟩ := unS_len hu
      have HUN : Hid (unS F n P.length = some (p, a, P)) := hu
      clear hu
      obtain ⟨va, vc, rfl⟩ := R.open
      obtain ⟨c0, c1, c2, -⟩ := R.bx.open3
      have hkL : (P.length : Int) ≤ X0 * X1 := by have := HLI.out; omega
      by_cases hlt : P.length < L
      · have hlt' : (P.length : Int) < X0 * X1 := by have := HLI.out; omega
        go_upto_region 11 with (fail)
        clear c0 c1 c2
        have I0 : InV F n p 0 (.int .i64 0) (.int .i64 1) (.bool false) := ⟨0, 1, false, rfl, rfl, rfl, .inl ⟨rfl, by omega, by omega, fun j hj => absurd hj (Nat.not_lt_zero _), rfl, rfl⟩⟩
        go_wp2_with fail
        go_loopw [7, 8, 9, 10] (fun s7 s8 s9 s10 wr => ∃ i : Nat, s9 = .int .i64 ((p + i : Nat) : Int) ∧ InV F n p i s7 s8 s10 ∧ PxW w wr q X0 X1 (.slice va P.length vc) P) (fun _ _ s9 _ _ => n - (intOf s9).toNat)
        case atStart => exact ⟨0, rfl, I0, R⟩
        case round =>
          clear I0 R
          obtain ⟨i, rfl, ⟨v, y, wh, rfl, rfl, rfl, hI⟩, R⟩ := hrel
          have HI0 : Hid (InS F n p i v y wh) := hI
          clear hI
          by_cases hgo : wh = false ∧ p + i < n ∧ i < 3
          · obtain ⟨rfl, a1, a2⟩ := hgo
            rcases HI0.out with ⟨-, -, -, hall, rfl, rfl⟩ | ⟨h9, -⟩
            · clear HI0
              rcases hs0.below R.b with h9 | ⟨b9, off9, e9, hb, hr⟩
              · omega
              simp only [Option.some.injEq, Addr.mk.injEq] at e9
              obtain ⟨rfl, rfl, -⟩ := e9
              have g0 := hr (p + i) a1
              rw [Nat.zero_add] at g0
              have hX1 := hF (p + i) a1
              obtain ⟨X, hX⟩ : ∃ X, F (p + i) = X := ⟨_, rfl⟩
              rw [hX] at g0 hX1
              clear hr hb
              have a1' : ((p + i : Nat) : Int) < (n : Int) := by omega
              have a2' : ((p + i : Nat) : Int) < (p : Int) + 3 := by omega
              rcases (by omega : i = 0 ∨ i = 1 ∨ i = 2) with rfl | rfl | rfl
              · have hXz : F (p + 0) = X := hX
                simp only [Nat.add_zero] at g0 hX hX1 a1' a2' ⊢
                have hacc : acc (fun j => F (p + j)) 0 = 0 := rfl
                rw [hacc]
                obtain ⟨AA, hAA⟩ : ∃ AA : Int, 0 = AA := ⟨_, rfl⟩
                rw [hAA] at hacc ⊢
                have hAb : 0 ≤ AA ∧ AA ≤ 20000 := by omega
                rw [show (128 : Int) ^ 0 = 1 from rfl]
                obtain ⟨V9, hV9⟩ : ∃ V9 : Int, AA + 1 * (X % 128) = V9 := ⟨_, rfl⟩
                have wv : IntKind.i64.wrap (AA + X % 128) = V9 := (IntWalk.i64_in _ (by omega)).trans (by omega)
                have HAA : Hid (acc (fun j => F (p + j)) 0 = AA) := hacc
                clear hacc hAA
                have hxt : X.tmod 128 = X % 128 := Int.tmod_eq_emod_of_nonneg hX1.1
                by_cases q1 : X < 128
                · have HI : Hid (InS F n p 1 V9 128 true) := .inr ⟨rfl, 0, rfl, by omega, by omega, hall, by rw [hXz]; exact q1, by rw [HAA.out, ← hV9, hXz]; omega⟩
                  clear hV9
                  go_wp2
                  refine ⟨⟨1, by go_num, ⟨V9, _, true, rfl, rfl, rfl, ?_⟩, R⟩, by simp [intOf]; omega⟩
                  rcases HI.out with ⟨h9, -⟩ | h9
                  · cases h9
                  · exact .inr h9
                · have hnx : acc (fun j => F (p + j)) 1 = V9 := by
                    have h9 := HAA.out
                    simp only [acc, Nat.add_zero] at h9 ⊢
                    omega
                  have HI : Hid (InS F n p 1 V9 128 false) := .inl ⟨rfl, by omega, by omega, fun j hj => by
                    rcases (by omega : j = 0 ∨ j < 0) with rfl | h9
                    · rw [hXz]; omega
                    · exact hall j h9, hnx.symm, rfl⟩
                  clear hV9 hnx
                  go_wp2
                  exact ⟨⟨1, by go_num, ⟨V9, 128, false, rfl, rfl, rfl, HI.out⟩, R⟩, by simp [intOf]; omega⟩
              · have k0 := hall 0 (by omega)
                have r0 := hF (p + 0) (by omega)
                rw [Nat.add_zero] at k0 r0
                have hacc : acc (fun j => F (p + j)) 1 = F p - 128 := rfl
                rw [hacc]
                obtain ⟨AA, hAA⟩ : ∃ AA : Int, F p - 128 = AA := ⟨_, rfl⟩
                rw [hAA] at hacc ⊢
                have hAb : 0 ≤ AA ∧ AA ≤ 20000 := by omega
                rw [show (128 : Int) ^ 1 = 128 from rfl]
                obtain ⟨V9, hV9⟩ : ∃ V9 : Int, AA + 128 * (X % 128) = V9 := ⟨_, rfl⟩
                have wv : IntKind.i64.wrap (AA + 128 * (X % 128)) = V9 := (IntWalk.i64_in _ (by omega)).trans hV9
                have HAA : Hid (acc (fun j => F (p + j)) 1 = AA) := hacc
                clear hacc hAA
                have hxt : X.tmod 128 = X % 128 := Int.tmod_eq_emod_of_nonneg hX1.1
                by_cases q1 : X < 128
                · have HI : Hid (InS F n p 2 V9 16384 true) := .inr ⟨rfl, 1, rfl, by omega, by omega, hall, by omega, by rw [HAA.out, ← hV9, hX]; omega⟩
                  clear hV9
                  go_wp2
                  refine ⟨⟨2, by go_num, ⟨V9, _, true, rfl, rfl, rfl, ?_⟩, R⟩, by simp [intOf]; omega⟩
                  rcases HI.out with ⟨h9, -⟩ | h9
                  · cases h9
                  · exact .inr h9
                · have hnx : acc (fun j => F (p + j)) 2 = V9 := by
                    have h9 := HAA.out
                    simp only [acc, Nat.add_zero] at h9 ⊢
                    omega
                  have HI : Hid (InS F n p 2 V9 16384 false) := .inl ⟨rfl, by omega, by omega, fun j hj => by
                    rcases (by omega : j = 1 ∨ j < 1) with rfl | h9
                    · omega
                    · exact hall j h9, hnx.symm, rfl⟩
                  clear hV9 hnx
                  go_wp2
                  exact ⟨⟨2, by go_num, ⟨V9, 16384, false, rfl, rfl, rfl, HI.out⟩, R⟩, by simp [intOf]; omega⟩
              · have k0 := hall 0 (by omega)
                have r0 := hF (p + 0) (by omega)
                rw [Nat.add_zero] at k0 r0
                have k1 := hall 1 (by omega)
                have r1 := hF (p + 1) (by omega)
                have hacc : acc (fun j => F (p + j)) 2 = F p - 128 + 128 * (F (p + 1) - 128) := rfl
                rw [hacc]
                obtain ⟨AA, hAA⟩ : ∃ AA : Int, F p - 128 + 128 * (F (p + 1) - 128) = AA := ⟨_, rfl⟩
                rw [hAA] at hacc ⊢
                have hAb : 0 ≤ AA ∧ AA ≤ 20000 := by omega
                rw [show (128 : Int) ^ 2 = 16384 from rfl]
                obtain ⟨V9, hV9⟩ : ∃ V9 : Int, AA + 16384 * (X % 128) = V9 := ⟨_, rfl⟩
                have wv : IntKind.i64.wrap (AA + 16384 * (X % 128)) = V9 := (IntWalk.i64_in _ (by omega)).trans hV9
                have HAA : Hid (acc (fun j => F (p + j)) 2 = AA) := hacc
                clear hacc hAA
                have hxt : X.tmod 128 = X % 128 := Int.tmod_eq_emod_of_nonneg hX1.1
                by_cases q1 : X < 128
                · have HI : Hid (InS F n p 3 V9 2097152 true) := .inr ⟨rfl, 2, rfl, by omega, by omega, hall, by omega, by rw [HAA.out, ← hV9, hX]; omega⟩
                  clear hV9
                  go_wp2
                  refine ⟨⟨3, by go_num, ⟨V9, _, true, rfl, rfl, rfl, ?_⟩, R⟩, by simp [intOf]; omega⟩
                  rcases HI.out with ⟨h9, -⟩ | h9
                  · cases h9
                  · exact .inr h9
                · have hnx : acc (fun j => F (p + j)) 3 = V9 := by
                    have h9 := HAA.out
                    simp only [acc, Nat.add_zero] at h9 ⊢
                    omega
                  have HI : Hid (InS F n p 3 V9 2097152 false) := .inl ⟨rfl, by omega, by omega, fun j hj => by
                    rcases (by omega : j = 2 ∨ j < 2) with rfl | h9
                    · omega
                    · exact hall j h9, hnx.symm, rfl⟩
                  clear hV9 hnx
                  go_wp2
                  exact ⟨⟨3, by go_num, ⟨V9, 2097152, false, rfl, rfl, rfl, HI.out⟩, R⟩, by simp [intOf]; omega⟩
            · cases h9
          · have hex : wh = true ∨ ¬ (p + i < n ∧ i < 3) := by
              cases wh
              · right; intro h; exact hgo ⟨rfl, h⟩
              · left; rfl
            clear hgo
            go_upto_region 11 with (fail)
            go_cut [72] from 59 to 71 (fun s72 wc => s72 = .bool false ∧ wr = wc)
            case first =>
              by_cases a1 : p + i < n
              · have a1' : ((p + i : Nat) : Int) < (n : Int) := by omega
                by_cases a2 : i < 3
                · have a2' : ((p + i : Nat) : Int) < (p : Int) + 3 := by omega
                  obtain rfl : wh = true := by rcases hex with h | h; exact h; exact absurd ⟨a1, a2⟩ h
                  go_wp2
                  go_meet
                  case rel => exact ⟨rfl, rfl⟩
                · have a2' : ¬ ((p + i : Nat) : Int) < (p : Int) + 3 := by omega
                  go_wp2
                  go_meet
                  case rel => exact ⟨rfl, rfl⟩
              · have a1' : ¬ ((p + i : Nat) : Int) < (n : Int) := by omega
                go_wp2
                go_meet
                case rel => exact ⟨rfl, rfl⟩
            case rest =>
              obtain ⟨rfl, rfl⟩ := hcut
              have b2 := R.rb
              have bW := R.b
              cases wh
              · have hno := HI0.out.no (by rcases hex with h | h; cases h; exact h)
                have HUU : Hid (UnT F n 0 0 0 (fun _ => 0) (p : Int)) := HU.out _ p a P hlt HUN.out (unS_none HUN.out hno)
                clear hno hex
                obtain ⟨d0, d1, d2, f0, f1, f2⟩ := b2.open3
                go_wp2
                have a7 := put3_at b2 (.int .i64 0) (.int .i64 0) (.slice none 0 0)
                obtain ⟨p0, p1, p2, -⟩ := a7.open3
                refine bodyPost_ret (v := .tuple #[fV 0 0 (.slice none 0 0), .int .i64 (p : Int)]) (by simp [results, Try.results33, go_sem, p0, p1, p2]) rfl ?_
                exact ⟨_, _, _, _, _, _, rfl, HUU.out, zero_fr _ _ _, below_put3 bW (by omega) _ _ _⟩
              · obtain ⟨i1, i3, hin, hv, hst⟩ := HI0.out.yes hF
                clear HI0 hex
                rcases hs0.below R.b with h9 | ⟨b9, off9, e9, hb, hr⟩
                · omega
                simp only [Option.some.injEq, Addr.mk.injEq] at e9
                obtain ⟨rfl, rfl, -⟩ := e9
                obtain ⟨j1, hj1⟩ : ∃ j1, p + i - 1 = j1 := ⟨_, rfl⟩
                have g0 := hr j1 (by omega)
                rw [Nat.zero_add] at g0
                rw [hj1] at hst
                obtain ⟨X, hX⟩ : ∃ X, F j1 = X := ⟨_, rfl⟩
                rw [hX] at g0 hst
                have wrj : IntKind.i64.wrap (((p + i : Nat) : Int) - 1) = (j1 : Int) := (IntWalk.i64_in _ (by omega)).trans (by omega)
                have hjn : (j1 : Int) < (n : Int) := by omega
                have hXr := hF j1 (by omega)
                rw [hX] at hXr
                obtain ⟨K9, hK9⟩ : ∃ K : Int, ((p + i : Nat) : Int) = K := ⟨_, rfl⟩
                rw [hK9] at wrj ⊢
                have hKb : 0 ≤ K9 ∧ K9 ≤ 1048576 := by omega
                clear hr hb
                rcases hst with ⟨i2, hX0, hno⟩ | ⟨hz, hst⟩
                · have HUU : Hid (UnT F n 0 0 0 (fun _ => 0) (p : Int)) := HU.out _ p a P hlt HUN.out (unS_none HUN.out hno)
                  have k1 : (p : Int) + 1 < K9 := by omega
                  subst hX0
                  clear hno hK9 hX
                  obtain ⟨d0, d1, d2, f0, f1, f2⟩ := b2.open3
                  go_wp2
                  have a7 := put3_at b2 (.int .i64 0) (.int .i64 0) (.slice none 0 0)
                  obtain ⟨p0, p1, p2, -⟩ := a7.open3
                  refine bodyPost_ret (v := .tuple #[fV 0 0 (.slice none 0 0), .int .i64 (p : Int)]) (by simp [results, Try.results33, go_sem, p0, p1, p2]) rfl ?_
                  exact ⟨_, _, _, _, _, _, rfl, HUU.out, zero_fr _ _ _, below_put3 bW (by omega) _ _ _⟩
                · obtain ⟨A2, hA2⟩ : ∃ A2, a + unf v = A2 := ⟨_, rfl⟩
                  have hub : -1600000 ≤ unf v ∧ unf v ≤ 1600000 := by unfold unf; split <;> omega
                  have wrA : IntKind.i64.wrap (a + unf v) = A2 := (IntWalk.i64_in _ (by omega)).trans hA2
                  have ht : v.tmod 2 = v % 2 := Int.tmod_eq_emod_of_nonneg hv.1
                  have hd2 : v.tdiv 2 = v / 2 := Int.tdiv_eq_ediv_of_nonneg hv.1
                  have hkz : ¬ (p : Int) + 1 < K9 ∨ (X == 0) = false := by
                    by_cases h9 : 2 ≤ i
                    · right
                      have : X ≠ 0 := fun h => hz ⟨h9, h⟩
                      simpa using this
                    · left; omega
                  have hu2 : 0 ≤ A2 ∧ A2 ≤ 65535 → unS F n (P.length + 1) = some (p + i, A2, P ++ [A2]) := fun h => by
                    have := unS_step HUN.out hst (by rw [hA2]; exact h)
                    rw [hA2] at this
                    exact this
                  have hu3 : ¬ (0 ≤ A2 ∧ A2 ≤ 65535) → unS F n (P.length + 1) = none := fun h => unS_out HUN.out hst (by rw [hA2]; exact h)
                  have H2 : Hid (0 ≤ A2 ∧ A2 ≤ 65535 → unS F n (P.length + 1) = some (p + i, A2, P ++ [A2])) := hu2
                  have H3 : Hid (¬ (0 ≤ A2 ∧ A2 ≤ 65535) → unS F n (P.length + 1) = none) := hu3
                  have HK : Hid (((p + i : Nat) : Int) = K9) := hK9
                  clear hu2 hu3 hst hK9 hz hX hA2
                  go_upto_region 16 with (fail)
                  go_cut [107] from 92 to 106 (fun s107 wc => s107 = .bool false ∧ wr = wc)
                  case first =>
                    by_cases k1 : (p : Int) + 1 < K9
                    · have hz9 : (X == 0) = false := by
                        rcases hkz with h | h
                        · exact absurd k1 h
                        · exact h
                      clear hkz
                      go_wp2
                      go_meet
                      case rel => exact ⟨rfl, rfl⟩
                    · clear hkz
                      go_wp2
                      go_meet
                      case rel => exact ⟨rfl, rfl⟩
                  case rest =>
                    obtain ⟨rfl, rfl⟩ := hcut
                    clear hkz g0 wrj
                    have wr2 : IntKind.i64.wrap (unf v) = unf v := IntWalk.i64_in _ (by omega)
                    by_cases hv2 : v % 2 = 1
                    · have hq : (-(v + 1)).tdiv 2 = unf v := by
                        unfold unf
                        rw [if_pos hv2, Int.neg_tdiv, Int.tdiv_eq_ediv_of_nonneg (by omega)]
                      have hv' : (v % 2 == 1) = true := by simpa using hv2
                      have wr1 : IntKind.i64.wrap (-(v + 1)) = -(v + 1) := IntWalk.i64_in _ (by omega)
                      have wr3 : IntKind.i64.wrap (v / 2) = v / 2 := IntWalk.i64_in _ (by omega)
                      go_upto_region 21 with (fail)
                      clear hq hv' wr1 wr2 wr3 hd2 ht hv2
                      generalize unf v = U at hub wrA ⊢
                      by_cases hr : 0 ≤ A2 ∧ A2 ≤ 65535
                      · have hi : decide (0 ≤ A2 ∧ A2 ≤ 65535) = true := decide_eq_true hr
                        have hb1 : ∀ w, (Instr.buildSlice 24 1 #[(0, .int .i64 A2)]).run Try.prog w = .ok (.slice (some ⟨w.heap.size, 0, none⟩) 1 1) (w.alloc (.cells #[.int .i64 A2] 2)) := fun _ => by kernel_rfl
                        obtain ⟨c0, c1, c2, -⟩ := R.bx.open3
                        obtain ⟨V6, hV6, A6, b6, -⟩ := boxed wr 2 #[.int .i64 A2]
                        have R6 := R.below b6
                        have news := World.news_of_block (cs := #[.int .i64 A2]) (t := 2) (fr := (0, 0)) A6
                        clear b2 bW
                        go_wp2_with (first | (go_at_call 37; refine (in_any _ _ _ _).mono ?_; rintro e w2 ⟨rfl, rfl⟩; rw [hi]) | (at_builtin; refine wpList_append_own _ rfl _ _ _ rfl w.heap.size 2 i0 _ 1 8 Try.underlying24 hi0 hz0 hz1 hz2 rfl (by omega) (.slice va P.length vc) P.length (lI P) rfl R6.own ⟨wr.heap.size, 0, none⟩ 1 1 [.int .i64 A2] rfl rfl news (by simp [Value.oneCell']) (by unfold maxLen; omega) (by omega) R6.b.size ?_; intro v2 w9 hown2 hgrow2 hne2; refine Hid.out (?_ : Hid _)))
                        have b9 : At 26 w9 q #[.int .i64 X0, .int .i64 X1, .slice va P.length vc] := (hgrow2.block q R6.bx.lt (fun e => own_ne R6.own R6.bx (by decide) e.symm)).trans R6.bx
                        obtain ⟨va2, vc2, rfl⟩ := own_slice hown2
                        have R9 := R6.add A2 hown2 hgrow2
                        clear c0 c1 c2
                        obtain ⟨c0, c1, c2, f0, f1, f2⟩ := b9.open3
                        have H9 : Hid (PxW w (w9.setCell ⟨q, 2, none⟩ (.slice va2 (P.length + 1) vc2)) q X0 X1 (.slice va2 (P.length + 1) vc2) (P ++ [A2])) := R9
                        clear R9 hown2 hgrow2 hne2 R6 R b9 A6 b6 news hb1 hV6
                        refine (?_ : wpList _ _ _ _ _ _)
                        go_wp2
                        refine ⟨⟨p + i, A2, P ++ [A2], _, by simp; omega, by rw [HK.out], rfl, by simpa using H2.out hr, by omega, H9.out⟩, ?_⟩
                        have hK1 := HK.out
                        simp [intOf]
                        omega
                      · have hi : decide (0 ≤ A2 ∧ A2 ≤ 65535) = false := decide_eq_false hr
                        have HUU : Hid (UnT F n 0 0 0 (fun _ => 0) (p : Int)) := HU.out _ p a P hlt HUN.out (H3.out hr)
                        obtain ⟨d0, d1, d2, f0, f1, f2⟩ := b2.open3
                        go_wp2_with (go_at_call 37; refine (in_any _ _ _ _).mono ?_; rintro e w2 ⟨rfl, rfl⟩; rw [hi])
                        have a7 := put3_at b2 (.int .i64 0) (.int .i64 0) (.slice none 0 0)
                        obtain ⟨p0, p1, p2, -⟩ := a7.open3
                        refine bodyPost_ret (v := .tuple #[fV 0 0 (.slice none 0 0), .int .i64 (p : Int)]) (by simp [results, Try.results33, go_sem, p0, p1, p2]) rfl ?_
                        exact ⟨_, _, _, _, _, _, rfl, HUU.out, zero_fr _ _ _, below_put3 bW (by omega) _ _ _⟩
                    · have hq : v / 2 = unf v := by
                        unfold unf
                        rw [if_neg hv2]
                      have hv' : (v % 2 == 1) = false := by simpa using hv2
                      rw [hq] at hd2
                      clear hq
                      go_upto_region 21 with (fail)
                      clear hv' wr2 hd2 ht hv2
                      generalize unf v = U at hub wrA ⊢
                      by_cases hr : 0 ≤ A2 ∧ A2 ≤ 65535
                      · have hi : decide (0 ≤ A2 ∧ A2 ≤ 65535) = true := decide_eq_true hr
                        have hb1 : ∀ w, (Instr.buildSlice 24 1 #[(0, .int .i64 A2)]).run Try.prog w = .ok (.slice (some ⟨w.heap.size, 0, none⟩) 1 1) (w.alloc (.cells #[.int .i64 A2] 2)) := fun _ => by kernel_rfl
                        obtain ⟨c0, c1, c2, -⟩ := R.bx.open3
                        obtain ⟨V6, hV6, A6, b6, -⟩ := boxed wr 2 #[.int .i64 A2]
                        have R6 := R.below b6
                        have news := World.news_of_block (cs := #[.int .i64 A2]) (t := 2) (fr := (0, 0)) A6
                        clear b2 bW
                        go_wp2_with (first | (go_at_call 37; refine (in_any _ _ _ _).mono ?_; rintro e w2 ⟨rfl, rfl⟩; rw [hi]) | (at_builtin; refine wpList_append_own _ rfl _ _ _ rfl w.heap.size 2 i0 _ 1 8 Try.underlying24 hi0 hz0 hz1 hz2 rfl (by omega) (.slice va P.length vc) P.length (lI P) rfl R6.own ⟨wr.heap.size, 0, none⟩ 1 1 [.int .i64 A2] rfl rfl news (by simp [Value.oneCell']) (by unfold maxLen; omega) (by omega) R6.b.size ?_; intro v2 w9 hown2 hgrow2 hne2; refine Hid.out (?_ : Hid _)))
                        have b9 : At 26 w9 q #[.int .i64 X0, .int .i64 X1, .slice va P.length vc] := (hgrow2.block q R6.bx.lt (fun e => own_ne R6.own R6.bx (by decide) e.symm)).trans R6.bx
                        obtain ⟨va2, vc2, rfl⟩ := own_slice hown2
                        have R9 := R6.add A2 hown2 hgrow2
                        clear c0 c1 c2
                        obtain ⟨c0, c1, c2, f0, f1, f2⟩ := b9.open3
                        have H9 : Hid (PxW w (w9.setCell ⟨q, 2, none⟩ (.slice va2 (P.length + 1) vc2)) q X0 X1 (.slice va2 (P.length + 1) vc2) (P ++ [A2])) := R9
                        clear R9 hown2 hgrow2 hne2 R6 R b9 A6 b6 news hb1 hV6
                        refine (?_ : wpList _ _ _ _ _ _)
                        go_wp2
                        refine ⟨⟨p + i, A2, P ++ [A2], _, by simp; omega, by rw [HK.out], rfl, by simpa using H2.out hr, by omega, H9.out⟩, ?_⟩
                        have hK1 := HK.out
                        simp [intOf]
                        omega
                      · have hi : decide (0 ≤ A2 ∧ A2 ≤ 65535) = false := decide_eq_false hr
                        have HUU : Hid (UnT F n 0 0 0 (fun _ => 0) (p : Int)) := HU.out _ p a P hlt HUN.out (H3.out hr)
                        obtain ⟨d0, d1, d2, f0, f1, f2⟩ := b2.open3
                        go_wp2_with (go_at_call 37; refine (in_any _ _ _ _).mono ?_; rintro e w2 ⟨rfl, rfl⟩; rw [hi])
                        have a7 := put3_at b2 (.int .i64 0) (.int .i64 0) (.slice none 0 0)
                        obtain ⟨p0, p1, p2, -⟩ := a7.open3
                        refine bodyPost_ret (v := .tuple #[fV 0 0 (.slice none 0 0), .int .i64 (p : Int)]) (by simp [results, Try.results33, go_sem, p0, p1, p2]) rfl ?_
                        exact ⟨_, _, _, _, _, _, rfl, HUU.out, zero_fr _ _ _, below_put3 bW (by omega) _ _ _⟩
      · have hlt' : ¬ (P.length : Int) < X0 * X1 := by have := HLI.out; omega
        obtain hkl : P.length = L := by omega
        by_cases hpl : p < n
        · have hpl' : (p : Int) < (n : Int) := by omega
          have HUU : Hid (UnT F n 0 0 0 (fun _ => 0) (p : Int)) := HU2.out p a P (by rw [← hkl]; exact HUN.out) hpl
          have b2 := R.rb
          have bW := R.b
          clear hkl
          obtain ⟨d0, d1, d2, f0, f1, f2⟩ := b2.open3
          go_wp2
          have a7 := put3_at b2 (.int .i64 0) (.int .i64 0) (.slice none 0 0)
          obtain ⟨p0, p1, p2, -⟩ := a7.open3
          refine bodyPost_ret (v := .tuple #[fV 0 0 (.slice none 0 0), .int .i64 (p : Int)]) (by simp [results, Try.results33, go_sem, p0, p1, p2]) rfl ?_
          exact ⟨_, _, _, _, _, _, rfl, HUU.out, zero_fr _ _ _, below_put3 bW (by omega) _ _ _⟩
        · have hpl' : ¬ (p : Int) < (n : Int) := by omega
          have HUU : Hid (UnT F n X0 X1 P.length (fun i => P.getD i 0) (-1)) := by rw [hkl]; exact HU3.out p a P (by rw [← hkl]; exact HUN.out) hpl
          have b2 := R.rb
          have bW := R.b
          have oq := R.o
          obtain ⟨d0, d1, d2, f0, f1, f2⟩ := b2.open3
          clear hkl
          go_wp2
          have a7 := put3_at b2 (.int .i64 X0) (.int .i64 X1) (.slice va P.length vc)
          obtain ⟨p0, p1, p2, -⟩ := a7.open3
          refine bodyPost_ret (v := .tuple #[fV X0 X1 (.slice va P.length vc), .int .i64 (-1)]) (by simp [results, Try.results33, go_sem, p0, p1, p2]) rfl ?_
          have hne := own_ne R.own R.rb (by decide)
          have ar := arr_set (i := 2) (x := .slice va P.length vc) (arr_set (i := 1) (x := .int .i64 X1) (arr_set (i := 0) (x := .int .i64 X0) R.arr hne) hne) hne
          exact ⟨_, _, _, _, _, _, rfl, HUU.out, ⟨_, rfl, ar.wide (Nat.le_refl _) (by simp [World.setCell])⟩, below_put3 bW (Nat.le_refl _) _ _ _⟩
  · have HU : Hid (UnT F n 0 0 0 (fun _ => 0) 0) := .inl ⟨⟨hh, rfl⟩, rfl, rfl, rfl, rfl⟩
    have hbad : ¬ ((1 ≤ X0 ∧ X0 ≤ 64) ∧ (1 ≤ X1 ∧ X1 ≤ 64)) := fun h => hh ⟨by omega, by rw [hX0]; exact h.1, by rw [hX1]; exact h.2⟩
    clear hh hX0 hX1
    by_cases c0 : X0 = 0
    · have t0 : (X0 == 0) = true := by simpa using c0
      clear c0
      obtain ⟨d0, d1, d2, f0, f1, f2⟩ := b2.open3
      go_wp2
      have a7 := put3_at b2 (.int .i64 0) (.int .i64 0) (.slice none 0 0)
      obtain ⟨p0, p1, p2, -⟩ := a7.open3
      refine bodyPost_ret (v := .tuple #[fV 0 0 (.slice none 0 0), .int .i64 0]) (by simp [results, Try.results33, go_sem, p0, p1, p2]) rfl ?_
      exact ⟨_, _, _, _, _, _, rfl, HU.out, zero_fr _ _ _, below_put3 bW (by omega) _ _ _⟩
    have t0 : (X0 == 0) = false := by simpa using c0
    by_cases c1 : 64 < X0
    · have c1' := c1
      obtain ⟨d0, d1, d2, f0, f1, f2⟩ := b2.open3
      go_wp2
      have a7 := put3_at b2 (.int .i64 0) (.int .i64 0) (.slice none 0 0)
      obtain ⟨p0, p1, p2, -⟩ := a7.open3
      refine bodyPost_ret (v := .tuple #[fV 0 0 (.slice none 0 0), .int .i64 0]) (by simp [results, Try.results33, go_sem, p0, p1, p2]) rfl ?_
      exact ⟨_, _, _, _, _, _, rfl, HU.out, zero_fr _ _ _, below_put3 bW (by omega) _ _ _⟩
    by_cases c2 : X1 = 0
    · have t1 : (X1 == 0) = true := by simpa using c2
      clear c2
      obtain ⟨d0, d1, d2, f0, f1, f2⟩ := b2.open3
      go_wp2
      have a7 := put3_at b2 (.int .i64 0) (.int .i64 0) (.slice none 0 0)
      obtain ⟨p0, p1, p2, -⟩ := a7.open3
      refine bodyPost_ret (v := .tuple #[fV 0 0 (.slice none 0 0), .int .i64 0]) (by simp [results, Try.results33, go_sem, p0, p1, p2]) rfl ?_
      exact ⟨_, _, _, _, _, _, rfl, HU.out, zero_fr _ _ _, below_put3 bW (by omega) _ _ _⟩
    have t1 : (X1 == 0) = false := by simpa using c2
    have c3 : 64 < X1 := by omega
    obtain ⟨d0, d1, d2, f0, f1, f2⟩ := b2.open3
    go_wp2
    have a7 := put3_at b2 (.int .i64 0) (.int .i64 0) (.slice none 0 0)
    obtain ⟨p0, p1, p2, -⟩ := a7.open3
    refine bodyPost_ret (v := .tuple #[fV 0 0 (.slice none 0 0), .int .i64 0]) (by simp [results, Try.results33, go_sem, p0, p1, p2]) rfl ?_
    exact ⟨_, _, _, _, _, _, rfl, HU.out, zero_fr _ _ _, below_put3 bW (by omega) _ _ _⟩
end Go.Proofs.Ytfgehmcloeebkaa
