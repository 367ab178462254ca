/-
  Reflections: small functions, walked.
-/
import Derived.Test.YtmjeplhigjlopaaGm
import Derived.Test.YtmjeplhigjlopaaMC
import Derived.Deep.CutRange
namespace Go.Proofs.Ytmjeplhigjlopaa
open Go.RowKit

abbrev hV (x y z : Int) : Value := .agg #[.int .i64 x, .int .i64 y, .int .i64 z]
def r100 (x : Int) : Prop := -100 ≤ x ∧ x ≤ 100
def hkR (x y z : Int) : Prop := r100 x ∧ r100 y ∧ r100 z
abbrev shV (x y z p : Int) : Value := .agg #[.int .i64 x, .int .i64 y, .int .i64 z, .int .i64 p]
theorem shkl_any (x y z s : Int) (w : World) : Calls Try.prog 88 #[shV x y z s] w fun e w' => e = .returned (hV x y z) ∧ Below w.heap.size w w' := by
  go_enter Try.func88, Try.ntmps88
  go_wp2
  exact bodyPost_ret (v := hV x y z) (by simp [results, Try.results88, go_sem]) rfl ⟨rfl, (below_alloc _ _).trans ((below_alloc _ _).mono (by simp))⟩
theorem toHkl_any (x y z : Int) (w : World) : Calls Try.prog 33 #[hV x y z] w fun e w' => e = .returned (hV x y z) ∧ Below w.heap.size w w' := by
  go_enter Try.func33, Try.ntmps33
  go_wp2
  exact bodyPost_ret (v := hV x y z) (by simp [results, Try.results33, go_sem]) rfl ⟨rfl, ((below_alloc _ _).trans ((below_alloc _ _).mono (by simp))).trans ((below_alloc _ _).mono (by simp; omega))⟩
theorem hkRight_any (x y z : Int) (w : World) (b : Bool) (hb : Hid (b = true ↔ hkR x y z)) : Calls Try.prog 62 #[hV x y z] w fun e w' => e = .returned (.bool b) ∧ Below w.heap.size w w' := by
  have X := fun w => within_any x 100 w (by omega) (by omega)
  have Y := fun w => within_any y 100 w (by omega) (by omega)
  have Z := fun w => within_any z 100 w (by omega) (by omega)
  obtain ⟨W, hW, a1, bW, -⟩ := boxed w 54 #[.int .i64 x, .int .i64 y, .int .i64 z]
  obtain ⟨c0, c1, c2, -⟩ := a1.open3
  clear a1
  by_cases hx : r100 x
  case neg =>
    obtain rfl : b = false := by cases b; rfl; exact absurd (hb.out.1 rfl).1 hx
    rw [show decide (-100 ≤ x ∧ x ≤ 100) = false from decide_eq_false hx] at X
    clear hb hx
    go_enter Try.func62, Try.ntmps62
    go_wp2_with (go_at_call 86; refine (X _).mono ?_; rintro e w2 ⟨rfl, rfl⟩)
    go_ret
    exact ⟨rfl, bW⟩
  rw [show decide (-100 ≤ x ∧ x ≤ 100) = true from decide_eq_true hx] at X
  by_cases hy : r100 y
  case neg =>
    obtain rfl : b = false := by cases b; rfl; exact absurd (hb.out.1 rfl).2.1 hy
    rw [show decide (-100 ≤ y ∧ y ≤ 100) = false from decide_eq_false hy] at Y
    clear hb hx hy
    go_enter Try.func62, Try.ntmps62
    go_wp2_with (first | (go_at_call_of 86 (Value.int IntKind.i64 x); refine (X _).mono ?_; rintro e w2 ⟨rfl, rfl⟩) | (go_at_call_of 86 (Value.int IntKind.i64 y); refine (Y _).mono ?_; rintro e w2 ⟨rfl, rfl⟩))
    go_ret
    exact ⟨rfl, bW⟩
  rw [show decide (-100 ≤ y ∧ y ≤ 100) = true from decide_eq_true hy] at Y
  have hz : b = decide (-100 ≤ z ∧ z ≤ 100) := by
    rw [Bool.eq_iff_iff, hb.out, decide_eq_true_eq]
    exact ⟨fun h => h.2.2, fun h => ⟨hx, hy, h⟩⟩
  replace Z : ∀ w, Calls Try.prog 86 #[.int .i64 z, .int .i64 100] w fun e w' => e = .returned (.bool b) ∧ w = w' := by rw [hz]; exact Z
  clear hb hx hy hz
  go_enter Try.func62, Try.ntmps62
  go_wp2_with (first | (go_at_call_of 86 (Value.int IntKind.i64 x); refine (X _).mono ?_; rintro e w2 ⟨rfl, rfl⟩) | (go_at_call_of 86 (Value.int IntKind.i64 y); refine (Y _).mono ?_; rintro e w2 ⟨rfl, rfl⟩) | (go_at_call_of 86 (Value.int IntKind.i64 z); refine (Z _).mono ?_; rintro e w2 ⟨rfl, rfl⟩))
  go_ret
  exact ⟨rfl, bW⟩
theorem l5Hkl_any (x y z : Int) (w : World) (b : Bool) (hb : Hid (b = true ↔ hkR x y z)) : Calls Try.prog 60 #[hV x y z] w fun e w' => e = .returned (.bool b) ∧ Below w.heap.size w w' := by
  have X := fun w => in_any x (-100) 100 w
  have Y := fun w => in_any y (-100) 100 w
  have Z := fun w => in_any z (-100) 100 w
  obtain ⟨W, hW, a1, bW, -⟩ := boxed w 54 #[.int .i64 x, .int .i64 y, .int .i64 z]
  obtain ⟨c0, c1, c2, -⟩ := a1.open3
  clear a1
  by_cases hx : r100 x
  case neg =>
    obtain rfl : b = false := by cases b; rfl; exact absurd (hb.out.1 rfl).1 hx
    rw [show decide (-100 ≤ x ∧ x ≤ 100) = false from decide_eq_false hx] at X
    clear hb hx
    go_enter Try.func60, Try.ntmps60
    go_wp2_with (go_at_call 82; refine (X _).mono ?_; rintro e w2 ⟨rfl, rfl⟩)
    go_ret
    exact ⟨rfl, bW⟩
  rw [show decide (-100 ≤ x ∧ x ≤ 100) = true from decide_eq_true hx] at X
  by_cases hy : r100 y
  case neg =>
    obtain rfl : b = false := by cases b; rfl; exact absurd (hb.out.1 rfl).2.1 hy
    rw [show decide (-100 ≤ y ∧ y ≤ 100) = false from decide_eq_false hy] at Y
    clear hb hx hy
    go_enter Try.func60, Try.ntmps60
    go_wp2_with (first | (go_at_call_of 82 (Value.int IntKind.i64 x); refine (X _).mono ?_; rintro e w2 ⟨rfl, rfl⟩) | (go_at_call_of 82 (Value.int IntKind.i64 y); refine (Y _).mono ?_; rintro e w2 ⟨rfl, rfl⟩))
    go_ret
    exact ⟨rfl, bW⟩
  rw [show decide (-100 ≤ y ∧ y ≤ 100) = true from decide_eq_true hy] at Y
  have hz : b = decide (-100 ≤ z ∧ z ≤ 100) := by
    rw [Bool.eq_iff_iff, hb.out, decide_eq_true_eq]
    exact ⟨fun h => h.2.2, fun h => ⟨hx, hy, h⟩⟩
  replace Z : ∀ w, Calls Try.prog 82 #[.int .i64 z, .int .i64 (-100), .int .i64 100] w fun e w' => e = .returned (.bool b) ∧ w = w' := by rw [hz]; exact Z
  clear hb hx hy hz
  go_enter Try.func60, Try.ntmps60
  go_wp2_with (first | (go_at_call_of 82 (Value.int IntKind.i64 x); refine (X _).mono ?_; rintro e w2 ⟨rfl, rfl⟩) | (go_at_call_of 82 (Value.int IntKind.i64 y); refine (Y _).mono ?_; rintro e w2 ⟨rfl, rfl⟩) | (go_at_call_of 82 (Value.int IntKind.i64 z); refine (Z _).mono ?_; rintro e w2 ⟨rfl, rfl⟩))
  go_ret
  exact ⟨rfl, bW⟩
end Go.Proofs.Ytmjeplhigjlopaa
/-
  What an operator makes of a reflection, by the program: walked.
-/
namespace Go.Proofs.Ytmjeplhigjlopaa
open Go.RowKit

theorem At.open4f {t : TypeId} {w : World} {q : Nat} {v0 v1 v2 v3 : Value} (h : At t w q #[v0, v1, v2, v3]) : w.cell? ⟨q, 0, none⟩ = some v0 ∧ w.cell? ⟨q, 1, none⟩ = some v1 ∧ w.cell? ⟨q, 2, none⟩ = some v2 ∧ w.cell? ⟨q, 3, none⟩ = some v3 ∧ w.frozen? ⟨q, 0, none⟩ = false ∧ w.frozen? ⟨q, 1, none⟩ = false ∧ w.frozen? ⟨q, 2, none⟩ = false ∧ w.frozen? ⟨q, 3, none⟩ = false :=
  ⟨h.cell 0 rfl, h.cell 1 rfl, h.cell 2 rfl, h.cell 3 rfl, h.frozen 0, h.frozen 1, h.frozen 2, h.frozen 3⟩
theorem put4s_at {t : TypeId} {w : World} {q : Nat} {u0 u1 u2 u3 : Value} (h : At t w q #[u0, u1, u2, u3]) (v0 v1 v2 v3 : Value) : At t ((((w.setCell ⟨q, 0, none⟩ v0).setCell ⟨q, 1, none⟩ v1).setCell ⟨q, 2, none⟩ v2).setCell ⟨q, 3, none⟩ v3) q #[v0, v1, v2, v3] := by
  have := (((h.set 0 v0).set 1 v1).set 2 v2).set 3 v3
  simpa using this
theorem put4s_other {t : TypeId} {w : World} {q p : Nat} {vs : Array Value} (h : At t w q vs) (hq : q ≠ p) (v0 v1 v2 v3 : Value) : At t ((((w.setCell ⟨p, 0, none⟩ v0).setCell ⟨p, 1, none⟩ v1).setCell ⟨p, 2, none⟩ v2).setCell ⟨p, 3, none⟩ v3) q vs := (((h.setOther hq v0).setOther hq v1).setOther hq v2).setOther hq v3
theorem put3c_at {t : TypeId} {w : World} {q : Nat} {u0 u1 u2 : Value} (h : At t w q #[u0, u1, u2]) (v0 v1 v2 : Value) : At t (((w.setCell ⟨q, 0, none⟩ v0).setCell ⟨q, 1, none⟩ v1).setCell ⟨q, 2, none⟩ v2) q #[v0, v1, v2] := by
  have := ((h.set 0 v0).set 1 v1).set 2 v2
  simpa using this
theorem put3c_other {t : TypeId} {w : World} {q p : Nat} {vs : Array Value} (h : At t w q vs) (hq : q ≠ p) (v0 v1 v2 : Value) : At t (((w.setCell ⟨p, 0, none⟩ v0).setCell ⟨p, 1, none⟩ v1).setCell ⟨p, 2, none⟩ v2) q vs := ((h.setOther hq v0).setOther hq v1).setOther hq v2
/-- All that lay there lies there still. -/
abbrev Kb (u w : World) : Prop := Below u.heap.size u w
/-- What is read. -/
def RdS (q1 qm qt : Nat) (x y z : Int) (k : Nat → Int) (w : World) : Prop := At 54 w q1 #[.int .i64 x, .int .i64 y, .int .i64 z] ∧ At 73 w qm (matA k) ∧ At 75 w qt #[.int .i64 (k 9), .int .i64 (k 10), .int .i64 (k 11)]
/-- Two arrays that were taken out. -/
def Cut2 (k : Nat → Int) (wv : World) (s5 s6 : Value) (wc : World) : Prop := ∃ qm qt, s5 = .pointer (some ⟨qm, 0, none⟩) ∧ s6 = .pointer (some ⟨qt, 0, none⟩) ∧ At 73 wc qm (matA k) ∧ At 75 wc qt #[.int .i64 (k 9), .int .i64 (k 10), .int .i64 (k 11)] ∧ Below wv.heap.size wv wc
/-- An operator's numbers are small. -/
def smK (k : Nat → Int) : Prop := ∀ i, i < 12 → -24 ≤ k i ∧ k i ≤ 24
set_option maxRecDepth 100000 in
set_option maxHeartbeats 4000000 in
theorem shift_any {x y z : Int} {k : Nat → Int} (h : hkR x y z) (hk : smK k) (w : World) :
    Calls Try.prog 87 #[hV x y z, .agg (kc k).toArray] w fun e w' => e = .returned (shV (x * k 0 + y * k 3 + z * k 6) (x * k 1 + y * k 4 + z * k 7) (x * k 2 + y * k 5 + z * k 8) ((x * k 9 + y * k 10 + z * k 11) % 24)) ∧ Below w.heap.size w w' := by
  have hx : -100 ≤ x ∧ x ≤ 100 := h.1
  have hy : -100 ≤ y ∧ y ≤ 100 := h.2.1
  have hz : -100 ≤ z ∧ z ≤ 100 := h.2.2
  obtain ⟨W1, hW1, A1, b1, -⟩ := boxed w 54 #[.int .i64 x, .int .i64 y, .int .i64 z]
  obtain ⟨W2, hW2, A2, b2, -⟩ := boxed W1 77 (kc k).toArray
  obtain ⟨W3, hW3, A3, b3, -⟩ := boxed W2 110 #[.int .i64 0, .int .i64 0, .int .i64 0, .int .i64 0]
  obtain ⟨q1, hq1⟩ : ∃ q, w.heap.size = q := ⟨_, rfl⟩
  obtain ⟨q2, hq2⟩ : ∃ q, W1.heap.size = q := ⟨_, rfl⟩
  obtain ⟨q3, hq3⟩ : ∃ q, W2.heap.size = q := ⟨_, rfl⟩
  rw [hq1] at A1
  rw [hq2] at A2
  rw [hq3] at A3
  have h12 := A1.lt
  have h23 := A2.lt
  have h34 := A3.lt
  have h13 : q1 ≠ q3 := by have := b2.size; omega
  have h3w : w.heap.size ≤ q3 := by have := b1.size; have := b2.size; omega
  replace A1 := (A1.below b2).below b3
  replace A2 := A2.below b3
  have bW := (b1.trans (b2.mono b1.size)).trans (b3.mono (by have := b1.size; have := b2.size; omega))
  clear b1 b2 b3
  unfold kc at hW2 A2 ⊢
  go_enter Try.func87, Try.ntmps87
  go_wp2_with fail
  clear hW1 hW2 hW3 hq1 hq2 hq3
  go_cut [5, 6] from 7 to 11 (fun s5 s6 wc => Cut2 k W3 s5 s6 wc)
  case first =>
    obtain ⟨u0, hu0, bb⟩ : ∃ uu, W3.drew = uu ∧ Below W3.heap.size W3 uu := ⟨_, rfl, (Below.refl _ _).drew⟩
    have hbW := bb
    have hlW := bb.size
    have A2 := A2.below bb
    clear bb
    refine wp_region_held_drew (S := Kb u0) (by kernel_rfl) (by rw [hu0]; exact Below.refl _ _) (fun hHeld => ?_)
    rw [hu0] at hHeld ⊢
    clear hu0
    have bu : Kb u0 u0 := Below.refl _ _
    change wpAnyH _ _ _ _ _ 8 #[false, false, false, false, false, false, false, false] _ _
    refine wpAnyH_take (i := 0) (v := .pointer (some ⟨q2, 0, none⟩)) rfl (by kernel_rfl) (by kernel_rfl) (by kernel_rfl) (fun _ _ _ h => h) (Or.inl ⟨by kernel_rfl, ?_⟩) hHeld ?_
    · intro w' hSw; go_simp
    try simp only [Act.put, List.setIfInBounds_toArray, List.set_cons_zero, List.set_cons_succ, List.getElem_toArray, List.getElem_cons_zero]
    refine wpAnyH_take (i := 1) (v := .agg #[.int .i64 (k 0), .int .i64 (k 1), .int .i64 (k 2), .int .i64 (k 3), .int .i64 (k 4), .int .i64 (k 5), .int .i64 (k 6), .int .i64 (k 7), .int .i64 (k 8)]) rfl (by kernel_rfl) (by kernel_rfl) (by kernel_rfl) (fun _ _ _ h => h) (Or.inl ⟨by kernel_rfl, ?_⟩) hHeld ?_
    · intro w' hSw; obtain ⟨z0, z1, z2, z3, z4, z5, z6, z7, z8, z9, z10, z11⟩ := At.openk (x := k) (A2.below hSw); go_simp
    try simp only [Act.put, List.setIfInBounds_toArray, List.set_cons_zero, List.set_cons_succ, List.getElem_toArray, List.getElem_cons_succ, List.getElem_cons_zero]
    refine wpAnyH_take (i := 2) (v := .pointer (some ⟨q2, 9, none⟩)) rfl (by kernel_rfl) (by kernel_rfl) (by kernel_rfl) (fun _ _ _ h => h) (Or.inl ⟨by kernel_rfl, ?_⟩) hHeld ?_
    · intro w' hSw; go_simp
    try simp only [Act.put, List.setIfInBounds_toArray, List.set_cons_zero, List.set_cons_succ, List.getElem_toArray, List.getElem_cons_succ, List.getElem_cons_zero]
    refine wpAnyH_take (i := 3) (v := .agg #[.int .i64 (k 9), .int .i64 (k 10), .int .i64 (k 11)]) rfl (by kernel_rfl) (by kernel_rfl) (by kernel_rfl) (fun _ _ _ h => h) (Or.inl ⟨by kernel_rfl, ?_⟩) hHeld ?_
    · intro w' hSw; obtain ⟨z0, z1, z2, z3, z4, z5, z6, z7, z8, z9, z10, z11⟩ := At.openk (x := k) (A2.below hSw); go_simp
    try simp only [Act.put, List.setIfInBounds_toArray, List.set_cons_zero, List.set_cons_succ, List.getElem_toArray, List.getElem_cons_succ, List.getElem_cons_zero]
    refine wpAnyH_ready (rs := [4, 5]) (by kernel_rfl) (by simp) ?_
    refine AllReadyH.cons rfl (fun KK hK' => ?_) (AllReadyH.cons rfl (fun KK hK' => ?_) AllReadyH.nil)
    · go_simp
      obtain ⟨u1, h6, Mm, bb, -⟩ := boxed u0 73 #[.int .i64 0, .int .i64 0, .int .i64 0, .int .i64 0, .int .i64 0, .int .i64 0, .int .i64 0, .int .i64 0, .int .i64 0]
      rw [h6]
      clear h6
      obtain ⟨qm, hqm⟩ : ∃ q, u0.heap.size = q := ⟨_, rfl⟩
      rw [hqm] at Mm ⊢
      have hlm : u0.heap.size ≤ qm := by have := bu.size; omega
      replace bu : Kb u0 u1 := bu.trans (bb.mono bu.size)
      clear bb hqm
      clear hHeld
      refine hK'.out _ _ (bu) (fun hHeld => ?_)
      clear hK' KK
      try simp only [List.setIfInBounds_toArray, List.set_cons_zero, List.set_cons_succ]
      refine wpAnyH_ready (rs := [5]) (by kernel_rfl) (by simp) ?_
      refine AllReadyH.cons rfl (fun KK hK' => ?_) AllReadyH.nil
      go_simp
      obtain ⟨u2, h6, Mt, bb, -⟩ := boxed u1 75 #[.int .i64 0, .int .i64 0, .int .i64 0]
      rw [h6]
      clear h6
      obtain ⟨qt, hqt⟩ : ∃ q, u1.heap.size = q := ⟨_, rfl⟩
      rw [hqt] at Mt ⊢
      have hlt : u0.heap.size ≤ qt := by have := bu.size; omega
      have hnt : qt ≠ qm := by have := Mm.lt; omega
      have hnm : qm ≠ qt := Ne.symm hnt
      replace Mm := Mm.below bb
      replace bu : Kb u0 u2 := bu.trans (bb.mono bu.size)
      clear bb hqt
      clear hHeld
      refine hK'.out _ _ (bu) (fun hHeld => ?_)
      clear hK' KK
      try simp only [List.setIfInBounds_toArray, List.set_cons_zero, List.set_cons_succ]
      refine wpAnyH_ready (rs := [6]) (by kernel_rfl) (by simp) ?_
      refine AllReadyH.cons rfl (fun KK hK' => ?_) AllReadyH.nil
      obtain ⟨⟨y0, y1, y2, y3, y4, y5, y6, y7, y8⟩, x0, x1, x2, x3, x4, x5, x6, x7, x8⟩ := At.open9 (m := fun _ => 0) Mm
      go_simp
      have Mm2 := put9_at (v := fun _ => 0) Mm k
      have Mt2 : At 75 (put9 u2 qm k) qt _ := put9_other Mt hnt k
      replace bu : Kb u0 (put9 u2 qm k) := put9_below bu hlm k
      obtain ⟨u3, hv⟩ : ∃ V, put9 u2 qm k = V := ⟨_, rfl⟩
      change _ at bu
      rw [hv] at Mm2 Mt2 bu
      unfold put9 at hv
      rw [hv]
      clear hv Mm Mt y0 y1 y2 y3 y4 y5 y6 y7 y8 x0 x1 x2 x3 x4 x5 x6 x7 x8
      clear hHeld
      refine hK'.out _ _ (bu) (fun hHeld => ?_)
      clear hK' KK
      try simp only [List.setIfInBounds_toArray, List.set_cons_zero, List.set_cons_succ]
      refine wpAnyH_ready (rs := [7]) (by kernel_rfl) (by simp) ?_
      refine AllReadyH.cons rfl (fun KK hK' => ?_) AllReadyH.nil
      obtain ⟨y0, y1, y2, y3, y4, y5⟩ := Mt2.open3
      go_simp
      have Mt3 := put3c_at Mt2 (.int .i64 (k 9)) (.int .i64 (k 10)) (.int .i64 (k 11))
      have Mm3 := put3c_other Mm2 hnm (.int .i64 (k 9)) (.int .i64 (k 10)) (.int .i64 (k 11))
      replace bu : Kb u0 (((u3.setCell ⟨qt, 0, none⟩ (.int .i64 (k 9))).setCell ⟨qt, 1, none⟩ (.int .i64 (k 10))).setCell ⟨qt, 2, none⟩ (.int .i64 (k 11))) := ((bu.setCell hlt _).setCell hlt _).setCell hlt _
      obtain ⟨u4, hv⟩ : ∃ V, (((u3.setCell ⟨qt, 0, none⟩ (.int .i64 (k 9))).setCell ⟨qt, 1, none⟩ (.int .i64 (k 10))).setCell ⟨qt, 2, none⟩ (.int .i64 (k 11))) = V := ⟨_, rfl⟩
      rw [hv] at Mt3 Mm3 bu ⊢
      clear hv Mt2 Mm2 y0 y1 y2 y3 y4 y5
      clear hHeld
      refine hK'.out _ _ (bu) (fun hHeld => ?_)
      clear hK' KK
      try simp only [List.setIfInBounds_toArray, List.set_cons_zero, List.set_cons_succ]
      refine wpAnyH_done (by kernel_rfl) ?_ _
      clear hHeld
      go_wp2_with fail
      go_meet
      case rel => exact ⟨qm, qt, rfl, rfl, Mm3, Mt3, hbW.trans (Below.mono bu hlW)⟩
    · go_simp
      obtain ⟨u1, h6, Mt, bb, -⟩ := boxed u0 75 #[.int .i64 0, .int .i64 0, .int .i64 0]
      rw [h6]
      clear h6
      obtain ⟨qt, hqt⟩ : ∃ q, u0.heap.size = q := ⟨_, rfl⟩
      rw [hqt] at Mt ⊢
      have hlt : u0.heap.size ≤ qt := by have := bu.size; omega
      replace bu : Kb u0 u1 := bu.trans (bb.mono bu.size)
      clear bb hqt
      clear hHeld
      refine hK'.out _ _ (bu) (fun hHeld => ?_)
      clear hK' KK
      try simp only [List.setIfInBounds_toArray, List.set_cons_zero, List.set_cons_succ]
      refine wpAnyH_ready (rs := [4]) (by kernel_rfl) (by simp) ?_
      refine AllReadyH.cons rfl (fun KK hK' => ?_) AllReadyH.nil
      go_simp
      obtain ⟨u2, h6, Mm, bb, -⟩ := boxed u1 73 #[.int .i64 0, .int .i64 0, .int .i64 0, .int .i64 0, .int .i64 0, .int .i64 0, .int .i64 0, .int .i64 0, .int .i64 0]
      rw [h6]
      clear h6
      obtain ⟨qm, hqm⟩ : ∃ q, u1.heap.size = q := ⟨_, rfl⟩
      rw [hqm] at Mm ⊢
      have hlm : u0.heap.size ≤ qm := by have := bu.size; omega
      have hnm : qm ≠ qt := by have := Mt.lt; omega
      have hnt : qt ≠ qm := Ne.symm hnm
      replace Mt := Mt.below bb
      replace bu : Kb u0 u2 := bu.trans (bb.mono bu.size)
      clear bb hqm
      clear hHeld
      refine hK'.out _ _ (bu) (fun hHeld => ?_)
      clear hK' KK
      try simp only [List.setIfInBounds_toArray, List.set_cons_zero, List.set_cons_succ]
      refine wpAnyH_ready (rs := [6]) (by kernel_rfl) (by simp) ?_
      refine AllReadyH.cons rfl (fun KK hK' => ?_) AllReadyH.nil
      obtain ⟨⟨y0, y1, y2, y3, y4, y5, y6, y7, y8⟩, x0, x1, x2, x3, x4, x5, x6, x7, x8⟩ := At.open9 (m := fun _ => 0) Mm
      go_simp
      have Mm2 := put9_at (v := fun _ => 0) Mm k
      have Mt2 : At 75 (put9 u2 qm k) qt _ := put9_other Mt hnt k
      replace bu : Kb u0 (put9 u2 qm k) := put9_below bu hlm k
      obtain ⟨u3, hv⟩ : ∃ V, put9 u2 qm k = V := ⟨_, rfl⟩
      change _ at bu
      rw [hv] at Mm2 Mt2 bu
      unfold put9 at hv
      rw [hv]
      clear hv Mm Mt y0 y1 y2 y3 y4 y5 y6 y7 y8 x0 x1 x2 x3 x4 x5 x6 x7 x8
      clear hHeld
      refine hK'.out _ _ (bu) (fun hHeld => ?_)
      clear hK' KK
      try simp only [List.setIfInBounds_toArray, List.set_cons_zero, List.set_cons_succ]
      refine wpAnyH_ready (rs := [7]) (by kernel_rfl) (by simp) ?_
      refine AllReadyH.cons rfl (fun KK hK' => ?_) AllReadyH.nil
      obtain ⟨y0, y1, y2, y3, y4, y5⟩ := Mt2.open3
      go_simp
      have Mt3 := put3c_at Mt2 (.int .i64 (k 9)) (.int .i64 (k 10)) (.int .i64 (k 11))
      have Mm3 := put3c_other Mm2 hnm (.int .i64 (k 9)) (.int .i64 (k 10)) (.int .i64 (k 11))
      replace bu : Kb u0 (((u3.setCell ⟨qt, 0, none⟩ (.int .i64 (k 9))).setCell ⟨qt, 1, none⟩ (.int .i64 (k 10))).setCell ⟨qt, 2, none⟩ (.int .i64 (k 11))) := ((bu.setCell hlt _).setCell hlt _).setCell hlt _
      obtain ⟨u4, hv⟩ : ∃ V, (((u3.setCell ⟨qt, 0, none⟩ (.int .i64 (k 9))).setCell ⟨qt, 1, none⟩ (.int .i64 (k 10))).setCell ⟨qt, 2, none⟩ (.int .i64 (k 11))) = V := ⟨_, rfl⟩
      rw [hv] at Mt3 Mm3 bu ⊢
      clear hv Mt2 Mm2 y0 y1 y2 y3 y4 y5
      clear hHeld
      refine hK'.out _ _ (bu) (fun hHeld => ?_)
      clear hK' KK
      try simp only [List.setIfInBounds_toArray, List.set_cons_zero, List.set_cons_succ]
      refine wpAnyH_done (by kernel_rfl) ?_ _
      clear hHeld
      go_wp2_with fail
      go_meet
      case rel => exact ⟨qm, qt, rfl, rfl, Mm3, Mt3, hbW.trans (Below.mono bu hlW)⟩
  case rest =>
    obtain ⟨qm, qt, rfl, rfl, Mm, Mt, bb⟩ := hcut
    rename World => W4
    have hm3 : qm ≠ q3 := fun e => by
      have a := A3.below bb
      rw [← e] at a
      have := Mm.symm.trans a
      simp at this
    have ht3 : qt ≠ q3 := fun e => by
      have a := A3.below bb
      rw [← e] at a
      have := Mt.symm.trans a
      simp at this
    replace A1 := A1.below bb
    replace A3 := A3.below bb
    replace bW := bW.trans (bb.mono bW.size)
    clear bb A2
    have ma0 := mul_bound hx (hk 0 (by omega))
    have wa0 : IntKind.i64.wrap (x * k 0) = x * k 0 := IntWalk.i64_in _ (by omega)
    obtain ⟨a0, qa0⟩ : ∃ m, x * k 0 = m := ⟨_, rfl⟩
    rw [qa0] at wa0 ma0
    have mb0 := mul_bound hy (hk 3 (by omega))
    have wb0 : IntKind.i64.wrap (y * k 3) = y * k 3 := IntWalk.i64_in _ (by omega)
    obtain ⟨b0, qb0⟩ : ∃ m, y * k 3 = m := ⟨_, rfl⟩
    rw [qb0] at wb0 mb0
    have md0 := mul_bound hz (hk 6 (by omega))
    have wd0 : IntKind.i64.wrap (z * k 6) = z * k 6 := IntWalk.i64_in _ (by omega)
    obtain ⟨d0, qd0⟩ : ∃ m, z * k 6 = m := ⟨_, rfl⟩
    rw [qd0] at wd0 md0
    have we0 : IntKind.i64.wrap (a0 + b0) = a0 + b0 := IntWalk.i64_in _ (by omega)
    obtain ⟨e0, qe0⟩ : ∃ m, a0 + b0 = m := ⟨_, rfl⟩
    rw [qe0] at we0
    have ws0 : IntKind.i64.wrap (e0 + d0) = e0 + d0 := IntWalk.i64_in _ (by omega)
    obtain ⟨s0, qs0⟩ : ∃ m, e0 + d0 = m := ⟨_, rfl⟩
    rw [qs0] at ws0
    have HS0 : Hid (x * k 0 + y * k 3 + z * k 6 = s0) := show _ = _ by rw [qa0, qb0, qd0, qe0, qs0]
    have ma1 := mul_bound hx (hk 1 (by omega))
    have wa1 : IntKind.i64.wrap (x * k 1) = x * k 1 := IntWalk.i64_in _ (by omega)
    obtain ⟨a1, qa1⟩ : ∃ m, x * k 1 = m := ⟨_, rfl⟩
    rw [qa1] at wa1 ma1
    have mb1 := mul_bound hy (hk 4 (by omega))
    have wb1 : IntKind.i64.wrap (y * k 4) = y * k 4 := IntWalk.i64_in _ (by omega)
    obtain ⟨b1, qb1⟩ : ∃ m, y * k 4 = m := ⟨_, rfl⟩
    rw [qb1] at wb1 mb1
    have md1 := mul_bound hz (hk 7 (by omega))
    have wd1 : IntKind.i64.wrap (z * k 7) = z * k 7 := IntWalk.i64_in _ (by omega)
    obtain ⟨d1, qd1⟩ : ∃ m, z * k 7 = m := ⟨_, rfl⟩
    rw [qd1] at wd1 md1
    have we1 : IntKind.i64.wrap (a1 + b1) = a1 + b1 := IntWalk.i64_in _ (by omega)
    obtain ⟨e1, qe1⟩ : ∃ m, a1 + b1 = m := ⟨_, rfl⟩
    rw [qe1] at we1
    have ws1 : IntKind.i64.wrap (e1 + d1) = e1 + d1 := IntWalk.i64_in _ (by omega)
    obtain ⟨s1, qs1⟩ : ∃ m, e1 + d1 = m := ⟨_, rfl⟩
    rw [qs1] at ws1
    have HS1 : Hid (x * k 1 + y * k 4 + z * k 7 = s1) := show _ = _ by rw [qa1, qb1, qd1, qe1, qs1]
    have ma2 := mul_bound hx (hk 2 (by omega))
    have wa2 : IntKind.i64.wrap (x * k 2) = x * k 2 := IntWalk.i64_in _ (by omega)
    obtain ⟨a2, qa2⟩ : ∃ m, x * k 2 = m := ⟨_, rfl⟩
    rw [qa2] at wa2 ma2
    have mb2 := mul_bound hy (hk 5 (by omega))
    have wb2 : IntKind.i64.wrap (y * k 5) = y * k 5 := IntWalk.i64_in _ (by omega)
    obtain ⟨b2, qb2⟩ : ∃ m, y * k 5 = m := ⟨_, rfl⟩
    rw [qb2] at wb2 mb2
    have md2 := mul_bound hz (hk 8 (by omega))
    have wd2 : IntKind.i64.wrap (z * k 8) = z * k 8 := IntWalk.i64_in _ (by omega)
    obtain ⟨d2, qd2⟩ : ∃ m, z * k 8 = m := ⟨_, rfl⟩
    rw [qd2] at wd2 md2
    have we2 : IntKind.i64.wrap (a2 + b2) = a2 + b2 := IntWalk.i64_in _ (by omega)
    obtain ⟨e2, qe2⟩ : ∃ m, a2 + b2 = m := ⟨_, rfl⟩
    rw [qe2] at we2
    have ws2 : IntKind.i64.wrap (e2 + d2) = e2 + d2 := IntWalk.i64_in _ (by omega)
    obtain ⟨s2, qs2⟩ : ∃ m, e2 + d2 = m := ⟨_, rfl⟩
    rw [qs2] at ws2
    have HS2 : Hid (x * k 2 + y * k 5 + z * k 8 = s2) := show _ = _ by rw [qa2, qb2, qd2, qe2, qs2]
    have ma3 := mul_bound hx (hk 9 (by omega))
    have wa3 : IntKind.i64.wrap (x * k 9) = x * k 9 := IntWalk.i64_in _ (by omega)
    obtain ⟨a3, qa3⟩ : ∃ m, x * k 9 = m := ⟨_, rfl⟩
    rw [qa3] at wa3 ma3
    have mb3 := mul_bound hy (hk 10 (by omega))
    have wb3 : IntKind.i64.wrap (y * k 10) = y * k 10 := IntWalk.i64_in _ (by omega)
    obtain ⟨b3, qb3⟩ : ∃ m, y * k 10 = m := ⟨_, rfl⟩
    rw [qb3] at wb3 mb3
    have md3 := mul_bound hz (hk 11 (by omega))
    have wd3 : IntKind.i64.wrap (z * k 11) = z * k 11 := IntWalk.i64_in _ (by omega)
    obtain ⟨d3, qd3⟩ : ∃ m, z * k 11 = m := ⟨_, rfl⟩
    rw [qd3] at wd3 md3
    have we3 : IntKind.i64.wrap (a3 + b3) = a3 + b3 := IntWalk.i64_in _ (by omega)
    obtain ⟨e3, qe3⟩ : ∃ m, a3 + b3 = m := ⟨_, rfl⟩
    rw [qe3] at we3
    have ws3 : IntKind.i64.wrap (e3 + d3) = e3 + d3 := IntWalk.i64_in _ (by omega)
    obtain ⟨s3, qs3⟩ : ∃ m, e3 + d3 = m := ⟨_, rfl⟩
    rw [qs3] at ws3
    have HS3 : Hid (x * k 9 + y * k 10 + z * k 11 = s3) := show _ = _ by rw [qa3, qb3, qd3, qe3, qs3]
    go_wp2_with fail
    simp only [List.append_eq, List.cons_append, List.nil_append]
    obtain ⟨u0, hu0, bb⟩ : ∃ uu, W4.drew = uu ∧ Below W4.heap.size W4 uu := ⟨_, rfl, (Below.refl _ _).drew⟩
    replace A1 := A1.below bb
    replace A3 := A3.below bb
    replace Mm := Mm.below bb
    replace Mt := Mt.below bb
    replace bW := bW.trans (bb.mono bW.size)
    have hRd : RdS q1 qm qt x y z k u0 := ⟨A1, Mm, Mt⟩
    clear bb
    refine wp_region_held_drew (S := RdS q1 qm qt x y z k) (by kernel_rfl) (by rw [hu0]; exact hRd) (fun hHeld => ?_)
    rw [hu0] at hHeld ⊢
    clear hu0
    change wpAnyH _ _ _ _ _ 71 #[false, false, false, false, false, false, false, false, false, false, false, false, false, false, false, false, false, false, false, false, false, false, false, false, false, false, false, false, false, false, false, false, false, false, false, false, false, false, false, false, false, false, false, false, false, false, false, false, false, false, false, false, false, false, false, false, false, false, false, false, false, false, false, false, false, false, false, false, false, false, false] _ _
    refine wpAnyH_take (i := 0) (v := .pointer (some ⟨q1, 0, none⟩)) rfl (by kernel_rfl) (by kernel_rfl) (by kernel_rfl) (fun _ _ _ h => h) (Or.inl ⟨by kernel_rfl, ?_⟩) hHeld ?_
    · intro w' hSw; go_simp
    try simp only [Act.put, List.setIfInBounds_toArray, List.set_cons_zero, List.set_cons_succ, List.getElem_toArray, List.getElem_cons_zero]
    refine wpAnyH_take (i := 1) (v := .int .i64 (x)) rfl (by kernel_rfl) (by kernel_rfl) (by kernel_rfl) (fun _ _ _ h => h) (Or.inl ⟨by kernel_rfl, ?_⟩) hHeld ?_
    · intro w' hSw; obtain ⟨z0, z1, z2, -⟩ := hSw.1.open3; go_simp
    try simp only [Act.put, List.setIfInBounds_toArray, List.set_cons_zero, List.set_cons_succ, List.getElem_toArray, List.getElem_cons_succ, List.getElem_cons_zero]
    refine wpAnyH_take (i := 2) (v := .pointer (some ⟨qm, 0, none⟩)) rfl (by kernel_rfl) (by kernel_rfl) (by kernel_rfl) (fun _ _ _ h => h) (Or.inl ⟨by kernel_rfl, ?_⟩) hHeld ?_
    · intro w' hSw; go_simp
    try simp only [Act.put, List.setIfInBounds_toArray, List.set_cons_zero, List.set_cons_succ, List.getElem_toArray, List.getElem_cons_succ, List.getElem_cons_zero]
    refine wpAnyH_take (i := 3) (v := .int .i64 (k 0)) rfl (by kernel_rfl) (by kernel_rfl) (by kernel_rfl) (fun _ _ _ h => h) (Or.inl ⟨by kernel_rfl, ?_⟩) hHeld ?_
    · intro w' hSw; obtain ⟨⟨y0, y1, y2, y3, y4, y5, y6, y7, y8⟩, -⟩ := At.open9 (m := k) hSw.2.1; go_simp
    try simp only [Act.put, List.setIfInBounds_toArray, List.set_cons_zero, List.set_cons_succ, List.getElem_toArray, List.getElem_cons_succ, List.getElem_cons_zero]
    refine wpAnyH_take (i := 4) (v := .int .i64 (a0)) rfl (by kernel_rfl) (by kernel_rfl) (by kernel_rfl) (fun _ _ _ h => h) (Or.inl ⟨by kernel_rfl, ?_⟩) hHeld ?_
    · intro w' hSw; go_simp
    try simp only [Act.put, List.setIfInBounds_toArray, List.set_cons_zero, List.set_cons_succ, List.getElem_toArray, List.getElem_cons_succ, List.getElem_cons_zero]
    refine wpAnyH_take (i := 5) (v := .pointer (some ⟨q1, 1, none⟩)) rfl (by kernel_rfl) (by kernel_rfl) (by kernel_rfl) (fun _ _ _ h => h) (Or.inl ⟨by kernel_rfl, ?_⟩) hHeld ?_
    · intro w' hSw; go_simp
    try simp only [Act.put, List.setIfInBounds_toArray, List.set_cons_zero, List.set_cons_succ, List.getElem_toArray, List.getElem_cons_succ, List.getElem_cons_zero]
    refine wpAnyH_take (i := 6) (v := .int .i64 (y)) rfl (by kernel_rfl) (by kernel_rfl) (by kernel_rfl) (fun _ _ _ h => h) (Or.inl ⟨by kernel_rfl, ?_⟩) hHeld ?_
    · intro w' hSw; obtain ⟨z0, z1, z2, -⟩ := hSw.1.open3; go_simp
    try simp only [Act.put, List.setIfInBounds_toArray, List.set_cons_zero, List.set_cons_succ, List.getElem_toArray, List.getElem_cons_succ, List.getElem_cons_zero]
    refine wpAnyH_take (i := 7) (v := .pointer (some ⟨qm, 3, none⟩)) rfl (by kernel_rfl) (by kernel_rfl) (by kernel_rfl) (fun _ _ _ h => h) (Or.inl ⟨by kernel_rfl, ?_⟩) hHeld ?_
    · intro w' hSw; go_simp
    try simp only [Act.put, List.setIfInBounds_toArray, List.set_cons_zero, List.set_cons_succ, List.getElem_toArray, List.getElem_cons_succ, List.getElem_cons_zero]
    refine wpAnyH_take (i := 8) (v := .int .i64 (k 3)) rfl (by kernel_rfl) (by kernel_rfl) (by kernel_rfl) (fun _ _ _ h => h) (Or.inl ⟨by kernel_rfl, ?_⟩) hHeld ?_
    · intro w' hSw; obtain ⟨⟨y0, y1, y2, y3, y4, y5, y6, y7, y8⟩, -⟩ := At.open9 (m := k) hSw.2.1; go_simp
    try simp only [Act.put, List.setIfInBounds_toArray, List.set_cons_zero, List.set_cons_succ, List.getElem_toArray, List.getElem_cons_succ, List.getElem_cons_zero]
    refine wpAnyH_take (i := 9) (v := .int .i64 (b0)) rfl (by kernel_rfl) (by kernel_rfl) (by kernel_rfl) (fun _ _ _ h => h) (Or.inl ⟨by kernel_rfl, ?_⟩) hHeld ?_
    · intro w' hSw; go_simp
    try simp only [Act.put, List.setIfInBounds_toArray, List.set_cons_zero, List.set_cons_succ, List.getElem_toArray, List.getElem_cons_succ, List.getElem_cons_zero]
    refine wpAnyH_take (i := 10) (v := .int .i64 (e0)) rfl (by kernel_rfl) (by kernel_rfl) (by kernel_rfl) (fun _ _ _ h => h) (Or.inl ⟨by kernel_rfl, ?_⟩) hHeld ?_
    · intro w' hSw; go_simp
    try simp only [Act.put, List.setIfInBounds_toArray, List.set_cons_zero, List.set_cons_succ, List.getElem_toArray, List.getElem_cons_succ, List.getElem_cons_zero]
    refine wpAnyH_take (i := 11) (v := .pointer (some ⟨q1, 2, none⟩)) rfl (by kernel_rfl) (by kernel_rfl) (by kernel_rfl) (fun _ _ _ h => h) (Or.inl ⟨by kernel_rfl, ?_⟩) hHeld ?_
    · intro w' hSw; go_simp
    try simp only [Act.put, List.setIfInBounds_toArray, List.set_cons_zero, List.set_cons_succ, List.getElem_toArray, List.getElem_cons_succ, List.getElem_cons_zero]
    refine wpAnyH_take (i := 12) (v := .int .i64 (z)) rfl (by kernel_rfl) (by kernel_rfl) (by kernel_rfl) (fun _ _ _ h => h) (Or.inl ⟨by kernel_rfl, ?_⟩) hHeld ?_
    · intro w' hSw; obtain ⟨z0, z1, z2, -⟩ := hSw.1.open3; go_simp
    try simp only [Act.put, List.setIfInBounds_toArray, List.set_cons_zero, List.set_cons_succ, List.getElem_toArray, List.getElem_cons_succ, List.getElem_cons_zero]
    refine wpAnyH_take (i := 13) (v := .pointer (some ⟨qm, 6, none⟩)) rfl (by kernel_rfl) (by kernel_rfl) (by kernel_rfl) (fun _ _ _ h => h) (Or.inl ⟨by kernel_rfl, ?_⟩) hHeld ?_
    · intro w' hSw; go_simp
    try simp only [Act.put, List.setIfInBounds_toArray, List.set_cons_zero, List.set_cons_succ, List.getElem_toArray, List.getElem_cons_succ, List.getElem_cons_zero]
    refine wpAnyH_take (i := 14) (v := .int .i64 (k 6)) rfl (by kernel_rfl) (by kernel_rfl) (by kernel_rfl) (fun _ _ _ h => h) (Or.inl ⟨by kernel_rfl, ?_⟩) hHeld ?_
    · intro w' hSw; obtain ⟨⟨y0, y1, y2, y3, y4, y5, y6, y7, y8⟩, -⟩ := At.open9 (m := k) hSw.2.1; go_simp
    try simp only [Act.put, List.setIfInBounds_toArray, List.set_cons_zero, List.set_cons_succ, List.getElem_toArray, List.getElem_cons_succ, List.getElem_cons_zero]
    refine wpAnyH_take (i := 15) (v := .int .i64 (d0)) rfl (by kernel_rfl) (by kernel_rfl) (by kernel_rfl) (fun _ _ _ h => h) (Or.inl ⟨by kernel_rfl, ?_⟩) hHeld ?_
    · intro w' hSw; go_simp
    try simp only [Act.put, List.setIfInBounds_toArray, List.set_cons_zero, List.set_cons_succ, List.getElem_toArray, List.getElem_cons_succ, List.getElem_cons_zero]
    refine wpAnyH_take (i := 16) (v := .int .i64 (s0)) rfl (by kernel_rfl) (by kernel_rfl) (by kernel_rfl) (fun _ _ _ h => h) (Or.inl ⟨by kernel_rfl, ?_⟩) hHeld ?_
    · intro w' hSw; go_simp
    try simp only [Act.put, List.setIfInBounds_toArray, List.set_cons_zero, List.set_cons_succ, List.getElem_toArray, List.getElem_cons_succ, List.getElem_cons_zero]
    refine wpAnyH_take (i := 17) (v := .pointer (some ⟨q1, 0, none⟩)) rfl (by kernel_rfl) (by kernel_rfl) (by kernel_rfl) (fun _ _ _ h => h) (Or.inl ⟨by kernel_rfl, ?_⟩) hHeld ?_
    · intro w' hSw; go_simp
    try simp only [Act.put, List.setIfInBounds_toArray, List.set_cons_zero, List.set_cons_succ, List.getElem_toArray, List.getElem_cons_succ, List.getElem_cons_zero]
    refine wpAnyH_take (i := 18) (v := .int .i64 (x)) rfl (by kernel_rfl) (by kernel_rfl) (by kernel_rfl) (fun _ _ _ h => h) (Or.inl ⟨by kernel_rfl, ?_⟩) hHeld ?_
    · intro w' hSw; obtain ⟨z0, z1, z2, -⟩ := hSw.1.open3; go_simp
    try simp only [Act.put, List.setIfInBounds_toArray, List.set_cons_zero, List.set_cons_succ, List.getElem_toArray, List.getElem_cons_succ, List.getElem_cons_zero]
    refine wpAnyH_take (i := 19) (v := .pointer (some ⟨qm, 1, none⟩)) rfl (by kernel_rfl) (by kernel_rfl) (by kernel_rfl) (fun _ _ _ h => h) (Or.inl ⟨by kernel_rfl, ?_⟩) hHeld ?_
    · intro w' hSw; go_simp
    try simp only [Act.put, List.setIfInBounds_toArray, List.set_cons_zero, List.set_cons_succ, List.getElem_toArray, List.getElem_cons_succ, List.getElem_cons_zero]
    refine wpAnyH_take (i := 20) (v := .int .i64 (k 1)) rfl (by kernel_rfl) (by kernel_rfl) (by kernel_rfl) (fun _ _ _ h => h) (Or.inl ⟨by kernel_rfl, ?_⟩) hHeld ?_
    · intro w' hSw; obtain ⟨⟨y0, y1, y2, y3, y4, y5, y6, y7, y8⟩, -⟩ := At.open9 (m := k) hSw.2.1; go_simp
    try simp only [Act.put, List.setIfInBounds_toArray, List.set_cons_zero, List.set_cons_succ, List.getElem_toArray, List.getElem_cons_succ, List.getElem_cons_zero]
    refine wpAnyH_take (i := 21) (v := .int .i64 (a1)) rfl (by kernel_rfl) (by kernel_rfl) (by kernel_rfl) (fun _ _ _ h => h) (Or.inl ⟨by kernel_rfl, ?_⟩) hHeld ?_
    · intro w' hSw; go_simp
    try simp only [Act.put, List.setIfInBounds_toArray, List.set_cons_zero, List.set_cons_succ, List.getElem_toArray, List.getElem_cons_succ, List.getElem_cons_zero]
    refine wpAnyH_take (i := 22) (v := .pointer (some ⟨q1, 1, none⟩)) rfl (by kernel_rfl) (by kernel_rfl) (by kernel_rfl) (fun _ _ _ h => h) (Or.inl ⟨by kernel_rfl, ?_⟩) hHeld ?_
    · intro w' hSw; go_simp
    try simp only [Act.put, List.setIfInBounds_toArray, List.set_cons_zero, List.set_cons_succ, List.getElem_toArray, List.getElem_cons_succ, List.getElem_cons_zero]
    refine wpAnyH_take (i := 23) (v := .int .i64 (y)) rfl (by kernel_rfl) (by kernel_rfl) (by kernel_rfl) (fun _ _ _ h => h) (Or.inl ⟨by kernel_rfl, ?_⟩) hHeld ?_
    · intro w' hSw; obtain ⟨z0, z1, z2, -⟩ := hSw.1.open3; go_simp
    try simp only [Act.put, List.setIfInBounds_toArray, List.set_cons_zero, List.set_cons_succ, List.getElem_toArray, List.getElem_cons_succ, List.getElem_cons_zero]
    refine wpAnyH_take (i := 24) (v := .pointer (some ⟨qm, 4, none⟩)) rfl (by kernel_rfl) (by kernel_rfl) (by kernel_rfl) (fun _ _ _ h => h) (Or.inl ⟨by kernel_rfl, ?_⟩) hHeld ?_
    · intro w' hSw; go_simp
    try simp only [Act.put, List.setIfInBounds_toArray, List.set_cons_zero, List.set_cons_succ, List.getElem_toArray, List.getElem_cons_succ, List.getElem_cons_zero]
    refine wpAnyH_take (i := 25) (v := .int .i64 (k 4)) rfl (by kernel_rfl) (by kernel_rfl) (by kernel_rfl) (fun _ _ _ h => h) (Or.inl ⟨by kernel_rfl, ?_⟩) hHeld ?_
    · intro w' hSw; obtain ⟨⟨y0, y1, y2, y3, y4, y5, y6, y7, y8⟩, -⟩ := At.open9 (m := k) hSw.2.1; go_simp
    try simp only [Act.put, List.setIfInBounds_toArray, List.set_cons_zero, List.set_cons_succ, List.getElem_toArray, List.getElem_cons_succ, List.getElem_cons_zero]
    refine wpAnyH_take (i := 26) (v := .int .i64 (b1)) rfl (by kernel_rfl) (by kernel_rfl) (by kernel_rfl) (fun _ _ _ h => h) (Or.inl ⟨by kernel_rfl, ?_⟩) hHeld ?_
    · intro w' hSw; go_simp
    try simp only [Act.put, List.setIfInBounds_toArray, List.set_cons_zero, List.set_cons_succ, List.getElem_toArray, List.getElem_cons_succ, List.getElem_cons_zero]
    refine wpAnyH_take (i := 27) (v := .int .i64 (e1)) rfl (by kernel_rfl) (by kernel_rfl) (by kernel_rfl) (fun _ _ _ h => h) (Or.inl ⟨by kernel_rfl, ?_⟩) hHeld ?_
    · intro w' hSw; go_simp
    try simp only [Act.put, List.setIfInBounds_toArray, List.set_cons_zero, List.set_cons_succ, List.getElem_toArray, List.getElem_cons_succ, List.getElem_cons_zero]
    refine wpAnyH_take (i := 28) (v := .pointer (some ⟨q1, 2, none⟩)) rfl (by kernel_rfl) (by kernel_rfl) (by kernel_rfl) (fun _ _ _ h => h) (Or.inl ⟨by kernel_rfl, ?_⟩) hHeld ?_
    · intro w' hSw; go_simp
    try simp only [Act.put, List.setIfInBounds_toArray, List.set_cons_zero, List.set_cons_succ, List.getElem_toArray, List.getElem_cons_succ, List.getElem_cons_zero]
    refine wpAnyH_take (i := 29) (v := .int .i64 (z)) rfl (by kernel_rfl) (by kernel_rfl) (by kernel_rfl) (fun _ _ _ h => h) (Or.inl ⟨by kernel_rfl, ?_⟩) hHeld ?_
    · intro w' hSw; obtain ⟨z0, z1, z2, -⟩ := hSw.1.open3; go_simp
    try simp only [Act.put, List.setIfInBounds_toArray, List.set_cons_zero, List.set_cons_succ, List.getElem_toArray, List.getElem_cons_succ, List.getElem_cons_zero]
    refine wpAnyH_take (i := 30) (v := .pointer (some ⟨qm, 7, none⟩)) rfl (by kernel_rfl) (by kernel_rfl) (by kernel_rfl) (fun _ _ _ h => h) (Or.inl ⟨by kernel_rfl, ?_⟩) hHeld ?_
    · intro w' hSw; go_simp
    try simp only [Act.put, List.setIfInBounds_toArray, List.set_cons_zero, List.set_cons_succ, List.getElem_toArray, List.getElem_cons_succ, List.getElem_cons_zero]
    refine wpAnyH_take (i := 31) (v := .int .i64 (k 7)) rfl (by kernel_rfl) (by kernel_rfl) (by kernel_rfl) (fun _ _ _ h => h) (Or.inl ⟨by kernel_rfl, ?_⟩) hHeld ?_
    · intro w' hSw; obtain ⟨⟨y0, y1, y2, y3, y4, y5, y6, y7, y8⟩, -⟩ := At.open9 (m := k) hSw.2.1; go_simp
    try simp only [Act.put, List.setIfInBounds_toArray, List.set_cons_zero, List.set_cons_succ, List.getElem_toArray, List.getElem_cons_succ, List.getElem_cons_zero]
    refine wpAnyH_take (i := 32) (v := .int .i64 (d1)) rfl (by kernel_rfl) (by kernel_rfl) (by kernel_rfl) (fun _ _ _ h => h) (Or.inl ⟨by kernel_rfl, ?_⟩) hHeld ?_
    · intro w' hSw; go_simp
    try simp only [Act.put, List.setIfInBounds_toArray, List.set_cons_zero, List.set_cons_succ, List.getElem_toArray, List.getElem_cons_succ, List.getElem_cons_zero]
    refine wpAnyH_take (i := 33) (v := .int .i64 (s1)) rfl (by kernel_rfl) (by kernel_rfl) (by kernel_rfl) (fun _ _ _ h => h) (Or.inl ⟨by kernel_rfl, ?_⟩) hHeld ?_
    · intro w' hSw; go_simp
    try simp only [Act.put, List.setIfInBounds_toArray, List.set_cons_zero, List.set_cons_succ, List.getElem_toArray, List.getElem_cons_succ, List.getElem_cons_zero]
    refine wpAnyH_take (i := 34) (v := .pointer (some ⟨q1, 0, none⟩)) rfl (by kernel_rfl) (by kernel_rfl) (by kernel_rfl) (fun _ _ _ h => h) (Or.inl ⟨by kernel_rfl, ?_⟩) hHeld ?_
    · intro w' hSw; go_simp
    try simp only [Act.put, List.setIfInBounds_toArray, List.set_cons_zero, List.set_cons_succ, List.getElem_toArray, List.getElem_cons_succ, List.getElem_cons_zero]
    refine wpAnyH_take (i := 35) (v := .int .i64 (x)) rfl (by kernel_rfl) (by kernel_rfl) (by kernel_rfl) (fun _ _ _ h => h) (Or.inl ⟨by kernel_rfl, ?_⟩) hHeld ?_
    · intro w' hSw; obtain ⟨z0, z1, z2, -⟩ := hSw.1.open3; go_simp
    try simp only [Act.put, List.setIfInBounds_toArray, List.set_cons_zero, List.set_cons_succ, List.getElem_toArray, List.getElem_cons_succ, List.getElem_cons_zero]
    refine wpAnyH_take (i := 36) (v := .pointer (some ⟨qm, 2, none⟩)) rfl (by kernel_rfl) (by kernel_rfl) (by kernel_rfl) (fun _ _ _ h => h) (Or.inl ⟨by kernel_rfl, ?_⟩) hHeld ?_
    · intro w' hSw; go_simp
    try simp only [Act.put, List.setIfInBounds_toArray, List.set_cons_zero, List.set_cons_succ, List.getElem_toArray, List.getElem_cons_succ, List.getElem_cons_zero]
    refine wpAnyH_take (i := 37) (v := .int .i64 (k 2)) rfl (by kernel_rfl) (by kernel_rfl) (by kernel_rfl) (fun _ _ _ h => h) (Or.inl ⟨by kernel_rfl, ?_⟩) hHeld ?_
    · intro w' hSw; obtain ⟨⟨y0, y1, y2, y3, y4, y5, y6, y7, y8⟩, -⟩ := At.open9 (m := k) hSw.2.1; go_simp
    try simp only [Act.put, List.setIfInBounds_toArray, List.set_cons_zero, List.set_cons_succ, List.getElem_toArray, List.getElem_cons_succ, List.getElem_cons_zero]
    refine wpAnyH_take (i := 38) (v := .int .i64 (a2)) rfl (by kernel_rfl) (by kernel_rfl) (by kernel_rfl) (fun _ _ _ h => h) (Or.inl ⟨by kernel_rfl, ?_⟩) hHeld ?_
    · intro w' hSw; go_simp
    try simp only [Act.put, List.setIfInBounds_toArray, List.set_cons_zero, List.set_cons_succ, List.getElem_toArray, List.getElem_cons_succ, List.getElem_cons_zero]
    refine wpAnyH_take (i := 39) (v := .pointer (some ⟨q1, 1, none⟩)) rfl (by kernel_rfl) (by kernel_rfl) (by kernel_rfl) (fun _ _ _ h => h) (Or.inl ⟨by kernel_rfl, ?_⟩) hHeld ?_
    · intro w' hSw; go_simp
    try simp only [Act.put, List.setIfInBounds_toArray, List.set_cons_zero, List.set_cons_succ, List.getElem_toArray, List.getElem_cons_succ, List.getElem_cons_zero]
    refine wpAnyH_take (i := 40) (v := .int .i64 (y)) rfl (by kernel_rfl) (by kernel_rfl) (by kernel_rfl) (fun _ _ _ h => h) (Or.inl ⟨by kernel_rfl, ?_⟩) hHeld ?_
    · intro w' hSw; obtain ⟨z0, z1, z2, -⟩ := hSw.1.open3; go_simp
    try simp only [Act.put, List.setIfInBounds_toArray, List.set_cons_zero, List.set_cons_succ, List.getElem_toArray, List.getElem_cons_succ, List.getElem_cons_zero]
    refine wpAnyH_take (i := 41) (v := .pointer (some ⟨qm, 5, none⟩)) rfl (by kernel_rfl) (by kernel_rfl) (by kernel_rfl) (fun _ _ _ h => h) (Or.inl ⟨by kernel_rfl, ?_⟩) hHeld ?_
    · intro w' hSw; go_simp
    try simp only [Act.put, List.setIfInBounds_toArray, List.set_cons_zero, List.set_cons_succ, List.getElem_toArray, List.getElem_cons_succ, List.getElem_cons_zero]
    refine wpAnyH_take (i := 42) (v := .int .i64 (k 5)) rfl (by kernel_rfl) (by kernel_rfl) (by kernel_rfl) (fun _ _ _ h => h) (Or.inl ⟨by kernel_rfl, ?_⟩) hHeld ?_
    · intro w' hSw; obtain ⟨⟨y0, y1, y2, y3, y4, y5, y6, y7, y8⟩, -⟩ := At.open9 (m := k) hSw.2.1; go_simp
    try simp only [Act.put, List.setIfInBounds_toArray, List.set_cons_zero, List.set_cons_succ, List.getElem_toArray, List.getElem_cons_succ, List.getElem_cons_zero]
    refine wpAnyH_take (i := 43) (v := .int .i64 (b2)) rfl (by kernel_rfl) (by kernel_rfl) (by kernel_rfl) (fun _ _ _ h => h) (Or.inl ⟨by kernel_rfl, ?_⟩) hHeld ?_
    · intro w' hSw; go_simp
    try simp only [Act.put, List.setIfInBounds_toArray, List.set_cons_zero, List.set_cons_succ, List.getElem_toArray, List.getElem_cons_succ, List.getElem_cons_zero]
    refine wpAnyH_take (i := 44) (v := .int .i64 (e2)) rfl (by kernel_rfl) (by kernel_rfl) (by kernel_rfl) (fun _ _ _ h => h) (Or.inl ⟨by kernel_rfl, ?_⟩) hHeld ?_
    · intro w' hSw; go_simp
    try simp only [Act.put, List.setIfInBounds_toArray, List.set_cons_zero, List.set_cons_succ, List.getElem_toArray, List.getElem_cons_succ, List.getElem_cons_zero]
    refine wpAnyH_take (i := 45) (v := .pointer (some ⟨q1, 2, none⟩)) rfl (by kernel_rfl) (by kernel_rfl) (by kernel_rfl) (fun _ _ _ h => h) (Or.inl ⟨by kernel_rfl, ?_⟩) hHeld ?_
    · intro w' hSw; go_simp
    try simp only [Act.put, List.setIfInBounds_toArray, List.set_cons_zero, List.set_cons_succ, List.getElem_toArray, List.getElem_cons_succ, List.getElem_cons_zero]
    refine wpAnyH_take (i := 46) (v := .int .i64 (z)) rfl (by kernel_rfl) (by kernel_rfl) (by kernel_rfl) (fun _ _ _ h => h) (Or.inl ⟨by kernel_rfl, ?_⟩) hHeld ?_
    · intro w' hSw; obtain ⟨z0, z1, z2, -⟩ := hSw.1.open3; go_simp
    try simp only [Act.put, List.setIfInBounds_toArray, List.set_cons_zero, List.set_cons_succ, List.getElem_toArray, List.getElem_cons_succ, List.getElem_cons_zero]
    refine wpAnyH_take (i := 47) (v := .pointer (some ⟨qm, 8, none⟩)) rfl (by kernel_rfl) (by kernel_rfl) (by kernel_rfl) (fun _ _ _ h => h) (Or.inl ⟨by kernel_rfl, ?_⟩) hHeld ?_
    · intro w' hSw; go_simp
    try simp only [Act.put, List.setIfInBounds_toArray, List.set_cons_zero, List.set_cons_succ, List.getElem_toArray, List.getElem_cons_succ, List.getElem_cons_zero]
    refine wpAnyH_take (i := 48) (v := .int .i64 (k 8)) rfl (by kernel_rfl) (by kernel_rfl) (by kernel_rfl) (fun _ _ _ h => h) (Or.inl ⟨by kernel_rfl, ?_⟩) hHeld ?_
    · intro w' hSw; obtain ⟨⟨y0, y1, y2, y3, y4, y5, y6, y7, y8⟩, -⟩ := At.open9 (m := k) hSw.2.1; go_simp
    try simp only [Act.put, List.setIfInBounds_toArray, List.set_cons_zero, List.set_cons_succ, List.getElem_toArray, List.getElem_cons_succ, List.getElem_cons_zero]
    refine wpAnyH_take (i := 49) (v := .int .i64 (d2)) rfl (by kernel_rfl) (by kernel_rfl) (by kernel_rfl) (fun _ _ _ h => h) (Or.inl ⟨by kernel_rfl, ?_⟩) hHeld ?_
    · intro w' hSw; go_simp
    try simp only [Act.put, List.setIfInBounds_toArray, List.set_cons_zero, List.set_cons_succ, List.getElem_toArray, List.getElem_cons_succ, List.getElem_cons_zero]
    refine wpAnyH_take (i := 50) (v := .int .i64 (s2)) rfl (by kernel_rfl) (by kernel_rfl) (by kernel_rfl) (fun _ _ _ h => h) (Or.inl ⟨by kernel_rfl, ?_⟩) hHeld ?_
    · intro w' hSw; go_simp
    try simp only [Act.put, List.setIfInBounds_toArray, List.set_cons_zero, List.set_cons_succ, List.getElem_toArray, List.getElem_cons_succ, List.getElem_cons_zero]
    refine wpAnyH_take (i := 51) (v := .pointer (some ⟨q1, 0, none⟩)) rfl (by kernel_rfl) (by kernel_rfl) (by kernel_rfl) (fun _ _ _ h => h) (Or.inl ⟨by kernel_rfl, ?_⟩) hHeld ?_
    · intro w' hSw; go_simp
    try simp only [Act.put, List.setIfInBounds_toArray, List.set_cons_zero, List.set_cons_succ, List.getElem_toArray, List.getElem_cons_succ, List.getElem_cons_zero]
    refine wpAnyH_take (i := 52) (v := .int .i64 (x)) rfl (by kernel_rfl) (by kernel_rfl) (by kernel_rfl) (fun _ _ _ h => h) (Or.inl ⟨by kernel_rfl, ?_⟩) hHeld ?_
    · intro w' hSw; obtain ⟨z0, z1, z2, -⟩ := hSw.1.open3; go_simp
    try simp only [Act.put, List.setIfInBounds_toArray, List.set_cons_zero, List.set_cons_succ, List.getElem_toArray, List.getElem_cons_succ, List.getElem_cons_zero]
    refine wpAnyH_take (i := 53) (v := .pointer (some ⟨qt, 0, none⟩)) rfl (by kernel_rfl) (by kernel_rfl) (by kernel_rfl) (fun _ _ _ h => h) (Or.inl ⟨by kernel_rfl, ?_⟩) hHeld ?_
    · intro w' hSw; go_simp
    try simp only [Act.put, List.setIfInBounds_toArray, List.set_cons_zero, List.set_cons_succ, List.getElem_toArray, List.getElem_cons_succ, List.getElem_cons_zero]
    refine wpAnyH_take (i := 54) (v := .int .i64 (k 9)) rfl (by kernel_rfl) (by kernel_rfl) (by kernel_rfl) (fun _ _ _ h => h) (Or.inl ⟨by kernel_rfl, ?_⟩) hHeld ?_
    · intro w' hSw; obtain ⟨y0, y1, y2, -⟩ := hSw.2.2.open3; go_simp
    try simp only [Act.put, List.setIfInBounds_toArray, List.set_cons_zero, List.set_cons_succ, List.getElem_toArray, List.getElem_cons_succ, List.getElem_cons_zero]
    refine wpAnyH_take (i := 55) (v := .int .i64 (a3)) rfl (by kernel_rfl) (by kernel_rfl) (by kernel_rfl) (fun _ _ _ h => h) (Or.inl ⟨by kernel_rfl, ?_⟩) hHeld ?_
    · intro w' hSw; go_simp
    try simp only [Act.put, List.setIfInBounds_toArray, List.set_cons_zero, List.set_cons_succ, List.getElem_toArray, List.getElem_cons_succ, List.getElem_cons_zero]
    refine wpAnyH_take (i := 56) (v := .pointer (some ⟨q1, 1, none⟩)) rfl (by kernel_rfl) (by kernel_rfl) (by kernel_rfl) (fun _ _ _ h => h) (Or.inl ⟨by kernel_rfl, ?_⟩) hHeld ?_
    · intro w' hSw; go_simp
    try simp only [Act.put, List.setIfInBounds_toArray, List.set_cons_zero, List.set_cons_succ, List.getElem_toArray, List.getElem_cons_succ, List.getElem_cons_zero]
    refine wpAnyH_take (i := 57) (v := .int .i64 (y)) rfl (by kernel_rfl) (by kernel_rfl) (by kernel_rfl) (fun _ _ _ h => h) (Or.inl ⟨by kernel_rfl, ?_⟩) hHeld ?_
    · intro w' hSw; obtain ⟨z0, z1, z2, -⟩ := hSw.1.open3; go_simp
    try simp only [Act.put, List.setIfInBounds_toArray, List.set_cons_zero, List.set_cons_succ, List.getElem_toArray, List.getElem_cons_succ, List.getElem_cons_zero]
    refine wpAnyH_take (i := 58) (v := .pointer (some ⟨qt, 1, none⟩)) rfl (by kernel_rfl) (by kernel_rfl) (by kernel_rfl) (fun _ _ _ h => h) (Or.inl ⟨by kernel_rfl, ?_⟩) hHeld ?_
    · intro w' hSw; go_simp
    try simp only [Act.put, List.setIfInBounds_toArray, List.set_cons_zero, List.set_cons_succ, List.getElem_toArray, List.getElem_cons_succ, List.getElem_cons_zero]
    refine wpAnyH_take (i := 59) (v := .int .i64 (k 10)) rfl (by kernel_rfl) (by kernel_rfl) (by kernel_rfl) (fun _ _ _ h => h) (Or.inl ⟨by kernel_rfl, ?_⟩) hHeld ?_
    · intro w' hSw; obtain ⟨y0, y1, y2, -⟩ := hSw.2.2.open3; go_simp
    try simp only [Act.put, List.setIfInBounds_toArray, List.set_cons_zero, List.set_cons_succ, List.getElem_toArray, List.getElem_cons_succ, List.getElem_cons_zero]
    refine wpAnyH_take (i := 60) (v := .int .i64 (b3)) rfl (by kernel_rfl) (by kernel_rfl) (by kernel_rfl) (fun _ _ _ h => h) (Or.inl ⟨by kernel_rfl, ?_⟩) hHeld ?_
    · intro w' hSw; go_simp
    try simp only [Act.put, List.setIfInBounds_toArray, List.set_cons_zero, List.set_cons_succ, List.getElem_toArray, List.getElem_cons_succ, List.getElem_cons_zero]
    refine wpAnyH_take (i := 61) (v := .int .i64 (e3)) rfl (by kernel_rfl) (by kernel_rfl) (by kernel_rfl) (fun _ _ _ h => h) (Or.inl ⟨by kernel_rfl, ?_⟩) hHeld ?_
    · intro w' hSw; go_simp
    try simp only [Act.put, List.setIfInBounds_toArray, List.set_cons_zero, List.set_cons_succ, List.getElem_toArray, List.getElem_cons_succ, List.getElem_cons_zero]
    refine wpAnyH_take (i := 62) (v := .pointer (some ⟨q1, 2, none⟩)) rfl (by kernel_rfl) (by kernel_rfl) (by kernel_rfl) (fun _ _ _ h => h) (Or.inl ⟨by kernel_rfl, ?_⟩) hHeld ?_
    · intro w' hSw; go_simp
    try simp only [Act.put, List.setIfInBounds_toArray, List.set_cons_zero, List.set_cons_succ, List.getElem_toArray, List.getElem_cons_succ, List.getElem_cons_zero]
    refine wpAnyH_take (i := 63) (v := .int .i64 (z)) rfl (by kernel_rfl) (by kernel_rfl) (by kernel_rfl) (fun _ _ _ h => h) (Or.inl ⟨by kernel_rfl, ?_⟩) hHeld ?_
    · intro w' hSw; obtain ⟨z0, z1, z2, -⟩ := hSw.1.open3; go_simp
    try simp only [Act.put, List.setIfInBounds_toArray, List.set_cons_zero, List.set_cons_succ, List.getElem_toArray, List.getElem_cons_succ, List.getElem_cons_zero]
    refine wpAnyH_take (i := 64) (v := .pointer (some ⟨qt, 2, none⟩)) rfl (by kernel_rfl) (by kernel_rfl) (by kernel_rfl) (fun _ _ _ h => h) (Or.inl ⟨by kernel_rfl, ?_⟩) hHeld ?_
    · intro w' hSw; go_simp
    try simp only [Act.put, List.setIfInBounds_toArray, List.set_cons_zero, List.set_cons_succ, List.getElem_toArray, List.getElem_cons_succ, List.getElem_cons_zero]
    refine wpAnyH_take (i := 65) (v := .int .i64 (k 11)) rfl (by kernel_rfl) (by kernel_rfl) (by kernel_rfl) (fun _ _ _ h => h) (Or.inl ⟨by kernel_rfl, ?_⟩) hHeld ?_
    · intro w' hSw; obtain ⟨y0, y1, y2, -⟩ := hSw.2.2.open3; go_simp
    try simp only [Act.put, List.setIfInBounds_toArray, List.set_cons_zero, List.set_cons_succ, List.getElem_toArray, List.getElem_cons_succ, List.getElem_cons_zero]
    refine wpAnyH_take (i := 66) (v := .int .i64 (d3)) rfl (by kernel_rfl) (by kernel_rfl) (by kernel_rfl) (fun _ _ _ h => h) (Or.inl ⟨by kernel_rfl, ?_⟩) hHeld ?_
    · intro w' hSw; go_simp
    try simp only [Act.put, List.setIfInBounds_toArray, List.set_cons_zero, List.set_cons_succ, List.getElem_toArray, List.getElem_cons_succ, List.getElem_cons_zero]
    refine wpAnyH_take (i := 67) (v := .int .i64 (s3)) rfl (by kernel_rfl) (by kernel_rfl) (by kernel_rfl) (fun _ _ _ h => h) (Or.inl ⟨by kernel_rfl, ?_⟩) hHeld ?_
    · intro w' hSw; go_simp
    try simp only [Act.put, List.setIfInBounds_toArray, List.set_cons_zero, List.set_cons_succ, List.getElem_toArray, List.getElem_cons_succ, List.getElem_cons_zero]
    refine wpAnyH_ready (rs := [68]) (by kernel_rfl) (by simp) ?_
    refine AllReadyH.cons rfl (fun KK hK' => ?_) AllReadyH.nil
    go_simp
    refine (modulo_any s3 _ (by omega)).mono ?_
    rintro e u1 ⟨rfl, rfl⟩
    try go_wp2_with fail
    clear hHeld
    refine hK'.out _ _ (hRd) (fun hHeld => ?_)
    clear hK' KK
    try simp only [List.setIfInBounds_toArray, List.set_cons_zero, List.set_cons_succ]
    refine wpAnyH_take (i := 69) (v := .agg #[.int .i64 s0, .int .i64 s1, .int .i64 s2, .int .i64 (s3 % 24)]) rfl (by kernel_rfl) (by kernel_rfl) (by kernel_rfl) (fun _ _ _ h => h) (Or.inl ⟨by kernel_rfl, ?_⟩) hHeld ?_
    · intro w' hSw; go_simp
    try simp only [Act.put, List.setIfInBounds_toArray, List.set_cons_zero, List.set_cons_succ, List.getElem_toArray, List.getElem_cons_succ, List.getElem_cons_zero]
    refine wpAnyH_ready (rs := [70]) (by kernel_rfl) (by simp) ?_
    refine AllReadyH.cons rfl (fun KK hK' => ?_) AllReadyH.nil
    obtain ⟨y0, y1, y2, y3, y4, y5, y6, y7⟩ := At.open4f A3
    go_simp
    have A4 := put4s_at A3 (.int .i64 s0) (.int .i64 s1) (.int .i64 s2) (.int .i64 (s3 % 24))
    have hRd2 : RdS q1 qm qt x y z k ((((u0.setCell ⟨q3, 0, none⟩ (.int .i64 s0)).setCell ⟨q3, 1, none⟩ (.int .i64 s1)).setCell ⟨q3, 2, none⟩ (.int .i64 s2)).setCell ⟨q3, 3, none⟩ (.int .i64 (s3 % 24))) := ⟨put4s_other hRd.1 h13 _ _ _ _, put4s_other hRd.2.1 hm3 _ _ _ _, put4s_other hRd.2.2 ht3 _ _ _ _⟩
    replace bW : Below w.heap.size w ((((u0.setCell ⟨q3, 0, none⟩ (.int .i64 s0)).setCell ⟨q3, 1, none⟩ (.int .i64 s1)).setCell ⟨q3, 2, none⟩ (.int .i64 s2)).setCell ⟨q3, 3, none⟩ (.int .i64 (s3 % 24))) := (((bW.setCell h3w _).setCell h3w _).setCell h3w _).setCell h3w _
    obtain ⟨u2, hv⟩ : ∃ V, (((u0.setCell ⟨q3, 0, none⟩ (.int .i64 s0)).setCell ⟨q3, 1, none⟩ (.int .i64 s1)).setCell ⟨q3, 2, none⟩ (.int .i64 s2)).setCell ⟨q3, 3, none⟩ (.int .i64 (s3 % 24)) = V := ⟨_, rfl⟩
    rw [hv] at A4 hRd2 bW ⊢
    clear hv A3 y0 y1 y2 y3 y4 y5 y6 y7
    clear hHeld
    refine hK'.out _ _ (hRd2) (fun hHeld => ?_)
    clear hK' KK
    try simp only [List.setIfInBounds_toArray, List.set_cons_zero, List.set_cons_succ]
    refine wpAnyH_done (by kernel_rfl) ?_ _
    clear hHeld
    clear wa0 wb0 wd0 we0 ws0 qa0 qb0 qd0 qe0 qs0 ma0 mb0 md0 wa1 wb1 wd1 we1 ws1 qa1 qb1 qd1 qe1 qs1 ma1 mb1 md1 wa2 wb2 wd2 we2 ws2 qa2 qb2 qd2 qe2 qs2 ma2 mb2 md2 wa3 wb3 wd3 we3 ws3 qa3 qb3 qd3 qe3 qs3 ma3 mb3 md3
    obtain ⟨c0, c1, c2, c3, -⟩ := At.open4f A4
    go_wp2
    exact bodyPost_ret (v := shV s0 s1 s2 (s3 % 24)) (by simp [results, Try.results87, go_sem, c0, c1, c2, c3]) rfl ⟨by rw [HS0.out, HS1.out, HS2.out, HS3.out], bW⟩
end Go.Proofs.Ytmjeplhigjlopaa
