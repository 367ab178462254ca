/-
  Which operators of a list let a point stay; Stabiliser by the specification: walked.
-/
import Derived.Test.YtpolnkjmojofoaaGreatNA
import Derived.Test.YtpolnkjmojofoaaGreatMP
import Derived.Test.YtpolnkjmojofoaaGreatQd
import Derived.Test.YtpolnkjmojofoaaGreatMG
namespace Go.Proofs.YtpolnkjmojofoaaGreat
open Go.RowKit

/-- The numbers below n that P holds of, in their order. -/
def kL (P : Nat → Bool) (n : Nat) : List Nat := (List.range n).filter P
def kN (P : Nat → Bool) (n : Nat) : Nat := (kL P n).length
def kI (P : Nat → Bool) (n j : Nat) : Nat := ((kL P n)[j]?).getD 0
theorem kL_yes {P : Nat → Bool} {n : Nat} (h : P n = true) : kL P (n + 1) = kL P n ++ [n] := by simp [kL, List.range_succ, h]
theorem kL_no {P : Nat → Bool} {n : Nat} (h : P n = false) : kL P (n + 1) = kL P n := by simp [kL, List.range_succ, h]
theorem kN_yes {P : Nat → Bool} {n : Nat} (h : P n = true) : kN P (n + 1) = kN P n + 1 := by simp [kN, kL_yes h]
theorem kN_no {P : Nat → Bool} {n : Nat} (h : P n = false) : kN P (n + 1) = kN P n := by simp [kN, kL_no h]
theorem kI_no {P : Nat → Bool} {n : Nat} (h : P n = false) (j : Nat) : kI P (n + 1) j = kI P n j := by simp [kI, kL_no h]
theorem kI_old {P : Nat → Bool} {n : Nat} (h : P n = true) {j : Nat} (hj : j < kN P n) : kI P (n + 1) j = kI P n j := by
  unfold kI
  rw [kL_yes h, List.getElem?_append_left hj]
theorem kI_new {P : Nat → Bool} {n : Nat} (h : P n = true) : kI P (n + 1) (kN P n) = n := by
  unfold kI kN
  rw [kL_yes h, List.getElem?_append_right (Nat.le_refl _)]
  simp
theorem kN_le (P : Nat → Bool) (n : Nat) : kN P n ≤ n := by
  have := List.length_filter_le P (List.range n)
  simpa [kN, kL] using this
theorem kI_lt {P : Nat → Bool} {n j : Nat} (hj : j < kN P n) : kI P n j < n := by
  unfold kI
  have h : (kL P n)[j]? = some ((kL P n)[j]'hj) := List.getElem?_eq_getElem hj
  rw [h]
  have h2 : (kL P n)[j]'hj ∈ kL P n := List.getElem_mem hj
  have h3 := (List.mem_filter.1 h2).1
  simpa using h3
theorem OpsG.congr {w : World} {lo n : Nat} {v : Value} {X Y : Nat → Value} {A A' : Nat → OpD} (h : OpsG w lo v n X Y A) (e : ∀ i, i < n → A i = A' i) : OpsG w lo v n X Y A' :=
  ⟨h.row, h.nn, fun i hi => (e i hi) ▸ h.xs i hi, fun i hi => (e i hi) ▸ h.ys i hi, h.dj⟩
theorem OpsA.lower {w : World} {lo lo' hi g n : Nat} {X Y : Nat → Value} {A : Nat → OpD} (h : OpsA w lo hi g n X Y A) (hl : lo' ≤ lo) : OpsA w lo' hi g n X Y A :=
  ⟨⟨Nat.le_trans hl h.blk.1, h.blk.2⟩, fun i hi => (h.xs i hi).wide hl (Nat.le_refl _), fun i hi => (h.ys i hi).wide hl (Nat.le_refl _), h.dj⟩
theorem OpsG.more {wr w3 w4 : World} {lo i : Nat} {v v4 v1 v2 : Value} {X Y : Nat → Value} {A : Nat → OpD} {P : Nat → Bool} (h : OpsG wr lo v (kN P i) X Y (fun j => A (kI P i j))) (hP : P i = true) (hk : (A i).n = 9 ∧ (A i).k = 3) (hlo : lo ≤ wr.heap.size) (b3 : Below wr.heap.size wr w3) (r1 : Arr w3 wr.heap.size w3.heap.size v1 9 (A i).f) (r2 : Arr w3 wr.heap.size w3.heap.size v2 3 (A i).h) (ap : Apart v1 v2)
    (hg : w3.grownBy w4 v.ownBlock) (hrow : w4.ownsRow lo 31 2 v4 (kN P i + 1) (pc X Y (kN P i) ++ [v1, v2])) (hne : v4 ≠ .slice none 0 0) : ∃ X' Y', OpsG w4 lo v4 (kN P (i + 1)) X' Y' (fun j => A (kI P (i + 1) j)) := by
  rw [kN_yes hP]
  have h' := h.congr (A' := fun j => A (kI P (i + 1) j)) (fun j hj => by rw [kI_old hP hj])
  refine h'.next hlo b3 ?_ ?_ ap hg hrow hne
  · show Arr _ _ _ _ (A (kI P (i + 1) (kN P i))).n (A (kI P (i + 1) (kN P i))).f
    rw [kI_new hP, hk.1]; exact r1
  · show Arr _ _ _ _ (A (kI P (i + 1) (kN P i))).k (A (kI P (i + 1) (kN P i))).h
    rw [kI_new hP, hk.2]; exact r2
theorem hidden {p : Prop} (h : p) : Hid p := h
/-- The operator lets the point stay. -/
def stay (x y z : Int) (o : OpD) : Bool := decide (actV o.f o.h (p3 x y z) 0 = x ∧ actV o.f o.h (p3 x y z) 1 = y ∧ actV o.f o.h (p3 x y z) 2 = z)
/-- An own list of the operators of A that let the point stay; none, if r does not hold. -/
def StaP (w : World) (lo : Nat) (v : Value) (n : Nat) (A : Nat → OpD) (x y z : Int) : Prop :=
  ∃ g c X Y m, v = .slice (some ⟨g, 0, none⟩) m c ∧ OpsA w lo w.heap.size g m X Y (fun j => A (kI (fun i => stay x y z (A i)) n j)) ∧ ((isG n A ∧ inP x y z) ∧ m = kN (fun i => stay x y z (A i)) n ∨ ¬ (isG n A ∧ inP x y z) ∧ m = 0)
theorem opsG_new {w W : World} {A : Nat → OpD} (a1 : At 31 W w.heap.size #[]) : OpsG W w.heap.size (.slice (some ⟨w.heap.size, 0, none⟩) 0 0) 0 (fun _ => undef) (fun _ => undef) A := ⟨⟨rfl, .inr ⟨w.heap.size, 0, #[], rfl, Nat.le_refl _, a1, Nat.le_refl _, Nat.zero_le _, rfl, rfl⟩⟩, ne_nil _ _ _, fun i hi => by omega, fun i hi => by omega, fun i j hi => by omega, fun i j hi => by omega⟩
end Go.Proofs.YtpolnkjmojofoaaGreat
/-
  Extinct by the program, and the law FnExactExtinct: walked.
-/
namespace Go.Proofs.YtpolnkjmojofoaaGreat
open Go.RowKit

theorem oprs_open {w : World} {base n : Nat} {v : Value} {F : Nat → Nat → Int} (h : Oprs w base v n F) : ∃ g c, v = .slice (some ⟨g, 0, none⟩) n c := by
  rcases h.1.2 with ⟨e, _⟩ | ⟨g, c, cur, e, -⟩
  · exact absurd e h.2
  · exact ⟨g, c, e⟩
end Go.Proofs.YtpolnkjmojofoaaGreat
/-
  Stabiliser by the program: walked.
-/
namespace Go.Proofs.YtpolnkjmojofoaaGreat
open Go.RowKit

theorem Oprs.grown {w w' : World} {base g n c : Nat} {F : Nat → Nat → Int} {v : Value} (h : Oprs w base (.slice (some ⟨g, 0, none⟩) n c) n F) (hg : w.grownBy w' v.ownBlock) (hne : v.ownBlock ≠ some g) : Oprs w' base (.slice (some ⟨g, 0, none⟩) n c) n F := by
  refine ⟨?_, h.2⟩
  obtain ⟨e0, h1 | ⟨g', c', cur, e, hb, hh, r⟩⟩ := h.1
  · exact ⟨e0, .inl h1⟩
  · cases e
    exact ⟨e0, .inr ⟨g, c, cur, rfl, hb, (hg.block g (Array.getElem?_eq_some_iff.1 hh).1 (fun e => hne e.symm)).trans hh, r⟩⟩
theorem Oprs.lt {w : World} {base g n c : Nat} {F : Nat → Nat → Int} (h : Oprs w base (.slice (some ⟨g, 0, none⟩) n c) n F) : base ≤ g ∧ g < w.heap.size := by
  obtain ⟨e0, h1 | ⟨g', c', cur, e, hb, hh, r⟩⟩ := h.1
  · exact absurd h1.1 h.2
  · cases e
    exact ⟨hb, (Array.getElem?_eq_some_iff.1 hh).1⟩
theorem Oprs.more {w' : World} {base i : Nat} {v' : Value} {K : Nat → Nat → Int} {P : Nat → Bool} (hP : P i = true) (hown : w'.ownsRow base 70 12 v' (kN P i + 1) (kCells (fun j => K (kI P i j)) (kN P i) ++ kc (K i))) (hne : v' ≠ .slice none 0 0) : Oprs w' base v' (kN P (i + 1)) (fun j => K (kI P (i + 1) j)) := by
  refine ⟨?_, hne⟩
  rw [kN_yes hP]
  show w'.ownsRow base _ 12 v' _ (kCells (fun j => K (kI P (i + 1) j)) (kN P i) ++ kc (K (kI P (i + 1) (kN P i))))
  rw [kI_new hP, kCells_congr (G := fun j => K (kI P i j)) (fun j hj l _ => by rw [kI_old hP hj])]
  exact hown
theorem Oprs.same {w : World} {base i : Nat} {v : Value} {K : Nat → Nat → Int} {P : Nat → Bool} (hP : P i = false) (h : Oprs w base v (kN P i) (fun j => K (kI P i j))) : Oprs w base v (kN P (i + 1)) (fun j => K (kI P (i + 1) j)) := by
  refine ⟨?_, h.2⟩
  rw [kN_no hP, kCells_congr (G := fun j => K (kI P i j)) (fun j hj l _ => by rw [kI_no hP])]
  exact h.1
theorem key_R {o : OpD} (h : o.ok) : isR o.key (kh o.key) := by
  obtain ⟨-, -, h1, h2, h3⟩ := h
  refine ⟨fun i hi => by rw [key_lo o hi]; exact h1 i hi, fun i hi => by show 0 ≤ o.key (9 + i) ∧ o.key (9 + i) < 24; rw [key_hi]; exact h2 i hi, ?_⟩
  have : det3 o.key = det3 o.f := by
    unfold det3
    simp only [key_lo o (show 0 < 9 by decide), key_lo o (show 1 < 9 by decide), key_lo o (show 2 < 9 by decide), key_lo o (show 3 < 9 by decide), key_lo o (show 4 < 9 by decide), key_lo o (show 5 < 9 by decide), key_lo o (show 6 < 9 by decide), key_lo o (show 7 < 9 by decide), key_lo o (show 8 < 9 by decide)]
  rw [this]; exact h3
theorem key_act (o : OpD) (p : Nat → Int) (i : Nat) (hi : i < 3) : actV o.key (kh o.key) p i = actV o.f o.h p i := by
  unfold actV
  have e : movV o.key p i = movV o.f p i := by
    unfold movV
    simp only [vsum]
    rw [key_lo o (by omega), key_lo o (by omega), key_lo o (by omega)]
  rw [e, show kh o.key i = o.h i from key_hi o i]
theorem oprs_new {w W : World} {F : Nat → Nat → Int} (a1 : At 70 W w.heap.size #[]) : Oprs W w.heap.size (.slice (some ⟨w.heap.size, 0, none⟩) 0 0) 0 F := ⟨⟨rfl, .inr ⟨w.heap.size, 0, #[], rfl, Nat.le_refl _, a1, Nat.le_refl _, Nat.zero_le _, rfl, rfl⟩⟩, ne_nil _ _ _⟩
theorem grp_one {w : World} {base n : Nat} {A : Nat → OpD} {v : Value} (h : GrpOf w base n A v) : ∃ g m c, v = .slice (some ⟨g, 0, none⟩) m c ∧ Oprs w base v m (fun i => (A i).key) ∧ m ≤ 192 ∧ m ≤ n ∧ (isG n A ∧ m = n ∨ ¬ isG n A ∧ m = 0) := by
  rcases h with ⟨h1, h2⟩ | ⟨h1, F, h2⟩
  · obtain ⟨g, c, e⟩ := oprs_open h2
    exact ⟨g, n, c, e, h2, h1.1, Nat.le_refl _, .inl ⟨h1, rfl⟩⟩
  · obtain ⟨g, c, e⟩ := oprs_open h2
    exact ⟨g, 0, c, e, h2, Nat.zero_le _, Nat.zero_le _, .inr ⟨h1, rfl⟩⟩
/-- What the program's Stabiliser tells. -/
def StaQ (w : World) (lo : Nat) (v : Value) (n : Nat) (A : Nat → OpD) (x y z : Int) : Prop :=
  ∃ g c X Y m, v = .slice (some ⟨g, 0, none⟩) m c ∧ OpsA w lo w.heap.size g m X Y (fun j => opD (A (kI (fun i => stay x y z (A i)) n j)).key) ∧ ((isG n A ∧ inP x y z) ∧ m = kN (fun i => stay x y z (A i)) n ∨ ¬ (isG n A ∧ inP x y z) ∧ m = 0)
set_option maxRecDepth 100000 in
set_option maxHeartbeats 3000000 in
theorem implSta_any {w : World} {g n c : Nat} {A : Nat → OpD} (x y z : Int) (hL : OpsL w g n A) (hn : n ≤ 1048576) :
    Calls Tryz.prog 24 #[.slice (some ⟨g, 0, none⟩) n c, pV x y z] w fun e w' => (∃ v, e = .returned v ∧ StaQ w' w.heap.size v n A x y z) ∧ Below w.heap.size w w' := by
  have hbs : ∀ w, (Instr.buildSlice 24 0 #[]).run Tryz.prog w = .ok (.slice (some ⟨w.heap.size, 0, none⟩) 0 0) (w.alloc (.cells #[] 31)) := fun _ => by kernel_rfl
  have hbs2 : ∀ w, (Instr.buildSlice 61 0 #[]).run Tryz.prog w = .ok (.slice (some ⟨w.heap.size, 0, none⟩) 0 0) (w.alloc (.cells #[] 70)) := fun _ => by kernel_rfl
  obtain ⟨i0, hi0, hz0, hz1, hz2⟩ := info_parts Tryz.info70
  obtain ⟨W1, hW1, A1, B1, -⟩ := boxed w 46 #[.int .i64 x, .int .i64 y, .int .i64 z]
  obtain ⟨q1, hq1⟩ : ∃ q, w.heap.size = q := ⟨_, rfl⟩
  rw [hq1] at A1
  obtain ⟨d0, d1, d2, -⟩ := A1.open3
  unfold pV
  go_enter Tryz.func24, Tryz.ntmps24
  go_wp2_with fail
  clear hW1 hq1 d0 d1 d2
  refine (pright_any x y z _).mono ?_
  rintro e w2 ⟨rfl, b2⟩
  replace A1 := A1.below b2
  replace B1 := B1.trans (b2.mono B1.size)
  clear b2
  by_cases hp : inP x y z
  rotate_left
  · rw [decide_eq_false hp]
    obtain ⟨W3, hW3, a3, B3, -⟩ := boxed w2 31 #[]
    have H0 : Hid (OpsG W3 w2.heap.size (.slice (some ⟨w2.heap.size, 0, none⟩) 0 0) 0 (fun _ => undef) (fun _ => undef) (fun j => opD (A (kI (fun i => stay x y z (A i)) n j)).key)) := opsG_new a3
    have hno : Hid (¬ (isG n A ∧ inP x y z)) := fun e => hp e.2
    clear hp a3
    go_wp2
    go_ret
    obtain ⟨g', c', e', H⟩ := H0.out.opsA
    exact ⟨⟨_, rfl, g', c', _, _, 0, e', H.lower B1.size, .inr ⟨hno.out, rfl⟩⟩, B1.trans (B3.mono B1.size)⟩
  rw [decide_eq_true hp]
  have HP : Hid (inP x y z) := hp
  clear hp
  obtain ⟨W3, hW3, a3, B3, -⟩ := boxed w2 70 #[]
  obtain ⟨p3', hp3⟩ : ∃ q, w2.heap.size = q := ⟨_, rfl⟩
  have o3 : Hid (Oprs W3 w2.heap.size (.slice (some ⟨p3', 0, none⟩) 0 0) 0 (fun j => (A (kI (fun i => stay x y z (A i)) 0 j)).key)) := hp3 ▸ oprs_new a3
  clear a3
  go_wp2_with fail
  clear hW3
  refine (groupOf_any (hL.below (B1.trans (B3.mono B1.size))) hn).mono ?_
  rintro e w4 ⟨⟨v6, rfl, hG⟩, b4⟩
  obtain ⟨g6, m, c6, rfl, hO, hm, hmn, hGm⟩ := grp_one hG
  have HGm : Hid (isG n A ∧ m = n ∨ ¬ isG n A ∧ m = 0) := hGm
  have o4 : Hid (Oprs w4 w2.heap.size (.slice (some ⟨p3', 0, none⟩) 0 0) 0 (fun j => (A (kI (fun i => stay x y z (A i)) 0 j)).key)) := o3.out.below b4
  have hne : Hid ((Value.slice (some ⟨p3', 0, none⟩) 0 0).ownBlock ≠ some g6) := by
    intro e
    simp only [Value.ownBlock, Option.some.injEq] at e
    have h1 := o3.out.lt
    have h2 := hO.lt
    omega
  have HO : Hid (Oprs w4 W3.heap.size (.slice (some ⟨g6, 0, none⟩) m c6) m (fun i => (A i).key)) := hO
  have B4 := B3.trans (b4.mono B3.size)
  have hm' : (m : Int) ≤ 192 := by omega
  have A4 := A1.below B4
  clear o3 b4 B3 hG hO hp3 hn hGm
  go_wp2
  go_loopw [5, 16] (fun v s wr => ∃ (i : Nat), i ≤ m ∧ s = .int .i64 (i : Int) ∧ Hid (Oprs wr w2.heap.size v (kN (fun i => stay x y z (A i)) i) (fun j => (A (kI (fun i => stay x y z (A i)) i j)).key)) ∧ Hid (v.ownBlock ≠ some g6) ∧ Hid (Oprs wr W3.heap.size (.slice (some ⟨g6, 0, none⟩) m c6) m (fun i => (A i).key)) ∧ At 46 wr q1 #[.int .i64 x, .int .i64 y, .int .i64 z] ∧ Below w2.heap.size w2 wr) (fun _ s _ => m - (intOf s).toNat)
  case atStart => exact ⟨0, Nat.zero_le _, rfl, o4, hne, HO, A4, B4⟩
  case round =>
    clear o4 hne HO A4 B4
    obtain ⟨i, hi, rfl, own, hne, HO, A2, B⟩ := hrel
    by_cases hlt : i < m
    · have hlt' : (i : Int) < (m : Int) := by omega
      obtain ⟨e0, e1, e2, e3, e4, e5, e6, e7, e8, e9, e10, e11⟩ := HO.out.open i hlt
      have hG : isG n A := by
        rcases HGm.out with h | h
        · exact h.1
        · omega
      have ok := hG.2.1 i (by omega)
      have HKR : Hid (isR (A i).key (kh (A i).key)) := key_R ok
      have HS : Hid (stay x y z (A i) = decide (actV (A i).key (kh (A i).key) (p3 x y z) 0 = x ∧ actV (A i).key (kh (A i).key) (p3 x y z) 1 = y ∧ actV (A i).key (kh (A i).key) (p3 x y z) 2 = z)) := by
        show stay x y z (A i) = _
        rw [key_act _ _ 0 (by decide), key_act _ _ 1 (by decide), key_act _ _ 2 (by decide)]
        rfl
      clear ok hG
      have hKK : ∃ K, (A i).key = K := ⟨_, rfl⟩
      obtain ⟨K, hK⟩ := hKK
      have HK : Hid ((A i).key = K) := hK
      rw [hK] at HKR HS
      simp only [hK] at e0 e1 e2 e3 e4 e5 e6 e7 e8 e9 e10 e11
      clear hK
      obtain ⟨W7, hW7, a7, b7, -⟩ := boxed wr 70 (kc K).toArray
      obtain ⟨p7, hp7⟩ : ∃ p, wr.heap.size = p := ⟨_, rfl⟩
      rw [hp7] at a7
      have own7 : Hid (Oprs W7 w2.heap.size u5 (kN (fun i => stay x y z (A i)) i) (fun j => (A (kI (fun i => stay x y z (A i)) i j)).key)) := own.out.below b7
      have HO7 : Hid (Oprs W7 W3.heap.size (.slice (some ⟨g6, 0, none⟩) m c6) m (fun i => (A i).key)) := HO.out.below b7
      replace A2 := A2.below b7
      replace B := B.trans (b7.mono B.size)
      have A7 : At 70 W7 p7 (opA K (kh K)) := a7
      clear own HO b7 a7
      unfold kc at hW7
      go_wp2_with fail
      clear e0 e1 e2 e3 e4 e5 e6 e7 e8 e9 e10 e11 hW7 hp7
      have CL := fun (wq : World) (q : Nat) (ha : At 70 wq q (opA K (kh K))) => deed1_any HKR.out HP.out ha
      unfold vA at CL
      generalize hs0 : actV K (kh K) (p3 x y z) 0 = s0 at CL HS
      generalize hs1 : actV K (kh K) (p3 x y z) 1 = s1 at CL HS
      generalize hs2 : actV K (kh K) (p3 x y z) 2 = s2 at CL HS
      clear hs0 hs1 hs2 HKR
      by_cases ce : s0 = x ∧ s1 = y ∧ s2 = z
      rotate_left
      · have hst : Hid (stay x y z (A i) = false) := HS.out.trans (decide_eq_false ce)
        have own2 : Hid (Oprs W7 w2.heap.size u5 (kN (fun i => stay x y z (A i)) (i + 1)) (fun j => (A (kI (fun i => stay x y z (A i)) (i + 1) j)).key)) := Oprs.same (K := fun i => (A i).key) (P := fun i => stay x y z (A i)) hst.out own7.out
        clear own7 HS hst HK
        by_cases c0 : s0 = x
        case neg =>
          have c0' : (s0 == x) = false := by simp [c0]
          clear ce c0
          obtain ⟨u0, hu0, bb⟩ : ∃ uu, W7.drew = uu ∧ Below W7.heap.size W7 uu := ⟨_, rfl, (Below.refl _ _).drew⟩
          replace A2 := A2.below bb
          replace B := B.trans (bb.mono B.size)
          have A1u := A2
          have bk0 : Kb W7 u0 := bb
          clear bb
          refine wp_region_held_drew (S := Kb u0) (by kernel_rfl) (by rw [hu0]; exact Below.refl _ _) (fun hHeld => ?_)
          rw [hu0] at hHeld ⊢
          clear hu0
          have bu : Kb u0 u0 := Below.refl _ _
          change wpAnyH _ _ _ _ _ 6 #[false, false, false, false, false, false] _ _
          refine wpAnyH_take (i := 0) (v := .agg (opA K (kh K))) rfl (by kernel_rfl) (by kernel_rfl) (by kernel_rfl) (fun _ _ _ h => h) (Or.inl ⟨by kernel_rfl, ?_⟩) hHeld ?_
          · intro w' hSw; obtain ⟨⟨z0, z1, z2, z3, z4, z5, z6, z7, z8⟩, z9, z10, z11⟩ := (A7.below (bk0.trans (Below.mono hSw bk0.size))).open12; go_simp; rfl
          try simp only [Act.put, List.setIfInBounds_toArray, List.set_cons_zero, List.set_cons_succ, List.getElem_toArray, List.getElem_cons_zero]
          refine wpAnyH_take (i := 2) (v := .agg #[.int .i64 x, .int .i64 y, .int .i64 z]) rfl (by kernel_rfl) (by kernel_rfl) (by kernel_rfl) (fun _ _ _ h => h) (Or.inl ⟨by kernel_rfl, ?_⟩) hHeld ?_
          · intro w' hSw; obtain ⟨z0, z1, z2, -⟩ := (A1u.below hSw).open3; go_simp
          try simp only [Act.put, List.setIfInBounds_toArray, List.set_cons_zero, List.set_cons_succ, List.getElem_toArray, List.getElem_cons_succ, List.getElem_cons_zero]
          refine wpAnyH_take (i := 4) (v := .agg #[.int .i64 x, .int .i64 y, .int .i64 z]) rfl (by kernel_rfl) (by kernel_rfl) (by kernel_rfl) (fun _ _ _ h => h) (Or.inl ⟨by kernel_rfl, ?_⟩) hHeld ?_
          · intro w' hSw; obtain ⟨z0, z1, z2, -⟩ := (A1u.below hSw).open3; go_simp
          try simp only [Act.put, List.setIfInBounds_toArray, List.set_cons_zero, List.set_cons_succ, List.getElem_toArray, List.getElem_cons_succ, List.getElem_cons_zero]
          refine wpAnyH_ready (rs := [1]) (by kernel_rfl) (by simp) ?_
          refine AllReadyH.cons rfl (fun KK hK' => ?_) AllReadyH.nil
          go_simp
          refine (deed_any K (kh K) _).mono ?_
          rintro e u1 ⟨rfl, AD, -, bb⟩
          unfold dV
          obtain ⟨qd, hqd⟩ : ∃ q, u0.heap.size = q := ⟨_, rfl⟩
          rw [hqd] at AD ⊢
          replace A2 := A2.below bb
          replace B := B.trans (bb.mono B.size)
          replace bu : Kb u0 u1 := bu.trans (bb.mono bu.size)
          clear bb hqd
          try go_wp2_with fail
          clear hHeld
          refine hK'.out _ _ (bu) (fun hHeld => ?_)
          clear hK' KK
          try simp only [List.setIfInBounds_toArray, List.set_cons_zero, List.set_cons_succ]
          refine wpAnyH_ready (rs := [3]) (by kernel_rfl) (by simp) ?_
          refine AllReadyH.cons rfl (fun KK hK' => ?_) AllReadyH.nil
          go_simp
          refine (CL _ qd AD).mono ?_
          rintro e u2 ⟨rfl, bb⟩
          replace A2 := A2.below bb
          replace B := B.trans (bb.mono B.size)
          replace bu : Kb u0 u2 := bu.trans (bb.mono bu.size)
          clear bb AD
          try go_wp2_with fail
          clear hHeld
          refine hK'.out _ _ (bu) (fun hHeld => ?_)
          clear hK' KK
          try simp only [List.setIfInBounds_toArray, List.set_cons_zero, List.set_cons_succ]
          refine wpAnyH_take (i := 5) (v := .bool false) rfl (by kernel_rfl) (by kernel_rfl) (by kernel_rfl) (fun _ _ _ h => h) (Or.inl ⟨by kernel_rfl, ?_⟩) hHeld ?_
          · intro w' hSw; go_simp
          try simp only [Act.put, List.setIfInBounds_toArray, List.set_cons_zero, List.set_cons_succ, List.getElem_toArray, List.getElem_cons_succ, List.getElem_cons_zero]
          refine wpAnyH_done (by kernel_rfl) ?_ _
          clear hHeld
          have bz := bk0.trans (Below.mono bu bk0.size)
          clear bu A1u bk0
          go_wp2
          exact ⟨⟨i + 1, by omega, by go_num, own2.out.below bz, hne, HO7.out.below bz, A2, B⟩, by simp [intOf]; omega⟩
        subst c0
        by_cases c1' : s1 = y
        case neg =>
          have c1'' : (s1 == y) = false := by simp [c1']
          clear ce c1'
          obtain ⟨u0, hu0, bb⟩ : ∃ uu, W7.drew = uu ∧ Below W7.heap.size W7 uu := ⟨_, rfl, (Below.refl _ _).drew⟩
          replace A2 := A2.below bb
          replace B := B.trans (bb.mono B.size)
          have A1u := A2
          have bk0 : Kb W7 u0 := bb
          clear bb
          refine wp_region_held_drew (S := Kb u0) (by kernel_rfl) (by rw [hu0]; exact Below.refl _ _) (fun hHeld => ?_)
          rw [hu0] at hHeld ⊢
          clear hu0
          have bu : Kb u0 u0 := Below.refl _ _
          change wpAnyH _ _ _ _ _ 6 #[false, false, false, false, false, false] _ _
          refine wpAnyH_take (i := 0) (v := .agg (opA K (kh K))) rfl (by kernel_rfl) (by kernel_rfl) (by kernel_rfl) (fun _ _ _ h => h) (Or.inl ⟨by kernel_rfl, ?_⟩) hHeld ?_
          · intro w' hSw; obtain ⟨⟨z0, z1, z2, z3, z4, z5, z6, z7, z8⟩, z9, z10, z11⟩ := (A7.below (bk0.trans (Below.mono hSw bk0.size))).open12; go_simp; rfl
          try simp only [Act.put, List.setIfInBounds_toArray, List.set_cons_zero, List.set_cons_succ, List.getElem_toArray, List.getElem_cons_zero]
          refine wpAnyH_take (i := 2) (v := .agg #[.int .i64 s0, .int .i64 y, .int .i64 z]) rfl (by kernel_rfl) (by kernel_rfl) (by kernel_rfl) (fun _ _ _ h => h) (Or.inl ⟨by kernel_rfl, ?_⟩) hHeld ?_
          · intro w' hSw; obtain ⟨z0, z1, z2, -⟩ := (A1u.below hSw).open3; go_simp
          try simp only [Act.put, List.setIfInBounds_toArray, List.set_cons_zero, List.set_cons_succ, List.getElem_toArray, List.getElem_cons_succ, List.getElem_cons_zero]
          refine wpAnyH_take (i := 4) (v := .agg #[.int .i64 s0, .int .i64 y, .int .i64 z]) rfl (by kernel_rfl) (by kernel_rfl) (by kernel_rfl) (fun _ _ _ h => h) (Or.inl ⟨by kernel_rfl, ?_⟩) hHeld ?_
          · intro w' hSw; obtain ⟨z0, z1, z2, -⟩ := (A1u.below hSw).open3; go_simp
          try simp only [Act.put, List.setIfInBounds_toArray, List.set_cons_zero, List.set_cons_succ, List.getElem_toArray, List.getElem_cons_succ, List.getElem_cons_zero]
          refine wpAnyH_ready (rs := [1]) (by kernel_rfl) (by simp) ?_
          refine AllReadyH.cons rfl (fun KK hK' => ?_) AllReadyH.nil
          go_simp
          refine (deed_any K (kh K) _).mono ?_
          rintro e u1 ⟨rfl, AD, -, bb⟩
          unfold dV
          obtain ⟨qd, hqd⟩ : ∃ q, u0.heap.size = q := ⟨_, rfl⟩
          rw [hqd] at AD ⊢
          replace A2 := A2.below bb
          replace B := B.trans (bb.mono B.size)
          replace bu : Kb u0 u1 := bu.trans (bb.mono bu.size)
          clear bb hqd
          try go_wp2_with fail
          clear hHeld
          refine hK'.out _ _ (bu) (fun hHeld => ?_)
          clear hK' KK
          try simp only [List.setIfInBounds_toArray, List.set_cons_zero, List.set_cons_succ]
          refine wpAnyH_ready (rs := [3]) (by kernel_rfl) (by simp) ?_
          refine AllReadyH.cons rfl (fun KK hK' => ?_) AllReadyH.nil
          go_simp
          refine (CL _ qd AD).mono ?_
          rintro e u2 ⟨rfl, bb⟩
          replace A2 := A2.below bb
          replace B := B.trans (bb.mono B.size)
          replace bu : Kb u0 u2 := bu.trans (bb.mono bu.size)
          clear bb AD
          try go_wp2_with fail
          clear hHeld
          refine hK'.out _ _ (bu) (fun hHeld => ?_)
          clear hK' KK
          try simp only [List.setIfInBounds_toArray, List.set_cons_zero, List.set_cons_succ]
          refine wpAnyH_take (i := 5) (v := .bool false) rfl (by kernel_rfl) (by kernel_rfl) (by kernel_rfl) (fun _ _ _ h => h) (Or.inl ⟨by kernel_rfl, ?_⟩) hHeld ?_
          · intro w' hSw; go_simp
          try simp only [Act.put, List.setIfInBounds_toArray, List.set_cons_zero, List.set_cons_succ, List.getElem_toArray, List.getElem_cons_succ, List.getElem_cons_zero]
          refine wpAnyH_done (by kernel_rfl) ?_ _
          clear hHeld
          have bz := bk0.trans (Below.mono bu bk0.size)
          clear bu A1u bk0
          go_wp2
          exact ⟨⟨i + 1, by omega, by go_num, own2.out.below bz, hne, HO7.out.below bz, A2, B⟩, by simp [intOf]; omega⟩
        subst c1'
        · have c2 : s2 ≠ z := fun e => ce ⟨rfl, rfl, e⟩
          have c2' : (s2 == z) = false := by simp [c2]
          clear ce c2
          obtain ⟨u0, hu0, bb⟩ : ∃ uu, W7.drew = uu ∧ Below W7.heap.size W7 uu := ⟨_, rfl, (Below.refl _ _).drew⟩
          replace A2 := A2.below bb
          replace B := B.trans (bb.mono B.size)
          have A1u := A2
          have bk0 : Kb W7 u0 := bb
          clear bb
          refine wp_region_held_drew (S := Kb u0) (by kernel_rfl) (by rw [hu0]; exact Below.refl _ _) (fun hHeld => ?_)
          rw [hu0] at hHeld ⊢
          clear hu0
          have bu : Kb u0 u0 := Below.refl _ _
          change wpAnyH _ _ _ _ _ 6 #[false, false, false, false, false, false] _ _
          refine wpAnyH_take (i := 0) (v := .agg (opA K (kh K))) rfl (by kernel_rfl) (by kernel_rfl) (by kernel_rfl) (fun _ _ _ h => h) (Or.inl ⟨by kernel_rfl, ?_⟩) hHeld ?_
          · intro w' hSw; obtain ⟨⟨z0, z1, z2, z3, z4, z5, z6, z7, z8⟩, z9, z10, z11⟩ := (A7.below (bk0.trans (Below.mono hSw bk0.size))).open12; go_simp; rfl
          try simp only [Act.put, List.setIfInBounds_toArray, List.set_cons_zero, List.set_cons_succ, List.getElem_toArray, List.getElem_cons_zero]
          refine wpAnyH_take (i := 2) (v := .agg #[.int .i64 s0, .int .i64 s1, .int .i64 z]) rfl (by kernel_rfl) (by kernel_rfl) (by kernel_rfl) (fun _ _ _ h => h) (Or.inl ⟨by kernel_rfl, ?_⟩) hHeld ?_
          · intro w' hSw; obtain ⟨z0, z1, z2, -⟩ := (A1u.below hSw).open3; go_simp
          try simp only [Act.put, List.setIfInBounds_toArray, List.set_cons_zero, List.set_cons_succ, List.getElem_toArray, List.getElem_cons_succ, List.getElem_cons_zero]
          refine wpAnyH_take (i := 4) (v := .agg #[.int .i64 s0, .int .i64 s1, .int .i64 z]) rfl (by kernel_rfl) (by kernel_rfl) (by kernel_rfl) (fun _ _ _ h => h) (Or.inl ⟨by kernel_rfl, ?_⟩) hHeld ?_
          · intro w' hSw; obtain ⟨z0, z1, z2, -⟩ := (A1u.below hSw).open3; go_simp
          try simp only [Act.put, List.setIfInBounds_toArray, List.set_cons_zero, List.set_cons_succ, List.getElem_toArray, List.getElem_cons_succ, List.getElem_cons_zero]
          refine wpAnyH_ready (rs := [1]) (by kernel_rfl) (by simp) ?_
          refine AllReadyH.cons rfl (fun KK hK' => ?_) AllReadyH.nil
          go_simp
          refine (deed_any K (kh K) _).mono ?_
          rintro e u1 ⟨rfl, AD, -, bb⟩
          unfold dV
          obtain ⟨qd, hqd⟩ : ∃ q, u0.heap.size = q := ⟨_, rfl⟩
          rw [hqd] at AD ⊢
          replace A2 := A2.below bb
          replace B := B.trans (bb.mono B.size)
          replace bu : Kb u0 u1 := bu.trans (bb.mono bu.size)
          clear bb hqd
          try go_wp2_with fail
          clear hHeld
          refine hK'.out _ _ (bu) (fun hHeld => ?_)
          clear hK' KK
          try simp only [List.setIfInBounds_toArray, List.set_cons_zero, List.set_cons_succ]
          refine wpAnyH_ready (rs := [3]) (by kernel_rfl) (by simp) ?_
          refine AllReadyH.cons rfl (fun KK hK' => ?_) AllReadyH.nil
          go_simp
          refine (CL _ qd AD).mono ?_
          rintro e u2 ⟨rfl, bb⟩
          replace A2 := A2.below bb
          replace B := B.trans (bb.mono B.size)
          replace bu : Kb u0 u2 := bu.trans (bb.mono bu.size)
          clear bb AD
          try go_wp2_with fail
          clear hHeld
          refine hK'.out _ _ (bu) (fun hHeld => ?_)
          clear hK' KK
          try simp only [List.setIfInBounds_toArray, List.set_cons_zero, List.set_cons_succ]
          refine wpAnyH_take (i := 5) (v := .bool false) rfl (by kernel_rfl) (by kernel_rfl) (by kernel_rfl) (fun _ _ _ h => h) (Or.inl ⟨by kernel_rfl, ?_⟩) hHeld ?_
          · intro w' hSw; go_simp
          try simp only [Act.put, List.setIfInBounds_toArray, List.set_cons_zero, List.set_cons_succ, List.getElem_toArray, List.getElem_cons_succ, List.getElem_cons_zero]
          refine wpAnyH_done (by kernel_rfl) ?_ _
          clear hHeld
          have bz := bk0.trans (Below.mono bu bk0.size)
          clear bu A1u bk0
          go_wp2
          exact ⟨⟨i + 1, by omega, by go_num, own2.out.below bz, hne, HO7.out.below bz, A2, B⟩, by simp [intOf]; omega⟩
      have hst : Hid (stay x y z (A i) = true) := HS.out.trans (decide_eq_true ce)
      obtain ⟨rfl, rfl, rfl⟩ := ce
      clear HS
      obtain ⟨u0, hu0, bb⟩ : ∃ uu, W7.drew = uu ∧ Below W7.heap.size W7 uu := ⟨_, rfl, (Below.refl _ _).drew⟩
      replace A2 := A2.below bb
      replace B := B.trans (bb.mono B.size)
      have A1u := A2
      have bk0 : Kb W7 u0 := bb
      clear bb
      refine wp_region_held_drew (S := Kb u0) (by kernel_rfl) (by rw [hu0]; exact Below.refl _ _) (fun hHeld => ?_)
      rw [hu0] at hHeld ⊢
      clear hu0
      have bu : Kb u0 u0 := Below.refl _ _
      change wpAnyH _ _ _ _ _ 6 #[false, false, false, false, false, false] _ _
      refine wpAnyH_take (i := 0) (v := .agg (opA K (kh K))) rfl (by kernel_rfl) (by kernel_rfl) (by kernel_rfl) (fun _ _ _ h => h) (Or.inl ⟨by kernel_rfl, ?_⟩) hHeld ?_
      · intro w' hSw; obtain ⟨⟨z0, z1, z2, z3, z4, z5, z6, z7, z8⟩, z9, z10, z11⟩ := (A7.below (bk0.trans (Below.mono hSw bk0.size))).open12; go_simp; rfl
      try simp only [Act.put, List.setIfInBounds_toArray, List.set_cons_zero, List.set_cons_succ, List.getElem_toArray, List.getElem_cons_zero]
      refine wpAnyH_take (i := 2) (v := .agg #[.int .i64 s0, .int .i64 s1, .int .i64 s2]) rfl (by kernel_rfl) (by kernel_rfl) (by kernel_rfl) (fun _ _ _ h => h) (Or.inl ⟨by kernel_rfl, ?_⟩) hHeld ?_
      · intro w' hSw; obtain ⟨z0, z1, z2, -⟩ := (A1u.below hSw).open3; go_simp
      try simp only [Act.put, List.setIfInBounds_toArray, List.set_cons_zero, List.set_cons_succ, List.getElem_toArray, List.getElem_cons_succ, List.getElem_cons_zero]
      refine wpAnyH_take (i := 4) (v := .agg #[.int .i64 s0, .int .i64 s1, .int .i64 s2]) rfl (by kernel_rfl) (by kernel_rfl) (by kernel_rfl) (fun _ _ _ h => h) (Or.inl ⟨by kernel_rfl, ?_⟩) hHeld ?_
      · intro w' hSw; obtain ⟨z0, z1, z2, -⟩ := (A1u.below hSw).open3; go_simp
      try simp only [Act.put, List.setIfInBounds_toArray, List.set_cons_zero, List.set_cons_succ, List.getElem_toArray, List.getElem_cons_succ, List.getElem_cons_zero]
      refine wpAnyH_ready (rs := [1]) (by kernel_rfl) (by simp) ?_
      refine AllReadyH.cons rfl (fun KK hK' => ?_) AllReadyH.nil
      go_simp
      refine (deed_any K (kh K) _).mono ?_
      rintro e u1 ⟨rfl, AD, -, bb⟩
      unfold dV
      obtain ⟨qd, hqd⟩ : ∃ q, u0.heap.size = q := ⟨_, rfl⟩
      rw [hqd] at AD ⊢
      replace A2 := A2.below bb
      replace B := B.trans (bb.mono B.size)
      replace bu : Kb u0 u1 := bu.trans (bb.mono bu.size)
      clear bb hqd
      try go_wp2_with fail
      clear hHeld
      refine hK'.out _ _ (bu) (fun hHeld => ?_)
      clear hK' KK
      try simp only [List.setIfInBounds_toArray, List.set_cons_zero, List.set_cons_succ]
      refine wpAnyH_ready (rs := [3]) (by kernel_rfl) (by simp) ?_
      refine AllReadyH.cons rfl (fun KK hK' => ?_) AllReadyH.nil
      go_simp
      refine (CL _ qd AD).mono ?_
      rintro e u2 ⟨rfl, bb⟩
      replace A2 := A2.below bb
      replace B := B.trans (bb.mono B.size)
      replace bu : Kb u0 u2 := bu.trans (bb.mono bu.size)
      clear bb AD
      try go_wp2_with fail
      clear hHeld
      refine hK'.out _ _ (bu) (fun hHeld => ?_)
      clear hK' KK
      try simp only [List.setIfInBounds_toArray, List.set_cons_zero, List.set_cons_succ]
      refine wpAnyH_take (i := 5) (v := .bool true) rfl (by kernel_rfl) (by kernel_rfl) (by kernel_rfl) (fun _ _ _ h => h) (Or.inl ⟨by kernel_rfl, ?_⟩) hHeld ?_
      · intro w' hSw; go_simp
      try simp only [Act.put, List.setIfInBounds_toArray, List.set_cons_zero, List.set_cons_succ, List.getElem_toArray, List.getElem_cons_succ, List.getElem_cons_zero]
      refine wpAnyH_done (by kernel_rfl) ?_ _
      clear hHeld
      have bz := bk0.trans (Below.mono bu bk0.size)
      clear bu A1u bk0
      obtain ⟨wz, hwz⟩ : ∃ wz, wz = u2 := ⟨_, rfl⟩
      subst hwz
      have own1 : Hid (Oprs wz w2.heap.size u5 (kN (fun i => stay s0 s1 s2 (A i)) i) (fun j => (A (kI (fun i => stay s0 s1 s2 (A i)) i j)).key)) := own7.out.below bz
      have HO1 : Hid (Oprs wz W3.heap.size (.slice (some ⟨g6, 0, none⟩) m c6) m (fun i => (A i).key)) := HO7.out.below bz
      obtain ⟨⟨z0, z1, z2, z3, z4, z5, z6, z7, z8⟩, z9, z10, z11⟩ := (A7.below bz).open12
      unfold kh at z9 z10 z11
      have hkn := kN_le (fun i => stay s0 s1 s2 (A i)) i
      obtain ⟨kk, hkk⟩ : ∃ m, kN (fun i => stay s0 s1 s2 (A i)) i = m := ⟨_, rfl⟩
      rw [hkk] at hkn
      clear own7 HO7 A7 bz CL
      obtain ⟨W4, hW4, a4, b4, -⟩ := boxed wz 70 (kc K).toArray
      obtain ⟨p4, hp4⟩ : ∃ p, wz.heap.size = p := ⟨_, rfl⟩
      rw [hp4] at a4
      have own4 : Hid (W4.ownsRow w2.heap.size 70 12 u5 kk (kCells (fun j => (A (kI (fun i => stay s0 s1 s2 (A i)) i j)).key) kk)) := hkk ▸ (own1.out.below b4).1
      have HO4 : Hid (Oprs W4 W3.heap.size (.slice (some ⟨g6, 0, none⟩) m c6) m (fun i => (A i).key)) := HO1.out.below b4
      have B4 := B.trans (b4.mono B.size)
      have hm1 : kk + 1 ≤ maxLen := by unfold maxLen; omega
      have hm2 : (kk + 1) * 96 ≤ 140737488355328 := by omega
      clear b4 own1 HO1 B
      unfold kc at hW4
      go_wp2_with (at_builtin; refine Hid.out (?_ : Hid _))
      refine (?_ : wpList _ _ _ _ _ _)
      refine wpList_append_own_at _ rfl _ _ _ rfl w2.heap.size 70 i0 _ 12 96 Tryz.underlying61 hi0 hz0 hz1 hz2 rfl (by omega) u5 kk (kCells (fun j => (A (kI (fun i => stay s0 s1 s2 (A i)) i j)).key) kk) rfl own4.out ⟨p4, 0, none⟩ 1 1 (kc K) rfl rfl (cell12_new W4 p4 K a4) (kc_one _) hm1 hm2 B4.size ?_
      intro v6 w6 hown5 hgrow5 hne5 hblk5
      have hne6 : Hid (v6.ownBlock ≠ some g6) := by
        rcases hblk5 with e | e
        · show v6.ownBlock ≠ _
          rw [e]; exact hne.out
        · show v6.ownBlock ≠ _
          rw [e]
          intro e2
          have h2 := HO4.out.lt
          simp only [Option.some.injEq] at e2
          omega
      have HO6 : Hid (Oprs w6 W3.heap.size (.slice (some ⟨g6, 0, none⟩) m c6) m (fun i => (A i).key)) := HO4.out.grown hgrow5 hne.out
      have B5 : Below w2.heap.size w2 w6 := B4.grown hgrow5 B4.size (fun x hx => ownBlock_ge own4.out hx)
      subst hkk
      have own6 : Hid (Oprs w6 w2.heap.size v6 (kN (fun i => stay s0 s1 s2 (A i)) (i + 1)) (fun j => (A (kI (fun i => stay s0 s1 s2 (A i)) (i + 1) j)).key)) := Oprs.more (K := fun i => (A i).key) (P := fun i => stay s0 s1 s2 (A i)) hst.out (HK.out ▸ hown5) (fun e => by have := (hne5.1 e).2; omega)
      have A5 := A1.below B5
      clear hown5 hgrow5 hne5 hblk5 own4 HO4 B4 A2 a4 hW4 hm1 hm2 hkn z0 z1 z2 z3 z4 z5 z6 z7 z8 z9 z10 z11
      go_wp2
      exact ⟨⟨i + 1, by omega, by go_num, own6, hne6, HO6, A5, B5⟩, by simp [intOf]; omega⟩
    · obtain rfl : i = m := by omega
      have hlt' : ¬ (i : Int) < (i : Int) := by omega
      obtain ⟨g', c', rfl⟩ := oprs_open own.out
      have hkn := kN_le (fun i => stay x y z (A i)) i
      go_wp2_with fail
      have lo8 : w.heap.size ≤ wr.heap.size := Nat.le_trans B1.size B.size
      refine (toldOps_any own.out (by omega)).mono ?_
      rintro e w8 ⟨⟨g8, c8, X, Y, rfl, H⟩, b8⟩
      replace B := B.trans (b8.mono B.size)
      have H' : Hid (OpsA w8 w.heap.size w8.heap.size g8 (kN (fun i => stay x y z (A i)) i) X Y (fun j => opD (A (kI (fun i => stay x y z (A i)) i j)).key)) := H.lower lo8
      clear own H b8 hne HO A2
      go_wp2
      go_ret
      refine ⟨⟨_, rfl, g8, c8, X, Y, _, rfl, ?_⟩, B1.trans (B.mono B1.size)⟩
      rcases HGm.out with ⟨h1, h2⟩ | ⟨h1, h2⟩
      · subst h2
        exact ⟨H'.out, .inl ⟨⟨h1, HP.out⟩, rfl⟩⟩
      · subst h2
        exact ⟨⟨H'.out.blk, fun i hi => absurd hi (Nat.not_lt_zero _), fun i hi => absurd hi (Nat.not_lt_zero _), H'.out.dj⟩, .inr ⟨fun e => h1 e.1, rfl⟩⟩
end Go.Proofs.YtpolnkjmojofoaaGreat
