/-
  Where an operator stands in a list, by the specification. Walked.
-/
import Derived.Test.YtmjeplhigjlopaaGa
namespace Go.Proofs.Ytmjeplhigjlopaa
open Go.RowKit

/-- Right operators compared. -/
theorem cmpR_any {w : World} {a b a' b' : Option Addr} {c1 c2 c3 c4 : Nat} {f h f' h' : Nat → Int} (s1 : Src w a 9 f) (s2 : Src w b 3 h) (s3 : Src w a' 9 f') (s4 : Src w b' 3 h') :
    Calls Try.prog 64 #[.agg #[.slice a 9 c1, .slice b 3 c2], .agg #[.slice a' 9 c3, .slice b' 3 c4]] w fun e w' => e = .returned (.int .i64 (lexC 12 (cat 9 f h) (cat 9 f' h'))) ∧ Below w.heap.size w w' := by
  rcases s1 with h0 | ⟨b1, o1, rfl, l1, i1⟩
  · omega
  rcases s2 with h0 | ⟨b2, o2, rfl, l2, i2⟩
  · omega
  rcases s3 with h0 | ⟨b3, o3, rfl, l3, i3⟩
  · omega
  rcases s4 with h0 | ⟨b4, o4, rfl, l4, i4⟩
  · omega
  exact specCompare_any c1 c2 c3 c4 i1 i2 i3 i4 l1 l2 l3 l4 (by omega) (by omega) (by omega) (by omega)
/-- Four cells hold this. -/
def Cells4 (p1 : Addr) (v1 : Value) (p2 : Addr) (v2 : Value) (q : Nat) (v3 v4 : Value) (w' : World) : Prop := w'.cell? p1 = some v1 ∧ w'.cell? p2 = some v2 ∧ w'.cell? ⟨q, 0, none⟩ = some v3 ∧ w'.cell? ⟨q, 1, none⟩ = some v4
theorem cells4_mk {t : TypeId} {w' : World} {p1 p2 : Addr} {v1 v2 v3 v4 : Value} {q : Nat} (h1 : w'.cell? p1 = some v1) (h2 : w'.cell? p2 = some v2) (h3 : At t w' q #[v3, v4]) : Cells4 p1 v1 p2 v2 q v3 v4 w' := ⟨h1, h2, h3.open2.1, h3.open2.2.1⟩
/-- The list rises strictly. -/
def Rises (n : Nat) (A : Nat → OpD) : Prop := ∀ i, i + 1 < n → lexC 12 (A i).key (A (i + 1)).key < 0
theorem Rises.lt {n : Nat} {A : Nat → OpD} (h : Rises n A) {i j : Nat} (hij : i < j) (hj : j < n) : lexC 12 (A i).key (A j).key < 0 := by
  obtain ⟨d, rfl⟩ : ∃ d, j = i + 1 + d := ⟨j - i - 1, by omega⟩
  induction d with
  | zero => exact h i (by omega)
  | succ d ih => exact lexC_trans (ih (by omega) (by omega)) (h (i + 1 + d) (by omega))
/-- What is told of the search: a place where it stands, or that it stands nowhere, if the list rises. -/
def AtOk (n : Nat) (A : Nat → OpD) (k : Nat → Int) (v : Int) : Prop :=
  (v = -1 ∧ (Rises n A → ∀ i, i < n → lexC 12 (A i).key k ≠ 0)) ∨ ∃ i : Nat, v = i ∧ i < n ∧ lexC 12 (A i).key k = 0
set_option maxRecDepth 100000 in
set_option maxHeartbeats 800000 in
theorem l4At_any {w : World} {g n c : Nat} {A : Nat → OpD} {a b : Option Addr} {c1 c2 : Nat} {f h : Nat → Int} (hL : OpsL w g n A) (hA : ∀ i, i < n → (A i).ok) (s1 : Src w a 9 f) (s2 : Src w b 3 h) (hn : n ≤ 1048576) :
    Calls Try.prog 38 #[.slice (some ⟨g, 0, none⟩) n c, .agg #[.slice a 9 c1, .slice b 3 c2]] w fun e w' => ∃ v : Int, e = .returned (.int .i64 v) ∧ AtOk n A (cat 9 f h) v ∧ Below w.heap.size w w' := by
  have hn' : (n : Int) ≤ 1048576 := by omega
  obtain ⟨W1, hW1, q1, B1, -⟩ := boxed w 37 #[.slice a 9 c1, .slice b 3 c2]
  have HA : Hid (∀ i, i < n → (A i).ok) := hA
  clear hA
  go_enter Try.func38, Try.ntmps38
  go_wp2
  clear hW1
  go_loopw [5, 6] (fun s t wr => ∃ (lo hi : Nat), lo ≤ hi ∧ hi ≤ n ∧ s = .int .i64 lo ∧ t = .int .i64 hi ∧ Hid (Rises n A → (∀ i, i < lo → lexC 12 (A i).key (cat 9 f h) < 0) ∧ ∀ i, hi ≤ i → i < n → 0 < lexC 12 (A i).key (cat 9 f h)) ∧ At 37 wr w.heap.size #[.slice a 9 c1, .slice b 3 c2] ∧ Below w.heap.size w wr) (fun s t _ => (intOf t).toNat - (intOf s).toNat)
  case atStart => exact ⟨0, n, Nat.zero_le _, Nat.le_refl _, rfl, rfl, fun _ => ⟨fun i hi => by omega, fun i h1 h2 => by omega⟩, q1, B1⟩
  case round =>
    clear q1 B1
    obtain ⟨lo, hi, hlh, hhi, rfl, rfl, hinv, q1, B⟩ := hrel
    by_cases hlt : lo < hi
    · have hlt' : (lo : Int) < (hi : Int) := by omega
      have hhi' : (hi : Int) ≤ (n : Int) := by omega
      obtain ⟨m, hm⟩ : ∃ m, (lo + hi) / 2 = m := ⟨_, rfl⟩
      have hm1 : ((lo : Int) + (hi : Int)).tdiv 2 = (m : Int) := by
        rw [Int.tdiv_eq_ediv_of_nonneg (by omega)]
        omega
      have hmb : lo ≤ m ∧ m < hi := by omega
      have hmn : (m : Int) < (n : Int) := by omega
      obtain ⟨x, c3, y, d3, e1, e2, t1, t2⟩ := (hL.below B).2 m (by omega)
      obtain ⟨k1, k2, k3⟩ := HA.out m (by omega)
      rw [k1] at e1 t1
      rw [k2] at e2 t2
      obtain ⟨d0, d1, -⟩ := q1.open2
      clear hm
      go_wp2_with fail
      obtain ⟨u0, hu0, Z⟩ : ∃ u0, wr.drew = u0 ∧ Below wr.heap.size wr u0 := ⟨_, rfl, (Below.refl _ _).drew⟩
      have HL := (hL.below B).below Z
      replace q1 := q1.below Z
      replace t1 := t1.below Z
      replace t2 := t2.below Z
      have s1' := (s1.below B).below Z
      have s2' := (s2.below B).below Z
      replace e1 := (Z.cell (p := ⟨g, m * 2, none⟩) (hL.below B).1).trans e1
      replace e2 := (Z.cell (p := ⟨g, m * 2 + 1, none⟩) (hL.below B).1).trans e2
      replace B := B.trans (Z.mono B.size)
      clear d0 d1 Z
      refine wp_region_held_drew (S := Cells4 ⟨g, m * 2, none⟩ (.slice x 9 c3) ⟨g, m * 2 + 1, none⟩ (.slice y 3 d3) w.heap.size (.slice a 9 c1) (.slice b 3 c2)) (by kernel_rfl) (by rw [hu0]; exact cells4_mk e1 e2 q1) (fun hHeld => ?_)
      rw [hu0] at hHeld ⊢
      clear hu0
      change wpAnyH _ _ _ _ _ 7 #[false, false, false, false, false, false, false] _ _
      refine wpAnyH_take (i := 0) (v := .slice (some ⟨g, 0, none⟩) n c) rfl (by kernel_rfl) (by kernel_rfl) (by kernel_rfl) (fun _ _ _ h => h) (Or.inl ⟨by kernel_rfl, ?_⟩) hHeld ?_
      · intro w' hSw; go_simp
      try simp only [Act.put, List.setIfInBounds_toArray, List.set_cons_zero]
      refine wpAnyH_take (i := 1) (v := .int .i64 (m : Int)) rfl (by kernel_rfl) (by kernel_rfl) (by kernel_rfl) (fun _ _ _ h => h) (Or.inl ⟨by kernel_rfl, ?_⟩) hHeld ?_
      · intro w' hSw; go_simp
      try simp only [Act.put, List.setIfInBounds_toArray, List.set_cons_zero, List.set_cons_succ]
      refine wpAnyH_take (i := 2) (v := .pointer (some ⟨g, m * 2, none⟩)) rfl (by kernel_rfl) (by kernel_rfl) (by kernel_rfl) (fun _ _ _ h => h) (Or.inl ⟨by kernel_rfl, ?_⟩) hHeld ?_
      · intro w' hSw; go_simp
      try simp only [Act.put, List.setIfInBounds_toArray, List.set_cons_zero, List.set_cons_succ]
      refine wpAnyH_take (i := 3) (v := .agg #[.slice x 9 c3, .slice y 3 d3]) rfl (by kernel_rfl) (by kernel_rfl) (by kernel_rfl) (fun _ _ _ h => h) (Or.inl ⟨by kernel_rfl, ?_⟩) hHeld ?_
      · intro w' hSw; obtain ⟨z0, z1, -, -⟩ := hSw; go_simp
      try simp only [Act.put, List.setIfInBounds_toArray, List.set_cons_zero, List.set_cons_succ]
      refine wpAnyH_take (i := 4) (v := .agg #[.slice a 9 c1, .slice b 3 c2]) rfl (by kernel_rfl) (by kernel_rfl) (by kernel_rfl) (fun _ _ _ h => h) (Or.inl ⟨by kernel_rfl, ?_⟩) hHeld ?_
      · intro w' hSw; obtain ⟨-, -, z0, z1⟩ := hSw; go_simp
      try simp only [Act.put, List.setIfInBounds_toArray, List.set_cons_zero, List.set_cons_succ]
      refine wpAnyH_ready (rs := [5]) (by kernel_rfl) (by simp) ?_
      refine AllReadyH.cons rfl (fun KK hK' => ?_) AllReadyH.nil
      go_simp
      refine (cmpR_any t1 t2 s1' s2').mono ?_
      rintro e u1 ⟨rfl, bb⟩
      replace e1 := (bb.cell (p := ⟨g, m * 2, none⟩) HL.1).trans e1
      replace e2 := (bb.cell (p := ⟨g, m * 2 + 1, none⟩) HL.1).trans e2
      replace q1 := q1.below bb
      replace B := B.trans (bb.mono B.size)
      clear bb
      try go_wp2_with fail
      clear hHeld
      refine hK'.out _ _ (cells4_mk e1 e2 q1) (fun hHeld => ?_)
      clear hK' KK
      try simp only [List.setIfInBounds_toArray, List.set_cons_zero, List.set_cons_succ]
      refine wpAnyH_ready (rs := [6]) (by kernel_rfl) (by simp) ?_
      refine AllReadyH.cons rfl (fun KK hK' => ?_) AllReadyH.nil
      go_simp
      clear hHeld
      refine hK'.out _ _ (cells4_mk e1 e2 q1) (fun hHeld => ?_)
      clear hK' KK
      try simp only [List.setIfInBounds_toArray, List.set_cons_zero, List.set_cons_succ]
      clear hHeld e1 e2 t1 t2 s1' s2' HL
      refine wpAnyH_done (by kernel_rfl) ?_ _
      have hkey : cat 9 (A m).f (A m).h = (A m).key := rfl
      rw [hkey]
      obtain ⟨D, hD⟩ : ∃ D, lexC 12 (A m).key (cat 9 f h) = D := ⟨_, rfl⟩
      rw [hD]
      have HD : Hid (lexC 12 (A m).key (cat 9 f h) = D) := hD
      have hr := lexC_range 12 (A m).key (cat 9 f h)
      rw [hD] at hr
      clear hD hkey
      rcases hr with rfl | rfl | rfl
      · go_wp2
        have hm2 : (m : Int) + 1 ≤ 1048577 := by omega
        refine ⟨⟨m + 1, hi, by omega, hhi, by go_num, rfl, ?_, q1, B⟩, by simp [intOf]; omega⟩
        intro hR
        refine ⟨fun i hi' => ?_, (hinv.out hR).2⟩
        by_cases e : i = m
        · rw [e, HD.out]; omega
        · exact lexC_trans (hR.lt (show i < m by omega) (by omega)) (by rw [HD.out]; omega)
      · go_wp2
        go_ret
        exact ⟨_, rfl, .inr ⟨m, rfl, by omega, HD.out⟩, B⟩
      · go_wp2
        refine ⟨⟨lo, m, by omega, by omega, rfl, rfl, ?_, q1, B⟩, by simp [intOf]; omega⟩
        intro hR
        refine ⟨(hinv.out hR).1, fun i h1 h2 => ?_⟩
        by_cases e : i = m
        · rw [e, HD.out]; omega
        · rw [lexC_pos]
          exact lexC_trans (lexC_pos.1 (by rw [HD.out]; omega)) (hR.lt (show m < i by omega) h2)
    · have hlt' : ¬ (lo : Int) < (hi : Int) := by omega
      obtain rfl : lo = hi := by omega
      go_wp2
      go_ret
      refine ⟨_, rfl, .inl ⟨rfl, fun hR i hi => ?_⟩, B⟩
      rcases Nat.lt_or_ge i lo with h1 | h1
      · have := (hinv.out hR).1 i h1
        omega
      · have := (hinv.out hR).2 i h1 hi
        omega
end Go.Proofs.Ytmjeplhigjlopaa
