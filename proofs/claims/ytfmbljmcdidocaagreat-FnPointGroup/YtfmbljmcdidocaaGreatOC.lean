/-
  Lists of rows of K numbers in order: what stays of one when neighbours that are alike go, and when two are the same. No function of the program.
-/
import Derived.Test.YtfmbljmcdidocaaGreatNB
import Derived.Test.YtfmbljmcdidocaaGreatMF
import Derived.Test.YtfmbljmcdidocaaGreatMK
import Derived.Test.YtfmbljmcdidocaaGreatMG
import Derived.Test.YtfmbljmcdidocaaGreatME
namespace Go.Proofs.YtfmbljmcdidocaaGreat
open Go.RowKit

/-- This one is not as the one ahead of it. -/
def dupK (K : Nat) (F : Nat → Nat → Int) (i : Nat) : Bool := decide (i = 0 ∨ ¬ lexC K (F i) (F (i - 1)) = 0)
theorem lexC_symm0 {K : Nat} {x y : Nat → Int} (h : lexC K x y = 0) : lexC K y x = 0 := lexC_zero.2 (fun l hl => (lexC_zero.1 h l hl).symm)
theorem lexC_left {K : Nat} {x y z : Nat → Int} (h : lexC K x y = 0) : lexC K x z = lexC K y z := lexC_eq (lexC_zero.1 h) (fun _ _ => rfl)
theorem lexC_right {K : Nat} {x y z : Nat → Int} (h : lexC K y z = 0) : lexC K x y = lexC K x z := lexC_eq (fun _ _ => rfl) (lexC_zero.1 h)
/-- What stays: it rises, its last is as the last one looked at, and it has all that was there. -/
structure Stay (K : Nat) (F : Nat → Nat → Int) (n : Nat) : Prop where
  up : ∀ t, t + 1 < kN (dupK K F) n → lexC K (F (kI (dupK K F) n t)) (F (kI (dupK K F) n (t + 1))) < 0
  last : 0 < n → 0 < kN (dupK K F) n ∧ lexC K (F (kI (dupK K F) n (kN (dupK K F) n - 1))) (F (n - 1)) = 0
  all : ∀ i, i < n → ∃ t, t < kN (dupK K F) n ∧ lexC K (F (kI (dupK K F) n t)) (F i) = 0
theorem stay_of {K : Nat} {F : Nat → Nat → Int} : ∀ {n : Nat}, (∀ i j, i < j → j < n → ¬ lexC K (F j) (F i) < 0) → Stay K F n
  | 0, _ => ⟨fun t ht => absurd ht (Nat.not_lt_zero _), fun h => absurd h (Nat.lt_irrefl _), fun i hi => absurd hi (Nat.not_lt_zero _)⟩
  | n + 1, hs => by
    have S := stay_of (n := n) (fun i j h1 h2 => hs i j h1 (by omega))
    cases hd : dupK K F n
    · have hN := kN_no hd
      have h1 : ¬ (n = 0 ∨ ¬ lexC K (F n) (F (n - 1)) = 0) := of_decide_eq_false hd
      have h0 : 0 < n := Nat.pos_of_ne_zero fun e => h1 (.inl e)
      have he : lexC K (F n) (F (n - 1)) = 0 := Decidable.byContradiction fun e => h1 (.inr e)
      obtain ⟨l1, l2⟩ := S.last h0
      have l3 : lexC K (F (kI (dupK K F) n (kN (dupK K F) n - 1))) (F n) = 0 := by rw [lexC_right he]; exact l2
      refine ⟨fun t ht => ?_, fun _ => ⟨by omega, ?_⟩, fun i hi => ?_⟩
      · rw [kI_no hd, kI_no hd]; exact S.up t (by omega)
      · rw [kI_no hd, hN, Nat.add_sub_cancel]; exact l3
      · by_cases e : i = n
        · subst e; exact ⟨kN (dupK K F) i - 1, by omega, by rw [kI_no hd]; exact l3⟩
        · obtain ⟨t, ht, h⟩ := S.all i (by omega)
          exact ⟨t, by omega, by rw [kI_no hd]; exact h⟩
    · have hN := kN_yes hd
      have hnew := kI_new hd
      have less : ∀ t, t + 1 = kN (dupK K F) n → lexC K (F (kI (dupK K F) n t)) (F n) < 0 := fun t ht => by
        have h0 : 0 < n := by
          have := kN_le (dupK K F) n
          omega
        obtain ⟨l1, l2⟩ := S.last h0
        rw [show kN (dupK K F) n - 1 = t by omega] at l2
        have h1 : n = 0 ∨ ¬ lexC K (F n) (F (n - 1)) = 0 := of_decide_eq_true hd
        have h2 : ¬ lexC K (F n) (F (n - 1)) = 0 := by rcases h1 with h1 | h1; omega; exact h1
        have h3 := hs (n - 1) n (by omega) (by omega)
        have h4 : lexC K (F (n - 1)) (F n) < 0 := by
          rcases lexC_range K (F (n - 1)) (F n) with e | e | e
          · omega
          · exact absurd (lexC_symm0 e) h2
          · exact absurd (lexC_pos.1 (by omega : 0 < lexC K (F (n - 1)) (F n))) h3
        rw [lexC_left l2]
        exact h4
      refine ⟨fun t ht => ?_, fun _ => ⟨by omega, ?_⟩, fun i hi => ?_⟩
      · by_cases e : t + 1 = kN (dupK K F) n
        · rw [e, hnew, kI_old hd (by omega)]; exact less t e
        · rw [kI_old hd (by omega), kI_old hd (by omega)]; exact S.up t (by omega)
      · rw [hN, Nat.add_sub_cancel, hnew, Nat.add_sub_cancel]; exact lexC_zero.2 (fun _ _ => rfl)
      · by_cases e : i = n
        · subst e; exact ⟨kN (dupK K F) i, by omega, by rw [hnew]; exact lexC_zero.2 (fun _ _ => rfl)⟩
        · obtain ⟨t, ht, h⟩ := S.all i (by omega)
          exact ⟨t, by omega, by rw [kI_old hd ht]; exact h⟩
theorem up_lt {K n : Nat} {G : Nat → Nat → Int} (hG : ∀ t, t + 1 < n → lexC K (G t) (G (t + 1)) < 0) {i j : Nat} (hij : i < j) (hj : j < n) : lexC K (G i) (G j) < 0 := by
  obtain ⟨d, rfl⟩ : ∃ d, j = i + 1 + d := ⟨j - i - 1, by omega⟩
  induction d with
  | zero => exact hG i (by omega)
  | succ d ih => exact lexC_trans (ih (by omega) (by omega)) (hG (i + 1 + d) (by omega))
/-- Two lists that rise and hold the same are the same. -/
theorem rising_same {K : Nat} {G H : Nat → Nat → Int} : ∀ {n m : Nat}, (∀ t, t + 1 < n → lexC K (G t) (G (t + 1)) < 0) → (∀ t, t + 1 < m → lexC K (H t) (H (t + 1)) < 0) → (∀ i, i < n → ∃ j, j < m ∧ lexC K (G i) (H j) = 0) → (∀ j, j < m → ∃ i, i < n ∧ lexC K (G i) (H j) = 0) → n = m ∧ ∀ i, i < n → lexC K (G i) (H i) = 0
  | 0, m, _, _, _, h4 => ⟨by
      rcases Nat.eq_zero_or_pos m with e | e
      · exact e.symm
      · obtain ⟨i, hi, -⟩ := h4 0 e
        omega, fun i hi => absurd hi (Nat.not_lt_zero _)⟩
  | n + 1, 0, _, _, h3, _ => by obtain ⟨j, hj, -⟩ := h3 n (by omega); omega
  | n + 1, m + 1, h1, h2, h3, h4 => by
    have top : lexC K (G n) (H m) = 0 := by
      obtain ⟨j, hj, ej⟩ := h3 n (by omega)
      obtain ⟨i, hi, ei⟩ := h4 m (by omega)
      by_cases e : j = m
      · rw [← e]; exact ej
      · have a1 := up_lt h2 (show j < m by omega) (by omega)
        by_cases e' : i = n
        · rw [← e']; exact ei
        · have a2 := up_lt h1 (show i < n by omega) (by omega)
          rw [lexC_left ei] at a2
          rw [lexC_left (lexC_symm0 ej)] at a1
          exact absurd (lexC_trans a1 a2) (lexC_irrefl K _)
    obtain ⟨e1, e2⟩ := rising_same (n := n) (m := m) (fun t ht => h1 t (by omega)) (fun t ht => h2 t (by omega)) (fun i hi => by
      obtain ⟨j, hj, ej⟩ := h3 i (by omega)
      refine ⟨j, ?_, ej⟩
      by_cases e : j = m
      · exfalso
        subst e
        have a := up_lt h1 (show i < n by omega) (by omega)
        rw [lexC_left ej, lexC_left (lexC_symm0 top)] at a
        exact lexC_irrefl K _ a
      · omega) (fun j hj => by
      obtain ⟨i, hi, ei⟩ := h4 j (by omega)
      refine ⟨i, ?_, ei⟩
      by_cases e : i = n
      · exfalso
        subst e
        have a := up_lt h2 (show j < m by omega) (by omega)
        rw [lexC_left (lexC_symm0 ei), lexC_left top] at a
        exact lexC_irrefl K _ a
      · omega)
    refine ⟨by omega, fun i hi => ?_⟩
    by_cases e : i = n
    · subst e; rw [e1]; rw [e1] at top; exact top
    · exact e2 i (by omega)
end Go.Proofs.YtfmbljmcdidocaaGreat
/-
  The order of an operator by the program, walked.
-/
namespace Go.Proofs.YtfmbljmcdidocaaGreat
open Go.RowKit

/-- The order that is told, from the n-th power on. -/
def ordF (f h : Nat → Int) : Nat → Nat → (Nat → Int) → (Nat → Int) → Int
  | 0, _, _, _ => 0
  | k + 1, n, M, T => if sameB M T oneF (fun _ => 0) = true then n else if isR (mulM f M) (behV f h T) then ordF f h k (n + 1) (mulM f M) (behV f h T) else 0
theorem ordF_step {f h M T : Nat → Int} {n : Nat} (hn : n ≤ 24) : ordF f h (25 - n) n M T = if sameB M T oneF (fun _ => 0) = true then (n : Int) else if isR (mulM f M) (behV f h T) then ordF f h (25 - (n + 1)) (n + 1) (mulM f M) (behV f h T) else 0 := by
  rw [show 25 - n = (25 - (n + 1)) + 1 by omega]; rfl
def ordOf (n : Nat) (f : Nat → Int) (k : Nat) (h : Nat → Int) : Int := if isOp n f k h then ordF f h 24 1 f h else 0
set_option maxRecDepth 100000 in
set_option maxHeartbeats 1600000 in
theorem order_any {F H : Nat → Int} (r1 : isR F H) (w : World) :
    Calls Tryz.prog 56 #[.agg (opA F H)] w fun e w' => e = .returned (.int .i64 (ordF F H 24 1 F H)) ∧ Below w.heap.size w w' := by
  obtain ⟨R, hR⟩ : ∃ R, ordF F H 24 1 F H = R := ⟨_, rfl⟩
  rw [hR]
  have hR0 : Hid ((if isR F H then ordF F H (25 - 1) 1 F H else 0) = R) := by rw [if_pos r1]; exact hR
  clear hR
  obtain ⟨W1, hW1, a1, B1, -⟩ := boxed w 62 (opA F H)
  obtain ⟨W2, hW2, a2, b2, -⟩ := boxed W1 62 (opA F H)
  have s1 := a1.lt
  have s2 := a2.lt
  have D5 := a1.below b2
  have B2 := B1.trans (b2.mono B1.size)
  obtain ⟨⟨u0, u1, u2, u3, u4, u5, u6, u7, u8⟩, u9, u10, u11⟩ := a1.open12
  unfold opA at hW1 hW2 ⊢
  go_enter Tryz.func56, Tryz.ntmps56
  go_wp2
  clear hW1 hW2 u0 u1 u2 u3 u4 u5 u6 u7 u8 u9 u10 u11 a1 B1 b2
  go_loopw [4] (fun s wr => ∃ (m : Nat) (M T : Nat → Int), (1 ≤ m ∧ m ≤ 25) ∧ s = .int .i64 m ∧ Hid ((if isR M T then ordF F H (25 - m) m M T else 0) = R) ∧ At 62 wr w.heap.size (opA F H) ∧ At 62 wr W1.heap.size (opA M T) ∧ Below w.heap.size w wr) (fun s _ => 25 - (intOf s).toNat)
  case atStart => exact ⟨1, F, H, by omega, rfl, hR0, D5, a2, B2⟩
  case round =>
    clear hR0 D5 a2 B2
    obtain ⟨m, M, T, hm, rfl, hR, a5, a6, bW⟩ := hrel
    by_cases hlt : m ≤ 24
    · have hlt' : (m : Int) ≤ 24 := by omega
      obtain ⟨⟨u0, u1, u2, u3, u4, u5, u6, u7, u8⟩, u9, u10, u11⟩ := a6.open12
      have hri : ∀ w, Calls Tryz.prog 80 #[.agg (opA M T)] w fun e w' => e = .returned (.bool (decide (isR M T))) ∧ Below w.heap.size w w' := right_any M T
      unfold opA at hri
      go_wp2_with fail
      refine (hri _).mono ?_
      rintro e w6 ⟨rfl, b7⟩
      replace a5 := a5.below b7
      replace a6 := a6.below b7
      replace bW := bW.trans (b7.mono bW.size)
      clear u0 u1 u2 u3 u4 u5 u6 u7 u8 u9 u10 u11 hri b7
      by_cases hRi : isR M T
      · rw [decide_eq_true hRi]
        have hst := hR.out
        rw [if_pos hRi, ordF_step hlt] at hst
        go_wp2_with fail
        obtain ⟨u0, hu0, A5, A6, B0⟩ : ∃ u0, w6.drew = u0 ∧ At 62 u0 w.heap.size (opA F H) ∧ At 62 u0 W1.heap.size (opA M T) ∧ Below w.heap.size w u0 := ⟨_, rfl, a5, a6, bW.drew⟩
        refine wp_region_held_drew (S := S12 W1.heap.size M T) (by kernel_rfl) (by rw [hu0]; exact s12_mk A6) (fun hHeld => ?_)
        rw [hu0] at hHeld ⊢
        clear hu0 a5 a6 bW
        change wpAnyH _ _ _ _ _ 3 #[false, false, false] _ _
        refine wpAnyH_take (i := 0) (v := .agg (opL M T).toArray) rfl (by kernel_rfl) (by kernel_rfl) (by kernel_rfl) (fun _ _ _ h => h) (yieldsIf_load_mid (by rfl) _ _ rfl _ _ rfl (opL M T) _ (fun w' h => h) Tryz.underlying62 rfl (size57 M T)) hHeld ?_
        try simp only [Act.put, List.setIfInBounds_toArray, List.set_cons_zero]
        refine wpAnyH_ready (rs := [1]) (by kernel_rfl) (by simp) ?_
        refine AllReadyH.cons rfl (fun K hK => ?_) AllReadyH.nil
        go_simp
        refine (nothing_any _).mono ?_
        rintro e u1 ⟨rfl, b'⟩
        replace A5 := A5.below b'
        replace A6 := A6.below b'
        replace B0 := B0.trans (b'.mono B0.size)
        clear b'
        unfold opA
        try go_wp2_with fail
        clear hHeld
        refine hK.out _ _ (s12_mk A6) (fun hHeld => ?_)
        clear hK K
        try simp only [List.setIfInBounds_toArray, List.set_cons_zero, List.set_cons_succ]
        refine wpAnyH_ready (rs := [2]) (by kernel_rfl) (by simp) ?_
        refine AllReadyH.cons rfl (fun K hK => ?_) AllReadyH.nil
        have he := eq57 M T oneF (fun _ => 0)
        obtain ⟨bb, hbb⟩ : ∃ bb, sameB M T oneF (fun _ => 0) = bb := ⟨_, rfl⟩
        rw [hbb] at he
        rw [hbb] at hst
        unfold opA at he
        go_simp
        clear hHeld he
        refine hK.out _ _ (s12_mk A6) (fun hHeld => ?_)
        clear hK K
        try simp only [List.setIfInBounds_toArray, List.set_cons_zero, List.set_cons_succ]
        refine wpAnyH_done (by kernel_rfl) ?_ _
        clear hHeld
        clear hbb
        by_cases hsame : bb = true
        · subst hsame
          rw [if_pos rfl] at hst
          subst hst
          go_wp2
          go_ret
          exact ⟨rfl, B0⟩
        · rw [if_neg hsame] at hst
          obtain rfl : bb = false := by simpa using hsame
          have HS : Hid ((if isR (mulM F M) (behV F H T) then ordF F H (25 - (m + 1)) (m + 1) (mulM F M) (behV F H T) else 0) = R) := hst
          clear hst hR hsame
          have hbeh : ∀ w, Calls Tryz.prog 81 #[.agg (opA F H), .agg (opA M T)] w fun e w' => e = .returned (.agg (opA (mulM F M) (behV F H T))) ∧ Below w.heap.size w w' := behind_any r1 hRi
          unfold opA at hbeh
          obtain ⟨⟨u0', u1', u2', u3', u4', u5', u6', u7', u8'⟩, u9', u10', u11'⟩ := A5.open12
          obtain ⟨⟨v0, v1, v2, v3, v4, v5, v6, v7, v8⟩, v9, v10, v11⟩ := A6.open12
          go_wp2_with fail
          refine (hbeh _).mono ?_
          rintro e u2 ⟨rfl, b'⟩
          replace A5 := A5.below b'
          replace A6 := A6.below b'
          replace B0 := B0.trans (b'.mono B0.size)
          clear b' hbeh u0' u1' u2' u3' u4' u5' u6' u7' u8' u9' u10' u11' v0 v1 v2 v3 v4 v5 v6 v7 v8 v9 v10 v11
          obtain ⟨⟨v0, v1, v2, v3, v4, v5, v6, v7, v8⟩, v9, v10, v11⟩ := A6.open12
          obtain ⟨t0, t1, t2, t3, t4, t5, t6, t7, t8, t9, t10, t11⟩ := A6.fro12
          obtain ⟨Y2, hY⟩ : ∃ Y, put12 u2 W1.heap.size (mulM F M) (behV F H T) = Y := ⟨_, rfl⟩
          have D5 : At 62 Y2 w.heap.size (opA F H) := hY ▸ put12_other A5 (by omega) _ _
          have D6 : At 62 Y2 W1.heap.size (opA (mulM F M) (behV F H T)) := hY ▸ put12_at A6 _ _
          have DB : Below w.heap.size w Y2 := hY ▸ put12_below B0 (by omega) _ _
          unfold put12 at hY
          clear A5 A6 B0
          go_wp2
          exact ⟨⟨m + 1, _, _, by omega, by go_num, HS, D5, D6, DB⟩, by simp [intOf]; omega⟩
      · rw [decide_eq_false hRi]
        have hst := hR.out
        rw [if_neg hRi] at hst
        subst hst
        go_wp2
        go_ret
        exact ⟨rfl, bW⟩
    · have hlt' : ¬ (m : Int) ≤ 24 := by omega
      obtain rfl : m = 25 := by omega
      have hst : (0 : Int) = R := by rw [← hR.out]; split <;> rfl
      subst hst
      go_wp2
      go_ret
      exact ⟨rfl, bW⟩
end Go.Proofs.YtfmbljmcdidocaaGreat
