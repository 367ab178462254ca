/-
  What FnShape asks of corners, facets that show and reasons. Mathematics alone: no function of the program.
-/
import Derived.Test.YtealbihplfpgeaaKu
import Derived.Test.YtealbihplfpgeaaFq2
namespace Go.Proofs.Ytealbihplfpgeaa
open Go.RowKit Go.Shelf Go.Sort Go.Lib

theorem cntP_pair {p : Nat → Bool} {a b : Nat} (hab : a ≠ b) (hp : ∀ x, p x = true ↔ x = a ∨ x = b) : ∀ k, cntP p k = (if a < k then 1 else 0) + (if b < k then 1 else 0)
  | 0 => by simp [cntP]
  | k + 1 => by
    have ih := cntP_pair hab hp k
    simp only [cntP]
    by_cases e : p k = true
    · rw [if_pos e, ih]
      rcases (hp k).1 e with rfl | rfl
      · rw [if_neg (Nat.lt_irrefl _), if_pos (Nat.lt_succ_self _)]
        by_cases h : b < k
        · rw [if_pos h, if_pos (by omega)]
        · rw [if_neg h, if_neg (by omega)]
      · rw [if_neg (Nat.lt_irrefl k), if_pos (Nat.lt_succ_self k)]
        by_cases h : a < k
        · rw [if_pos h, if_pos (by omega)]
        · rw [if_neg h, if_neg (by omega)]
    · rw [if_neg e, ih]
      have na : a ≠ k := fun h => e ((hp k).2 (.inl h.symm))
      have nb : b ≠ k := fun h => e ((hp k).2 (.inr h.symm))
      by_cases h : a < k <;> by_cases h' : b < k
      · rw [if_pos h, if_pos h', if_pos (by omega), if_pos (by omega)]
      · rw [if_pos h, if_neg h', if_pos (by omega), if_neg (by omega)]
      · rw [if_neg h, if_pos h', if_neg (by omega), if_pos (by omega)]
      · rw [if_neg h, if_neg h', if_neg (by omega), if_neg (by omega)]
section Shape
variable {n : Nat} {f : Nat → Int}
/-- Facet k shows, and corner (x, y, d) lies on it. -/
noncomputable def onS (f : Nat → Int) (n : Nat) (x y d : Int) (k : Nat) : Bool := @decide (Sh f n k ∧ outT (f (k * 3)) (f (k * 3 + 1)) (f (k * 3 + 2)) x y d = 0) (Classical.propDecidable _)
theorem onS_iff {x y d : Int} {k : Nat} : onS f n x y d k = true ↔ Sh f n k ∧ outT (f (k * 3)) (f (k * 3 + 1)) (f (k * 3 + 2)) x y d = 0 := by
  unfold onS
  exact @decide_eq_true_iff _ (Classical.propDecidable _)
theorem CorT.at (S : SOk n f) {M : Nat} {F : Nat → Int} (h : CorT f n M F) {i : Nat} (hi : i < M) : ∃ p a b, p ∈ allP f n n ∧ F (i * 3) = gX f p ∧ F (i * 3 + 1) = gY f p ∧ F (i * 3 + 2) = gD f p ∧ a < n ∧ b < n ∧ a ≠ b ∧ ∀ k, k < n → ((Sh f n k ∧ ou f k p = 0) ↔ (k = a ∨ k = b)) := by
  rcases h with ⟨-, rfl, r, hLr, rfl⟩ | ⟨h, -⟩
  case inr => exact absurd S h
  have q0 := sI_in (f := f) (n := n) (shl_pos S)
  have hl : i < (rot f n (shl f n).length r).length := by rw [rot_len]; exact hi
  obtain ⟨e1, e2, e3⟩ := tris_get f _ i hl
  have hm : (rot f n (shl f n).length r)[i] ∈ sqP f n (sI f n 0) (shl f n).length := by
    have := List.getElem_mem hl
    unfold rot at this ⊢
    rcases List.mem_append.1 this with z | z
    · exact List.mem_of_mem_drop z
    · exact List.mem_of_mem_take z
  obtain ⟨t, -, ht⟩ := List.mem_map.1 hm
  have ht : cq f n (sI f n 0) t = (rot f n (shl f n).length r)[i] := ht
  rw [← ht] at e1 e2 e3
  have a1 := S.sqIs q0.1 q0.2 t
  have a2 := S.sqIs q0.1 q0.2 (t + 1)
  have l := S.cqL q0.1 q0.2 t
  have nx : 0 < Lf f (sq f n (sI f n 0) t) (sq f n (sI f n 0) (t + 1)) := (S.nxtIs a1.1).2.1
  have hp := S.cqIn q0.1 q0.2 t
  have ne : sq f n (sI f n 0) t ≠ sq f n (sI f n 0) (t + 1) := fun e => by rw [← e, L_self] at nx; omega
  refine ⟨cq f n (sI f n 0) t, _, _, hp, e1, e2, e3, a1.1, a2.1, ne, fun k hk => ⟨fun ⟨s, o⟩ => ?_, fun c => ?_⟩⟩
  · rcases S.two hp a1.1 a2.1 hk a1.2 a2.2 s l.1 l.2 o with c | c | c
    · exact absurd c ne
    · exact .inr c.symm
    · exact .inl c.symm
  · rcases c with rfl | rfl
    · exact ⟨a1.2, l.1⟩
    · exact ⟨a2.2, l.2⟩
theorem CorT.two (S : SOk n f) {M : Nat} {F : Nat → Int} (h : CorT f n M F) {i : Nat} (hi : i < M) : cntP (onS f n (F (i * 3)) (F (i * 3 + 1)) (F (i * 3 + 2))) n = 2 ∧ (0 < F (i * 3 + 2)) ∧ ∀ k, k < n → outT (f (k * 3)) (f (k * 3 + 1)) (f (k * 3 + 2)) (F (i * 3)) (F (i * 3 + 1)) (F (i * 3 + 2)) ≤ 0 := by
  obtain ⟨p, a, b, hp, e1, e2, e3, ha, hb, ne, hk⟩ := h.at S hi
  rw [e1, e2, e3]
  refine ⟨?_, (corner_red hp).2, fun k hk => ou_le hp hk⟩
  have := cntP_pair (p := fun x => decide (x = a ∨ x = b)) ne (fun x => by simp) n
  rw [if_pos ha, if_pos hb] at this
  refine Eq.trans ?_ this
  have cong : ∀ k, k ≤ n → cntP (onS f n (gX f p) (gY f p) (gD f p)) k = cntP (fun x => decide (x = a ∨ x = b)) k := by
    intro k
    induction k with
    | zero => intro _; rfl
    | succ k ih =>
      intro hkn
      simp only [cntP]
      rw [ih (by omega)]
      have : onS f n (gX f p) (gY f p) (gD f p) k = decide (k = a ∨ k = b) := by
        rw [Bool.eq_iff_iff, onS_iff, decide_eq_true_eq]
        exact hk k (by omega)
      rw [this]
  exact cong n (Nat.le_refl _)
theorem CorT.bound (S : SOk n f) {M : Nat} {F : Nat → Int} (h : CorT f n M F) {i : Nat} (hi : i < M) : (-100000 ≤ F (i * 3) ∧ F (i * 3) ≤ 100000) ∧ (-100000 ≤ F (i * 3 + 1) ∧ F (i * 3 + 1) ≤ 100000) ∧ (-5000 ≤ F (i * 3 + 2) ∧ F (i * 3 + 2) ≤ 5000) := by
  obtain ⟨p, a, b, hp, e1, e2, e3, -⟩ := h.at S hi
  rw [e1, e2, e3]
  have q := mem_allP.1 hp
  exact S.c_in q.1 q.2.1 q.2.2.1
theorem CorT.num (S : SOk n f) {M : Nat} {F : Nat → Int} (h : CorT f n M F) : M = (shl f n).length := by
  rcases h with ⟨-, rfl, -⟩ | ⟨h, -⟩
  · rfl
  · exact absurd S h
theorem SOk.three (S : SOk n f) : 3 ≤ (shl f n).length := by
  obtain ⟨a, ha, sh⟩ := shape_some S
  have h0 := S.sqIs ha sh 0
  have h1 := S.sqIs ha sh 1
  have h2 := S.sqIs ha sh 2
  have l0 : 0 < Lf f (sq f n a 0) (sq f n a 1) := (S.nxtIs h0.1).2.1
  have l1 : 0 < Lf f (sq f n a 1) (sq f n a 2) := (S.nxtIs h1.1).2.1
  have s := L_swap f (sq f n a 0) (sq f n a 1)
  have n1 : sq f n a 0 ≠ sq f n a 1 := fun e => by rw [← e, L_self] at l0; omega
  have n2 : sq f n a 1 ≠ sq f n a 2 := fun e => by rw [← e, L_self] at l1; omega
  have n3 : sq f n a 0 ≠ sq f n a 2 := fun e => by rw [← e] at l1; omega
  have := nodup_le [sq f n a 0, sq f n a 1, sq f n a 2] (shl f n) (by
    rw [List.nodup_cons, List.nodup_cons]
    refine ⟨?_, ?_, List.pairwise_singleton _ _⟩
    · intro hm
      rcases List.mem_cons.1 hm with h | h
      · exact n1 h
      · exact n3 (List.mem_singleton.1 h)
    · intro hm
      exact n2 (List.mem_singleton.1 hm)) (fun x hx => by
    rcases List.mem_cons.1 hx with rfl | hx
    · exact mem_shl.2 h0
    · rcases List.mem_cons.1 hx with rfl | hx
      · exact mem_shl.2 h1
      · rw [List.mem_singleton.1 hx]
        exact mem_shl.2 h2)
  exact this
theorem sI_inj {i j : Nat} (hj : j < (shl f n).length) (hij : i < j) : sI f n i ≠ sI f n j := by
  have hi : i < (shl f n).length := by omega
  have e1 : sI f n i = (shl f n)[i] := by simp [sI, hi]
  have e2 : sI f n j = (shl f n)[j] := by simp [sI, hj]
  rw [e1, e2]
  exact List.pairwise_iff_getElem.1 (List.nodup_iff_pairwise_ne.1 shl_nodup) i j hi hj hij
theorem SOk.kept_no (S : SOk n f) {i j k : Nat} (hi : i < n) (hj : j < n) (hk : k < n) (nj : j ≠ i) (nk : k ≠ i) (h1 : 0 < Lf f j k) (h2 : 0 ≤ Lf f i k) (h3 : 0 ≤ Lf f j i) (h4 : Lf f i k * f (j * 3 + 2) + Lf f j i * f (k * 3 + 2) ≤ Lf f j k * f (i * 3 + 2)) : ¬ Sh f n i := by
  intro sh
  have s1 := L_swap f i j
  have s2 := L_swap f j k
  have lk : 0 < Lf f i k := by
    rcases Int.lt_or_eq_of_le h2 with c | c
    · exact c
    · exfalso
      rcases S.line hi hk c.symm with e | ⟨e1, e2⟩
      · exact nk e
      · have := opp_L e1 e2 j
        omega
  have lj : Lf f i j < 0 := by
    rcases Int.lt_or_eq_of_le h3 with c | c
    · omega
    · exfalso
      rcases S.line hi hj (by omega) with e | ⟨e1, e2⟩
      · exact nj e
      · have := opp_R e1 e2 k
        omega
  have d := sh k j hk hj lk lj
  unfold Dt at d
  rw [s2] at h4
  rw [s1] at d
  have m1 : f (k * 3 + 2) * -Lf f j i = -(Lf f j i * f (k * 3 + 2)) := by rw [Int.mul_neg, Int.mul_comm]
  have m2 : f (j * 3 + 2) * Lf f i k = Lf f i k * f (j * 3 + 2) := Int.mul_comm _ _
  have m3 : f (i * 3 + 2) * Lf f k j = Lf f k j * f (i * 3 + 2) := Int.mul_comm _ _
  have m4 : -Lf f k j * f (i * 3 + 2) = -(Lf f k j * f (i * 3 + 2)) := Int.neg_mul _ _
  omega
theorem cov_no (S : SOk n f) {i j k : Nat} (h : CovP f n i j k) : ¬ Sh f n i := by
  obtain ⟨-, a1, a2, a3, b1, b2, b3, hc⟩ := h
  have hi : i < n := by have := a1.2.1; omega
  have hj : j < n := by have := a2.2.1; omega
  have hk : k < n := by have := a3.2.1; omega
  have hc : CvN f i j k := by simpa using hc
  have x1 : cr (f (j * 3)) (f (j * 3 + 1)) (f (k * 3)) (f (k * 3 + 1)) = Lf f j k := rfl
  have x2 : cr (f (i * 3)) (f (i * 3 + 1)) (f (k * 3)) (f (k * 3 + 1)) = Lf f i k := rfl
  have x3 : cr (f (j * 3)) (f (j * 3 + 1)) (f (i * 3)) (f (i * 3 + 1)) = Lf f j i := rfl
  unfold CvN Cv core at hc
  rw [x1, x2, x3] at hc
  have s1 := L_swap f j k
  have s2 := L_swap f i k
  have s3 := L_swap f j i
  by_cases c : Lf f j k < 0
  · obtain ⟨d1, d2, d3, d4⟩ := hc.1 c
    refine S.kept_no hi hk hj (by omega) (by omega) (by omega) (by omega) (by omega) ?_
    rw [show Lf f i j = -Lf f j i by omega, show Lf f k i = -Lf f i k by omega, show Lf f k j = -Lf f j k by omega]
    omega
  · obtain ⟨d1, d2, d3, d4⟩ := hc.2 c
    exact S.kept_no hi hj hk (by omega) (by omega) d1 d2 d3 d4
theorem no_cov (S : SOk n f) {i : Nat} (hi : i < n) (h : NoP f n i n 0) : Sh f n i := by
  intro k m hk hm lk lm
  refine Int.not_le.1 fun hd => ?_
  have has : ∀ x : Nat, x < n → Has f n x := fun x hx => ⟨by omega, by omega, S.right _ (by simpa using hx)⟩
  have gi := S.g hi
  have gk := S.g hk
  have gm := S.g hm
  have s1 := L_swap f i m
  have s2 := L_swap f k m
  have s3 := L_swap f i k
  unfold Dt at hd
  have p1 := mul_pp gk (show 0 < -Lf f i m by omega)
  have p2 := mul_pp gm lk
  have p3 : f (k * 3 + 2) * -Lf f i m = -(f (k * 3 + 2) * Lf f i m) := Int.mul_neg _ _
  have p4 : f (i * 3 + 2) * Lf f k m < 0 := by omega
  have tm : 0 < Lf f m k := by
    refine Int.not_le.1 fun z => ?_
    have := mul_nn (Int.le_of_lt gi) (show 0 ≤ Lf f k m by omega)
    omega
  have q1 : f (i * 3 + 2) * Lf f k m = -(Lf f m k * f (i * 3 + 2)) := by rw [s2, Int.mul_neg, Int.mul_comm]
  have q2 : f (k * 3 + 2) * Lf f i m = -(Lf f m i * f (k * 3 + 2)) := by rw [s1, Int.mul_neg, Int.mul_comm]
  have q3 : f (m * 3 + 2) * Lf f i k = Lf f i k * f (m * 3 + 2) := Int.mul_comm _ _
  have hle : Lf f i k * f (m * 3 + 2) + Lf f m i * f (k * 3 + 2) ≤ Lf f m k * f (i * 3 + 2) := by omega
  have nki : k ≠ i := fun e => by rw [e, L_self] at lk; omega
  have nmi : m ≠ i := fun e => by rw [e, L_self] at lm; omega
  have nkm : k ≠ m := fun e => by rw [e] at lk; omega
  have hn := S.hi
  rcases Nat.lt_or_gt_of_ne nkm with c | c
  · refine h k m c hm (.inl hk) ⟨hn, has i hi, has k hk, has m hm, by omega, by omega, by omega, ?_⟩
    show CvN f (i : Int).toNat (k : Int).toNat (m : Int).toNat
    simp only [Int.toNat_natCast]
    refine ⟨fun _ => ⟨?_, ?_, ?_, ?_⟩, fun z => absurd (show Lf f k m < 0 by omega) z⟩
    · show 0 < -Lf f k m; omega
    · show 0 ≤ -Lf f i m; omega
    · show 0 ≤ -Lf f k i; omega
    · show -Lf f i m * f (k * 3 + 2) + -Lf f k i * f (m * 3 + 2) ≤ -Lf f k m * f (i * 3 + 2)
      rw [show -Lf f i m = Lf f m i by omega, show -Lf f k i = Lf f i k by omega, show -Lf f k m = Lf f m k by omega]
      omega
  · refine h m k c hk (.inl hm) ⟨hn, has i hi, has m hm, has k hk, by omega, by omega, by omega, ?_⟩
    show CvN f (i : Int).toNat (m : Int).toNat (k : Int).toNat
    simp only [Int.toNat_natCast]
    exact ⟨fun z => absurd (show Lf f m k < 0 from z) (by omega), fun _ => ⟨tm, Int.le_of_lt lk, (show 0 ≤ Lf f m i by omega), hle⟩⟩
theorem SOk.reason (S : SOk n f) {i : Nat} (hi : i < n) {a b : Int} (h : RAll f n i a b) : (a < 0 ↔ Sh f n i) ∧ (¬ a < 0 → CovP f n i a b) := by
  rcases h.1 ⟨S, by omega, by omega⟩ with ⟨rfl, rfl, hn⟩ | ⟨j, k, rfl, rfl, -, -, hc, -⟩
  · exact ⟨⟨fun _ => no_cov S hi hn, fun _ => by omega⟩, fun h => absurd (by omega) h⟩
  · exact ⟨⟨fun h => by omega, fun s => absurd s (cov_no S hc)⟩, fun _ => hc⟩
end Shape
end Go.Proofs.Ytealbihplfpgeaa
