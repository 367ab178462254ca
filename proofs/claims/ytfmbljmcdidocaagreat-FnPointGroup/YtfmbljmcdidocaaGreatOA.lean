/-
  Kinds counted and in order. No function of the program.
-/
import Derived.Test.YtfmbljmcdidocaaGreatNX
import Derived.Test.YtfmbljmcdidocaaGreatOC
import Derived.Test.YtfmbljmcdidocaaGreatE7a
import Derived.Test.YtfmbljmcdidocaaGreatML
namespace Go.Proofs.YtfmbljmcdidocaaGreat
open Go.RowKit

theorem ordF_le (f h : Nat → Int) : ∀ (k n : Nat) (M T : Nat → Int), 0 ≤ ordF f h k n M T ∧ ordF f h k n M T ≤ (n : Int) + k
  | 0, n, _, _ => by simp only [ordF]; omega
  | k + 1, n, M, T => by
    have h1 := ordF_le f h k (n + 1) (mulM f M) (behV f h T)
    simp only [ordF]
    split
    · omega
    · split <;> omega
/-- The kind of a turn: order, determinant, trace; nought. -/
def kdQ (f : Nat → Int) : Q4Kn := (ordF f (fun _ => 0) 24 1 f (fun _ => 0), det3 f, f 0 + f 4 + f 8, 0)
theorem isR_turn {f h : Nat → Int} (r : isR f h) : isR f (fun _ => 0) := ⟨r.1, fun i _ => ⟨by show (0 : Int) ≤ 0; omega, by show (0 : Int) < 24; omega⟩, r.2.2⟩
theorem kdQ_sm {f h : Nat → Int} (r : isR f h) : smKn (kdQ f) := by
  have h1 := ordF_le f (fun _ => 0) 24 1 f (fun _ => 0)
  have h0 := r.1 0 (by omega)
  have h4 := r.1 4 (by omega)
  have h8 := r.1 8 (by omega)
  refine ⟨⟨?_, ?_⟩, ?_, ⟨?_, ?_⟩, ⟨?_, ?_⟩⟩
  · show -1000000 ≤ ordF f (fun _ => 0) 24 1 f (fun _ => 0); omega
  · show ordF f (fun _ => 0) 24 1 f (fun _ => 0) ≤ 1000000; omega
  · show -1000000 ≤ det3 f ∧ det3 f ≤ 1000000
    rcases r.2.2 with e | e <;> rw [e] <;> omega
  · show -1000000 ≤ f 0 + f 4 + f 8; omega
  · show f 0 + f 4 + f 8 ≤ 1000000; omega
  · show (-1000000 : Int) ≤ 0; omega
  · show (0 : Int) ≤ 1000000; omega
/-- The same kind with another number. -/
def pr0 (x : Q4Kn) (n : Int) : Q4Kn := (x.1, x.2.1, x.2.2.1, n)
theorem pr0_kd (f : Nat → Int) : pr0 (kdQ f) 0 = kdQ f := rfl
theorem pr0_iff {x y : Q4Kn} : pr0 x 0 = pr0 y 0 ↔ pr3 x = pr3 y := by
  simp only [pr0, pr3, Prod.mk.injEq, and_true]
theorem pr3_pr0 (x : Q4Kn) (n : Int) : pr3 (pr0 x n) = pr3 x := rfl
theorem c4_zero {x y : Q4Kn} : c4 x y = 0 ↔ pr3 x = pr3 y := by
  constructor
  · intro h
    have h1 := lexC_zero.1 (show lexC 3 (t3f (pr3 x)) (t3f (pr3 y)) = 0 from h)
    exact Prod.ext (h1 0 (by omega)) (Prod.ext (h1 1 (by omega)) (h1 2 (by omega)))
  · intro h
    show lexC 3 (t3f (pr3 x)) (t3f (pr3 y)) = 0
    rw [h]
    exact lexC_zero.2 (fun _ _ => rfl)
/-- How often a kind stands among the first. -/
def cntK (q : Nat → Q4Kn) : Nat → Q4Kn → Int
  | 0, _ => 0
  | m + 1, x => cntK q m x + (if q m = x then 1 else 0)
theorem cntK_le (q : Nat → Q4Kn) (x : Q4Kn) : ∀ m : Nat, 0 ≤ cntK q m x ∧ cntK q m x ≤ m
  | 0 => by simp [cntK]
  | m + 1 => by
    have h := cntK_le q x m
    simp only [cntK]
    split <;> omega
theorem cntK_no {q : Nat → Q4Kn} {x : Q4Kn} : ∀ {m : Nat}, (∀ j, j < m → q j ≠ x) → cntK q m x = 0
  | 0, _ => rfl
  | m + 1, h => by
    simp only [cntK]
    rw [cntK_no (fun j hj => h j (by omega)), if_neg (h m (by omega))]; rfl
theorem set_cnt {q : Nat → Q4Kn} {m : Nat} {F : Q4Kn → Int} (h : ∀ x, F x = cntK q m x) (x : Q4Kn) : setKn F (q m) (F (q m) + 1) x = cntK q (m + 1) x := by
  simp only [setKn, cntK, h]
  by_cases e : x = q m
  · rw [if_pos e, if_pos e.symm, e]
  · rw [if_neg e, if_neg (fun h => e h.symm)]; omega
/-- A list of kinds, each once, in order, with their numbers. -/
structure FinK (q : Nat → Q4Kn) (m L : Nat) (R : Nat → Q4Kn) : Prop where
  up : ∀ t, t + 1 < L → c4 (R t) (R (t + 1)) < 0
  cnt : ∀ t, t < L → (R t).2.2.2 = cntK q m (pr0 (R t) 0)
  of : ∀ t, t < L → ∃ j, j < m ∧ q j = pr0 (R t) 0
  all : ∀ j, j < m → ∃ t, t < L ∧ pr0 (R t) 0 = q j
theorem FinK.start (q : Nat → Q4Kn) (R : Nat → Q4Kn) : FinK q 0 0 R := ⟨fun t ht => by omega, fun t ht => by omega, fun t ht => by omega, fun t ht => by omega⟩
theorem FinK.lt {q : Nat → Q4Kn} {m L : Nat} {R : Nat → Q4Kn} (h : FinK q m L R) {i j : Nat} (hij : i < j) (hj : j < L) : c4 (R i) (R j) < 0 :=
  up_lt (K := 3) (G := fun t => t3f (pr3 (R t))) h.up hij hj
theorem c4_irr {x y : Q4Kn} (h : c4 x y < 0) : pr3 x ≠ pr3 y := fun e => by
  have := c4_zero.2 e
  omega
theorem FinK.inj {q : Nat → Q4Kn} {m L : Nat} {R : Nat → Q4Kn} (h : FinK q m L R) {i j : Nat} (hi : i < L) (hj : j < L) (e : pr3 (R i) = pr3 (R j)) : i = j := by
  rcases Nat.lt_trichotomy i j with c | c | c
  · exact absurd e (c4_irr (h.lt c hj))
  · exact c
  · exact absurd e.symm (c4_irr (h.lt c hi))
theorem fin_same {q : Nat → Q4Kn} {m L L' : Nat} {R R' : Nat → Q4Kn} (h : FinK q m L R) (h' : FinK q m L' R') : L = L' ∧ ∀ t, t < L → R t = R' t := by
  have z : ∀ {x y : Q4Kn}, pr0 x 0 = pr0 y 0 → lexC 3 (t3f (pr3 x)) (t3f (pr3 y)) = 0 := fun e => by
    rw [pr0_iff.1 e]; exact lexC_zero.2 (fun _ _ => rfl)
  obtain ⟨e1, e2⟩ := rising_same (K := 3) (G := fun t => t3f (pr3 (R t))) (H := fun t => t3f (pr3 (R' t))) (n := L) (m := L') h.up h'.up
    (fun i hi => by
      obtain ⟨j, hj, e⟩ := h.of i hi
      obtain ⟨t, ht, e'⟩ := h'.all j hj
      exact ⟨t, ht, z (e.symm.trans e'.symm)⟩)
    (fun i hi => by
      obtain ⟨j, hj, e⟩ := h'.of i hi
      obtain ⟨t, ht, e'⟩ := h.all j hj
      exact ⟨t, ht, z (e'.trans e)⟩)
  refine ⟨e1, fun t ht => ?_⟩
  have e3 : pr3 (R t) = pr3 (R' t) := c4_zero.1 (e2 t ht)
  have e4 := h.cnt t ht
  rw [pr0_iff.2 e3, ← h'.cnt t (by omega)] at e4
  simp only [pr3, Prod.mk.injEq] at e3
  exact Prod.ext e3.1 (Prod.ext e3.2.1 (Prod.ext e3.2.2 e4))
/-- One that is there once more. -/
theorem FinK.more {q : Nat → Q4Kn} {m L c : Nat} {R : Nat → Q4Kn} (h : FinK q m L R) (hc : c < L) (e : pr3 (R c) = pr3 (q m)) (h0 : pr0 (q m) 0 = q m) : FinK q (m + 1) L (fun t => if t = c then pr0 (R c) ((R c).2.2.2 + 1) else R t) := by
  have p3 : ∀ t, pr3 (if t = c then pr0 (R c) ((R c).2.2.2 + 1) else R t) = pr3 (R t) := fun t => by
    split
    · rename_i e; rw [e]; rfl
    · rfl
  have p0 : ∀ t, pr0 (if t = c then pr0 (R c) ((R c).2.2.2 + 1) else R t) 0 = pr0 (R t) 0 := fun t => pr0_iff.2 (p3 t)
  refine ⟨fun t ht => ?_, fun t ht => ?_, fun t ht => ?_, fun j hj => ?_⟩
  · show lexC 3 (t3f (pr3 _)) (t3f (pr3 _)) < 0
    rw [p3, p3]; exact h.up t ht
  · rw [p0]
    simp only [cntK]
    by_cases c1 : t = c
    · subst c1
      rw [if_pos rfl, if_pos (by rw [← h0]; exact pr0_iff.2 e.symm)]
      show (R t).2.2.2 + 1 = _
      rw [h.cnt t ht]
    · rw [if_neg c1, if_neg (fun h2 => c1 (h.inj ht hc (by rw [e]; exact pr0_iff.1 (by rw [h0, h2]) |>.symm))), h.cnt t ht]; omega
  · obtain ⟨j, hj, e1⟩ := h.of t ht
    exact ⟨j, by omega, by rw [p0]; exact e1⟩
  · by_cases c1 : j = m
    · subst c1
      exact ⟨c, hc, by rw [p0, ← h0]; exact pr0_iff.2 e⟩
    · obtain ⟨t, ht, e1⟩ := h.all j (by omega)
      exact ⟨t, ht, by rw [p0]; exact e1⟩
/-- A new one. -/
theorem FinK.add {q : Nat → Q4Kn} {m L c : Nat} {R : Nat → Q4Kn} (h : FinK q m L R) (hc : c ≤ L) (hlo : ∀ t, t < c → c4 (R t) (q m) < 0) (hhi : c = L ∨ c4 (q m) (R c) < 0) (h0 : pr0 (q m) 0 = q m) : FinK q (m + 1) (L + 1) (ins c R (pr0 (q m) 1)) := by
  have hup : ∀ t, c ≤ t → t < L → c4 (q m) (R t) < 0 := fun t h1 h2 => by
    rcases hhi with e | e
    · omega
    · by_cases e2 : t = c
      · rw [e2]; exact e
      · exact lexC_trans e (h.lt (show c < t by omega) h2)
  have ne : ∀ t, t < L → pr3 (R t) ≠ pr3 (q m) := fun t ht => by
    by_cases e : t < c
    · exact c4_irr (hlo t e)
    · exact fun e2 => c4_irr (hup t (by omega) ht) e2.symm
  have new : ∀ j, j < m → q j ≠ q m := fun j hj e => by
    obtain ⟨t, ht, e1⟩ := h.all j hj
    exact ne t ht (pr0_iff.1 (by rw [e1, h0, e]))
  refine ⟨fun t ht => ?_, fun t ht => ?_, fun t ht => ?_, fun j hj => ?_⟩
  · rcases Nat.lt_trichotomy (t + 1) c with e | e | e
    · rw [ins_lo (by omega), ins_lo e]; exact h.up t (by omega)
    · rw [ins_lo (show t < c by omega), e, ins_at]; exact hlo t (by omega)
    · rw [ins_hi e, Nat.add_sub_cancel]
      by_cases e2 : t = c
      · rw [e2, ins_at]; exact hup c (Nat.le_refl _) (by omega)
      · rw [ins_hi (show c < t by omega)]
        have := h.up (t - 1) (by omega)
        rwa [show t - 1 + 1 = t by omega] at this
  · have old : ∀ s, s < L → (R s).2.2.2 = cntK q (m + 1) (pr0 (R s) 0) := fun s hs => by
      simp only [cntK]
      rw [if_neg (fun e => ne s hs (pr0_iff.1 (by rw [h0, e]))), h.cnt s hs]; omega
    rcases Nat.lt_trichotomy t c with e | e | e
    · rw [ins_lo e]; exact old t (by omega)
    · rw [e, ins_at]
      show (1 : Int) = cntK q (m + 1) (pr0 (q m) 0)
      rw [h0]
      simp only [cntK]
      rw [cntK_no new]; simp
    · rw [ins_hi e]; exact old (t - 1) (by omega)
  · rcases Nat.lt_trichotomy t c with e | e | e
    · rw [ins_lo e]; obtain ⟨j, hj, e1⟩ := h.of t (by omega); exact ⟨j, by omega, e1⟩
    · rw [e, ins_at]; exact ⟨m, by omega, h0.symm⟩
    · rw [ins_hi e]; obtain ⟨j, hj, e1⟩ := h.of (t - 1) (by omega); exact ⟨j, by omega, e1⟩
  · by_cases e : j = m
    · subst e; exact ⟨c, by omega, by rw [ins_at]; exact h0⟩
    · obtain ⟨t, ht, e1⟩ := h.all j (by omega)
      by_cases e2 : t < c
      · exact ⟨t, by omega, by rw [ins_lo e2]; exact e1⟩
      · exact ⟨t + 1, by omega, by rw [ins_hi (show c < t + 1 by omega), Nat.add_sub_cancel]; exact e1⟩
/-- What the map's range gives, sorted. -/
theorem fin_sorted {q : Nat → Q4Kn} {m L : Nat} {l : List Q4Kn} {d : Array Q4Kn} (h0 : ∀ j, j < m → pr0 (q j) 0 = q j) (hnd : l.Nodup) (hl : ∀ y, y ∈ l ↔ ∃ j, j < m ∧ q j = y) (hd : d.size = L) (hp : d.toList.Perm (l.map (fun x => pr0 x (cntK q m x)))) (hs : ∀ i j, i < j → j < L → ¬ c4 d[j]! d[i]! < 0) : FinK q m L (fun t => d[t]!) := by
  have at' : ∀ t (ht : t < L), d[t]! = d.toList[t]'(by simpa [hd] using ht) := fun t ht => by
    rw [getElem!_pos d t (by omega)]; simp
  have mem : ∀ t, t < L → ∃ x, x ∈ l ∧ d[t]! = pr0 x (cntK q m x) := fun t ht => by
    have h1 : d[t]! ∈ d.toList := by rw [at' t ht]; exact List.getElem_mem _
    obtain ⟨x, hx, e⟩ := List.mem_map.1 (hp.mem_iff.1 h1)
    exact ⟨x, hx, e.symm⟩
  have z : ∀ x, x ∈ l → pr0 x 0 = x := fun x hx => by
    obtain ⟨j, hj, rfl⟩ := (hl x).1 hx
    exact h0 j hj
  have nd : (d.toList.map pr3).Nodup := by
    have h1 : ((l.map (fun x => pr0 x (cntK q m x))).map pr3).Nodup := by
      rw [List.map_map, List.Nodup, List.pairwise_map]
      refine List.Pairwise.imp_of_mem ?_ hnd
      intro x y hx hy hne e
      have e2 : pr3 x = pr3 y := e
      exact hne (by rw [← z x hx, ← z y hy, pr0_iff.2 e2])
    exact (hp.map pr3).nodup_iff.2 h1
  refine ⟨fun t ht => ?_, fun t ht => ?_, fun t ht => ?_, fun j hj => ?_⟩
  · have ne : pr3 d[t]! ≠ pr3 d[t + 1]! := fun e => by
      rw [at' t (by omega), at' (t + 1) ht] at e
      have := (List.getElem_inj (i := t) (j := t + 1) (h₀ := by simp [hd]; omega) (h₁ := by simp [hd]; omega) nd).1 (by simpa using e)
      omega
    have h1 := hs t (t + 1) (by omega) ht
    show lexC 3 (t3f (pr3 d[t]!)) (t3f (pr3 d[t + 1]!)) < 0
    rcases lexC_range 3 (t3f (pr3 d[t]!)) (t3f (pr3 d[t + 1]!)) with e | e | e
    · omega
    · exact absurd (c4_zero.1 e) ne
    · exact absurd (lexC_pos.1 (by omega : 0 < lexC 3 (t3f (pr3 d[t]!)) (t3f (pr3 d[t + 1]!)))) h1
  · obtain ⟨x, hx, e⟩ := mem t ht
    show (d[t]!).2.2.2 = _
    rw [e]
    show cntK q m x = cntK q m (pr0 x 0)
    rw [z x hx]
  · obtain ⟨x, hx, e⟩ := mem t ht
    obtain ⟨j, hj, e1⟩ := (hl x).1 hx
    refine ⟨j, hj, ?_⟩
    show q j = pr0 d[t]! 0
    rw [e, e1]
    exact (z x hx).symm
  · have h1 : pr0 (q j) (cntK q m (q j)) ∈ d.toList := hp.mem_iff.2 (List.mem_map.2 ⟨q j, (hl _).2 ⟨j, hj, rfl⟩, rfl⟩)
    obtain ⟨t, ht, e⟩ := List.getElem_of_mem h1
    have ht' : t < L := by simpa [hd] using ht
    refine ⟨t, ht', ?_⟩
    show pr0 d[t]! 0 = q j
    rw [at' t ht', e]
    exact h0 j hj
end Go.Proofs.YtfmbljmcdidocaaGreat
/-
  The kind of an operator by the program: walked.
-/
namespace Go.Proofs.YtfmbljmcdidocaaGreat
open Go.RowKit

theorem openT {t : TypeId} {w : World} {q : Nat} {v0 v1 v2 v3 v4 v5 v6 v7 v8 v9 v10 v11 : Value} (h : At t w q #[v0, v1, v2, v3, v4, v5, v6, v7, v8, v9, v10, v11]) : w.cell? ⟨q, 0, none⟩ = some v0 ∧ w.cell? ⟨q, 1, none⟩ = some v1 ∧ w.cell? ⟨q, 2, none⟩ = some v2 ∧ w.cell? ⟨q, 3, none⟩ = some v3 ∧ w.cell? ⟨q, 4, none⟩ = some v4 ∧ w.cell? ⟨q, 5, none⟩ = some v5 ∧ w.cell? ⟨q, 6, none⟩ = some v6 ∧ w.cell? ⟨q, 7, none⟩ = some v7 ∧ w.cell? ⟨q, 8, none⟩ = some v8 ∧ w.cell? ⟨q, 9, none⟩ = some v9 ∧ w.cell? ⟨q, 10, none⟩ = some v10 ∧ w.cell? ⟨q, 11, none⟩ = some v11 :=
  ⟨h.cell 0 rfl, h.cell 1 rfl, h.cell 2 rfl, h.cell 3 rfl, h.cell 4 rfl, h.cell 5 rfl, h.cell 6 rfl, h.cell 7 rfl, h.cell 8 rfl, h.cell 9 rfl, h.cell 10 rfl, h.cell 11 rfl⟩
theorem put4K {t : TypeId} {w : World} {q : Nat} {u0 u1 u2 u3 : Value} (h : At t w q #[u0, u1, u2, u3]) (v0 v1 v2 v3 : Value) : At t ((((w.setCell ⟨q, 0, none⟩ v0).setCell ⟨q, 1, none⟩ v1).setCell ⟨q, 2, none⟩ v2).setCell ⟨q, 3, none⟩ v3) q #[v0, v1, v2, v3] := by
  have := (((h.set 0 v0).set 1 v1).set 2 v2).set 3 v3
  simpa using this
theorem below4K {N q : Nat} {w w2 : World} (h : Below N w w2) (hq : N ≤ q) (v0 v1 v2 v3 : Value) : Below N w ((((w2.setCell ⟨q, 0, none⟩ v0).setCell ⟨q, 1, none⟩ v1).setCell ⟨q, 2, none⟩ v2).setCell ⟨q, 3, none⟩ v3) :=
  (((h.setCell hq v0).setCell hq v1).setCell hq v2).setCell hq v3
set_option maxRecDepth 100000 in
set_option maxHeartbeats 2000000 in
theorem kind_any {f : Nat → Int} (r : isR f (fun _ => 0)) (w : World) :
    Calls Tryz.prog 33 #[.agg #[.int .i64 (f 0), .int .i64 (f 1), .int .i64 (f 2), .int .i64 (f 3), .int .i64 (f 4), .int .i64 (f 5), .int .i64 (f 6), .int .i64 (f 7), .int .i64 (f 8), .int .i64 0, .int .i64 0, .int .i64 0]] w fun e w' => e = .returned (aVKn (kdQ f)) ∧ Below w.heap.size w w' := by
  obtain ⟨o, ho⟩ : ∃ o, ordF f (fun _ => 0) 24 1 f (fun _ => 0) = o := ⟨_, rfl⟩
  obtain ⟨d, hd⟩ : ∃ d, det3 f = d := ⟨_, rfl⟩
  have h0 := r.1 0 (by omega)
  have h4 := r.1 4 (by omega)
  have h8 := r.1 8 (by omega)
  obtain ⟨s1, hs1⟩ : ∃ s, f 0 + f 4 = s := ⟨_, rfl⟩
  obtain ⟨s2, hs2⟩ : ∃ s, s1 + f 8 = s := ⟨_, rfl⟩
  have w1 : IntKind.i64.wrap (f 0 + f 4) = s1 := by rw [hs1]; exact IntWalk.i64_in _ (by omega)
  have w2 : IntKind.i64.wrap (s1 + f 8) = s2 := by rw [hs2]; exact IntWalk.i64_in _ (by omega)
  have HQ : Hid (aVKn (kdQ f) = .agg #[.int .i64 o, .int .i64 d, .int .i64 s2, .int .i64 0]) := hid_of (by unfold aVKn kdQ; simp only [ho, hd]; rw [hs1, hs2])
  have HO : Hid (∀ wq, Calls Tryz.prog 56 #[.agg #[.int .i64 (f 0), .int .i64 (f 1), .int .i64 (f 2), .int .i64 (f 3), .int .i64 (f 4), .int .i64 (f 5), .int .i64 (f 6), .int .i64 (f 7), .int .i64 (f 8), .int .i64 0, .int .i64 0, .int .i64 0]] wq fun e w' => e = .returned (.int .i64 o) ∧ Below wq.heap.size wq w') := fun wq => by
    rw [← ho]; exact order_any r wq
  have HD : Hid (∀ wq, Calls Tryz.prog 57 #[.agg #[.int .i64 (f 0), .int .i64 (f 1), .int .i64 (f 2), .int .i64 (f 3), .int .i64 (f 4), .int .i64 (f 5), .int .i64 (f 6), .int .i64 (f 7), .int .i64 (f 8)]] wq fun e w' => e = .returned (.int .i64 d) ∧ Below wq.heap.size wq w') := fun wq => by
    rw [← hd]; exact det_any (fun i hi => by have := r.1 i hi; omega) (w := wq)
  rw [HQ.out]
  clear HQ ho hd hs1 hs2 h0 h4 h8
  obtain ⟨W2, hW2, A1, A2, bW, hsz⟩ := bx2 w 62 36 #[.int .i64 (f 0), .int .i64 (f 1), .int .i64 (f 2), .int .i64 (f 3), .int .i64 (f 4), .int .i64 (f 5), .int .i64 (f 6), .int .i64 (f 7), .int .i64 (f 8), .int .i64 0, .int .i64 0, .int .i64 0] #[.int .i64 0, .int .i64 0, .int .i64 0, .int .i64 0]
  obtain ⟨q1, hq1⟩ : ∃ q, w.heap.size = q := ⟨_, rfl⟩
  obtain ⟨q2, hq2'⟩ : ∃ q, w.heap.size + 1 = q := ⟨_, rfl⟩
  have hq2 : w.heap.size ≤ q2 := by omega
  have h12 : q1 ≠ q2 := by omega
  rw [hq1] at A1
  rw [hq2'] at A2
  have HQ1 := hid_of hq1
  have HQ2 := hid_of hq2'
  clear hsz hq1 hq2'
  go_enter Tryz.func33, Tryz.ntmps33
  go_wp2_with fail
  rw [HQ2.out, HQ1.out]
  clear hW2 HQ1 HQ2
  obtain ⟨u0, hu0, bb⟩ : ∃ uu, W2.drew = uu ∧ Below W2.heap.size W2 uu := ⟨_, rfl, (Below.refl _ _).drew⟩
  replace A1 := A1.below bb
  replace A2 := A2.below bb
  replace bW := bW.trans (bb.mono bW.size)
  clear bb
  refine wp_region_held_drew (S := fun w' => At 62 w' q1 #[.int .i64 (f 0), .int .i64 (f 1), .int .i64 (f 2), .int .i64 (f 3), .int .i64 (f 4), .int .i64 (f 5), .int .i64 (f 6), .int .i64 (f 7), .int .i64 (f 8), .int .i64 0, .int .i64 0, .int .i64 0]) (by kernel_rfl) (by rw [hu0]; exact A1) (fun hHeld => ?_)
  rw [hu0] at hHeld ⊢
  clear hu0
  change wpAnyH _ _ _ _ _ 18 #[false, false, false, false, false, false, false, false, false, false, false, false, false, false, false, false, false, false] _ _
  refine wpAnyH_take (i := 0) (v := .agg #[.int .i64 (f 0), .int .i64 (f 1), .int .i64 (f 2), .int .i64 (f 3), .int .i64 (f 4), .int .i64 (f 5), .int .i64 (f 6), .int .i64 (f 7), .int .i64 (f 8), .int .i64 0, .int .i64 0, .int .i64 0]) rfl (by kernel_rfl) (by kernel_rfl) (by kernel_rfl) (fun _ _ _ h => h) (Or.inl ⟨by kernel_rfl, ?_⟩) hHeld ?_
  · intro w' hSw; obtain ⟨z0, z1, z2, z3, z4, z5, z6, z7, z8, z9, z10, z11⟩ := openT hSw; go_simp
  try simp only [Act.put, List.setIfInBounds_toArray, List.set_cons_zero, List.set_cons_succ, List.getElem_toArray, List.getElem_cons_zero]
  refine wpAnyH_take (i := 2) (v := .pointer (some ⟨q1, 0, none⟩)) rfl (by kernel_rfl) (by kernel_rfl) (by kernel_rfl) (fun _ _ _ h => h) (Or.inl ⟨by kernel_rfl, ?_⟩) hHeld ?_
  · intro w' hSw; go_simp
  try simp only [Act.put, List.setIfInBounds_toArray, List.set_cons_zero, List.set_cons_succ, List.getElem_toArray, List.getElem_cons_succ, List.getElem_cons_zero]
  refine wpAnyH_take (i := 3) (v := .agg #[.int .i64 (f 0), .int .i64 (f 1), .int .i64 (f 2), .int .i64 (f 3), .int .i64 (f 4), .int .i64 (f 5), .int .i64 (f 6), .int .i64 (f 7), .int .i64 (f 8)]) rfl (by kernel_rfl) (by kernel_rfl) (by kernel_rfl) (fun _ _ _ h => h) (Or.inl ⟨by kernel_rfl, ?_⟩) hHeld ?_
  · intro w' hSw; obtain ⟨z0, z1, z2, z3, z4, z5, z6, z7, z8, z9, z10, z11⟩ := openT hSw; go_simp
  try simp only [Act.put, List.setIfInBounds_toArray, List.set_cons_zero, List.set_cons_succ, List.getElem_toArray, List.getElem_cons_succ, List.getElem_cons_zero]
  refine wpAnyH_take (i := 5) (v := .pointer (some ⟨q1, 0, none⟩)) rfl (by kernel_rfl) (by kernel_rfl) (by kernel_rfl) (fun _ _ _ h => h) (Or.inl ⟨by kernel_rfl, ?_⟩) hHeld ?_
  · intro w' hSw; go_simp
  try simp only [Act.put, List.setIfInBounds_toArray, List.set_cons_zero, List.set_cons_succ, List.getElem_toArray, List.getElem_cons_succ, List.getElem_cons_zero]
  refine wpAnyH_take (i := 6) (v := .pointer (some ⟨q1, 0, none⟩)) rfl (by kernel_rfl) (by kernel_rfl) (by kernel_rfl) (fun _ _ _ h => h) (Or.inl ⟨by kernel_rfl, ?_⟩) hHeld ?_
  · intro w' hSw; go_simp
  try simp only [Act.put, List.setIfInBounds_toArray, List.set_cons_zero, List.set_cons_succ, List.getElem_toArray, List.getElem_cons_succ, List.getElem_cons_zero]
  refine wpAnyH_take (i := 7) (v := .int .i64 (f 0)) rfl (by kernel_rfl) (by kernel_rfl) (by kernel_rfl) (fun _ _ _ h => h) (Or.inl ⟨by kernel_rfl, ?_⟩) hHeld ?_
  · intro w' hSw; obtain ⟨z0, z1, z2, z3, z4, z5, z6, z7, z8, z9, z10, z11⟩ := openT hSw; go_simp
  try simp only [Act.put, List.setIfInBounds_toArray, List.set_cons_zero, List.set_cons_succ, List.getElem_toArray, List.getElem_cons_succ, List.getElem_cons_zero]
  refine wpAnyH_take (i := 8) (v := .pointer (some ⟨q1, 0, none⟩)) rfl (by kernel_rfl) (by kernel_rfl) (by kernel_rfl) (fun _ _ _ h => h) (Or.inl ⟨by kernel_rfl, ?_⟩) hHeld ?_
  · intro w' hSw; go_simp
  try simp only [Act.put, List.setIfInBounds_toArray, List.set_cons_zero, List.set_cons_succ, List.getElem_toArray, List.getElem_cons_succ, List.getElem_cons_zero]
  refine wpAnyH_take (i := 9) (v := .pointer (some ⟨q1, 4, none⟩)) rfl (by kernel_rfl) (by kernel_rfl) (by kernel_rfl) (fun _ _ _ h => h) (Or.inl ⟨by kernel_rfl, ?_⟩) hHeld ?_
  · intro w' hSw; go_simp
  try simp only [Act.put, List.setIfInBounds_toArray, List.set_cons_zero, List.set_cons_succ, List.getElem_toArray, List.getElem_cons_succ, List.getElem_cons_zero]
  refine wpAnyH_take (i := 10) (v := .int .i64 (f 4)) rfl (by kernel_rfl) (by kernel_rfl) (by kernel_rfl) (fun _ _ _ h => h) (Or.inl ⟨by kernel_rfl, ?_⟩) hHeld ?_
  · intro w' hSw; obtain ⟨z0, z1, z2, z3, z4, z5, z6, z7, z8, z9, z10, z11⟩ := openT hSw; go_simp
  try simp only [Act.put, List.setIfInBounds_toArray, List.set_cons_zero, List.set_cons_succ, List.getElem_toArray, List.getElem_cons_succ, List.getElem_cons_zero]
  refine wpAnyH_take (i := 11) (v := .int .i64 (s1)) rfl (by kernel_rfl) (by kernel_rfl) (by kernel_rfl) (fun _ _ _ h => h) (Or.inl ⟨by kernel_rfl, ?_⟩) hHeld ?_
  · intro w' hSw; go_simp
  try simp only [Act.put, List.setIfInBounds_toArray, List.set_cons_zero, List.set_cons_succ, List.getElem_toArray, List.getElem_cons_succ, List.getElem_cons_zero]
  refine wpAnyH_take (i := 12) (v := .pointer (some ⟨q1, 0, none⟩)) rfl (by kernel_rfl) (by kernel_rfl) (by kernel_rfl) (fun _ _ _ h => h) (Or.inl ⟨by kernel_rfl, ?_⟩) hHeld ?_
  · intro w' hSw; go_simp
  try simp only [Act.put, List.setIfInBounds_toArray, List.set_cons_zero, List.set_cons_succ, List.getElem_toArray, List.getElem_cons_succ, List.getElem_cons_zero]
  refine wpAnyH_take (i := 13) (v := .pointer (some ⟨q1, 8, none⟩)) rfl (by kernel_rfl) (by kernel_rfl) (by kernel_rfl) (fun _ _ _ h => h) (Or.inl ⟨by kernel_rfl, ?_⟩) hHeld ?_
  · intro w' hSw; go_simp
  try simp only [Act.put, List.setIfInBounds_toArray, List.set_cons_zero, List.set_cons_succ, List.getElem_toArray, List.getElem_cons_succ, List.getElem_cons_zero]
  refine wpAnyH_take (i := 14) (v := .int .i64 (f 8)) rfl (by kernel_rfl) (by kernel_rfl) (by kernel_rfl) (fun _ _ _ h => h) (Or.inl ⟨by kernel_rfl, ?_⟩) hHeld ?_
  · intro w' hSw; obtain ⟨z0, z1, z2, z3, z4, z5, z6, z7, z8, z9, z10, z11⟩ := openT hSw; go_simp
  try simp only [Act.put, List.setIfInBounds_toArray, List.set_cons_zero, List.set_cons_succ, List.getElem_toArray, List.getElem_cons_succ, List.getElem_cons_zero]
  refine wpAnyH_take (i := 15) (v := .int .i64 (s2)) rfl (by kernel_rfl) (by kernel_rfl) (by kernel_rfl) (fun _ _ _ h => h) (Or.inl ⟨by kernel_rfl, ?_⟩) hHeld ?_
  · intro w' hSw; go_simp
  try simp only [Act.put, List.setIfInBounds_toArray, List.set_cons_zero, List.set_cons_succ, List.getElem_toArray, List.getElem_cons_succ, List.getElem_cons_zero]
  refine wpAnyH_ready (rs := [1]) (by kernel_rfl) (by simp) ?_
  refine AllReadyH.cons rfl (fun KK hK' => ?_) AllReadyH.nil
  go_simp
  refine (HO.out _).mono ?_
  rintro e u1 ⟨rfl, bb⟩
  replace A1 := A1.below bb
  replace A2 := A2.below bb
  replace bW := bW.trans (bb.mono bW.size)
  clear bb
  try go_wp2_with fail
  clear hHeld
  refine hK'.out _ _ (A1) (fun hHeld => ?_)
  clear hK' KK
  try simp only [List.setIfInBounds_toArray, List.set_cons_zero, List.set_cons_succ]
  refine wpAnyH_ready (rs := [4]) (by kernel_rfl) (by simp) ?_
  refine AllReadyH.cons rfl (fun KK hK' => ?_) AllReadyH.nil
  go_simp
  refine (HD.out _).mono ?_
  rintro e u2 ⟨rfl, bb⟩
  replace A1 := A1.below bb
  replace A2 := A2.below bb
  replace bW := bW.trans (bb.mono bW.size)
  clear bb
  try go_wp2_with fail
  clear hHeld
  refine hK'.out _ _ (A1) (fun hHeld => ?_)
  clear hK' KK
  try simp only [List.setIfInBounds_toArray, List.set_cons_zero, List.set_cons_succ]
  refine wpAnyH_take (i := 16) (v := .agg #[.int .i64 o, .int .i64 d, .int .i64 s2, .int .i64 0]) rfl (by kernel_rfl) (by kernel_rfl) (by kernel_rfl) (fun _ _ _ h => h) (Or.inl ⟨by kernel_rfl, ?_⟩) hHeld ?_
  · intro w' hSw; go_simp
  try simp only [Act.put, List.setIfInBounds_toArray, List.set_cons_zero, List.set_cons_succ, List.getElem_toArray, List.getElem_cons_succ, List.getElem_cons_zero]
  refine wpAnyH_ready (rs := [17]) (by kernel_rfl) (by simp) ?_
  refine AllReadyH.cons rfl (fun KK hK' => ?_) AllReadyH.nil
  obtain ⟨y0, y1, y2, y3, y4, y5, y6, y7⟩ := A2.openQ4
  go_simp
  have A3 := put4K A2 (.int .i64 o) (.int .i64 d) (.int .i64 s2) (.int .i64 0)
  replace A1 := (At.setOther (At.setOther (At.setOther (At.setOther A1 h12 (.int .i64 o) (i := 0)) h12 (.int .i64 d) (i := 1)) h12 (.int .i64 s2) (i := 2)) h12 (.int .i64 0) (i := 3))
  replace bW := below4K bW hq2 (.int .i64 o) (.int .i64 d) (.int .i64 s2) (.int .i64 0)
  obtain ⟨u3, hv⟩ : ∃ V, (((u2.setCell ⟨q2, 0, none⟩ (.int .i64 o)).setCell ⟨q2, 1, none⟩ (.int .i64 d)).setCell ⟨q2, 2, none⟩ (.int .i64 s2)).setCell ⟨q2, 3, none⟩ (.int .i64 0) = V := ⟨_, rfl⟩
  rw [hv] at A1 A3 bW ⊢
  clear hv A2 y0 y1 y2 y3 y4 y5 y6 y7
  clear hHeld
  refine hK'.out _ _ (A1) (fun hHeld => ?_)
  clear hK' KK
  try simp only [List.setIfInBounds_toArray, List.set_cons_zero, List.set_cons_succ]
  refine wpAnyH_done (by kernel_rfl) ?_ _
  clear hHeld
  obtain ⟨y0, y1, y2, y3, -⟩ := A3.openQ4
  go_wp2
  exact bodyPost_ret (v := .agg #[.int .i64 o, .int .i64 d, .int .i64 s2, .int .i64 0]) (by simp [results, Tryz.results33, go_sem, y0, y1, y2, y3]) rfl ⟨rfl, bW⟩
end Go.Proofs.YtfmbljmcdidocaaGreat
