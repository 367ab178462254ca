/-
  All facets that show are come by, one after the other. Mathematics alone: no function of the program.
-/
import Derived.Test.YtealbihplfpgeaaHa
namespace Go.Proofs.Ytealbihplfpgeaa
open Go.RowKit

theorem nodup_le {α : Type} [DecidableEq α] : ∀ (l s : List α), l.Nodup → (∀ x, x ∈ l → x ∈ s) → l.length ≤ s.length
  | [], _, _, _ => Nat.zero_le _
  | x :: l, s, hn, hs => by
    have hx := hs x (List.mem_cons_self ..)
    have hn' := List.nodup_cons.1 hn
    have := nodup_le l (s.erase x) hn'.2 (fun y hy => (List.mem_erase_of_ne (fun e => hn'.1 (by rw [← e]; exact hy))).2 (hs y (List.mem_cons_of_mem _ hy)))
    rw [List.length_erase_of_mem hx] at this
    have := List.length_pos_of_mem hx
    simp only [List.length_cons]
    omega
/-- Where a lies, seen from j to the left. -/
def hf (f : Nat → Int) (j a : Nat) : Nat := if a = j then 0 else if 0 < Lf f j a then 1 else if Lf f j a = 0 then 2 else 3
/-- From j on to the left a comes ahead of b. -/
def Bf (f : Nat → Int) (j a b : Nat) : Prop := hf f j a < hf f j b ∨ (hf f j a = hf f j b ∧ 0 < Lf f a b)
theorem Bf.irr {f : Nat → Int} {j a : Nat} (h : Bf f j a a) : False := by
  rcases h with h | ⟨-, h⟩
  · omega
  · rw [L_self] at h; omega
section Shape
variable {n : Nat} {f : Nat → Int}
theorem hf_cases (f : Nat → Int) (j a : Nat) : (a = j ∧ hf f j a = 0) ∨ (a ≠ j ∧ 0 < Lf f j a ∧ hf f j a = 1) ∨ (a ≠ j ∧ Lf f j a = 0 ∧ hf f j a = 2) ∨ (a ≠ j ∧ Lf f j a < 0 ∧ hf f j a = 3) := by
  unfold hf
  by_cases h0 : a = j
  · left; simp [h0]
  · by_cases h1 : 0 < Lf f j a
    · right; left; simp [h0, h1]
    · by_cases h2 : Lf f j a = 0
      · right; right; left; simp [h0, h2]
      · right; right; right; simp [h0, h1, h2]; omega
theorem SOk.bfTr (S : SOk n f) {j a b c : Nat} (hj : j < n) (hb : b < n) (h1 : Bf f j a b) (h2 : Bf f j b c) : Bf f j a c := by
  rcases h1 with h1 | ⟨e1, l1⟩
  · rcases h2 with h2 | ⟨e2, l2⟩
    · exact .inl (by omega)
    · exact .inl (by omega)
  · rcases h2 with h2 | ⟨e2, l2⟩
    · exact .inl (by omega)
    · refine .inr ⟨by omega, ?_⟩
      have p := P1 f j b a c
      have s := L_swap f b a
      rw [s, Int.mul_neg] at p
      rcases hf_cases f j a with ⟨z1, x⟩ | ⟨-, la, x⟩ | ⟨na, la, x⟩ | ⟨-, la, x⟩ <;> rcases hf_cases f j b with ⟨z2, y⟩ | ⟨-, lb, y⟩ | ⟨nb, lb, y⟩ | ⟨-, lb, y⟩ <;> try omega
      · rw [z1, z2, L_self] at l1; omega
      · rcases hf_cases f j c with ⟨-, z⟩ | ⟨-, lc, z⟩ | ⟨-, lc, z⟩ | ⟨-, lc, z⟩ <;> try omega
        have m1 := mul_pp la l2
        have m2 := mul_pp lc l1
        exact pos_left (b := Lf f j b) (by rw [Int.mul_comm]; omega) lb
      · rcases S.line hj hb lb with e | ⟨u1, u2⟩
        · exact absurd e nb
        · rw [opp_L u1 u2] at l1; omega
      · rcases hf_cases f j c with ⟨-, z⟩ | ⟨-, lc, z⟩ | ⟨-, lc, z⟩ | ⟨-, lc, z⟩ <;> try omega
        have m1 := mul_mp la l2
        have m2 := mul_mp lc l1
        exact pos_neg (b := Lf f j b) (by rw [Int.mul_comm]; omega) lb
theorem SOk.bfStep (S : SOk n f) {j i k : Nat} (hj : j < n) (hi : i < n) (hk : k < n) (shj : Sh f n j) (sh : Sh f n i) (nx : Nx f n i k) (hne : k ≠ j) : Bf f j i k := by
  rcases hf_cases f j k with ⟨e, -⟩ | hk'
  · exact absurd e hne
  rcases hf_cases f j i with ⟨rfl, x⟩ | ⟨-, la, x⟩ | ⟨na, la, x⟩ | ⟨-, la, x⟩
  · exact .inl (by omega)
  · rcases hk' with ⟨-, -, y⟩ | ⟨-, -, y⟩ | ⟨-, -, y⟩
    · exact .inr ⟨by omega, nx.1⟩
    · exact .inl (by omega)
    · exact .inl (by omega)
  · rcases S.line hj hi la with e | ⟨u1, u2⟩
    · exact absurd e na
    · have := opp_R u1 u2 k
      have := nx.1
      exact .inl (by omega)
  · have hn := S.none hi sh hk nx hj shj (by have := L_swap f i j; omega)
    rcases hk' with ⟨-, lk, y⟩ | ⟨nk, lk, y⟩ | ⟨-, lk, y⟩
    · exact absurd lk hn
    · rcases S.line hj hk lk with e | ⟨u1, u2⟩
      · exact absurd e nk
      · have := opp_L u1 u2 i
        have := nx.1
        omega
    · exact .inr ⟨by omega, nx.1⟩
theorem SOk.bfAll (S : SOk n f) {j : Nat} (hj : j < n) (shj : Sh f n j) (a : Nat → Nat) (T : Nat) (ha : ∀ t, t ≤ T → a t < n ∧ Sh f n (a t)) (hx : ∀ t, t < T → Nx f n (a t) (a (t + 1))) (hne : ∀ t, t ≤ T → a t ≠ j) :
    ∀ q, q ≤ T → ∀ p, p < q → Bf f j (a p) (a q) := by
  intro q
  induction q with
  | zero => intro _ p hp; omega
  | succ q ih =>
    intro hq p hp
    have st := S.bfStep hj (ha q (by omega)).1 (ha (q + 1) hq).1 shj (ha q (by omega)).2 (hx q (by omega)) (hne (q + 1) hq)
    by_cases e : p = q
    · rw [e]; exact st
    · exact S.bfTr hj (ha q (by omega)).1 (ih (by omega) p (by omega)) st
/-- The facets that show, rising. -/
noncomputable def shl (f : Nat → Int) (n : Nat) : List Nat := (List.range n).filter (fun i => @decide (Sh f n i) (Classical.propDecidable _))
theorem mem_shl {i : Nat} : i ∈ shl f n ↔ i < n ∧ Sh f n i := by simp [shl]
/-- As many steps as there are facets that show come by each of them. -/
theorem SOk.cover (S : SOk n f) (a : Nat → Nat) (h0 : a 0 < n ∧ Sh f n (a 0)) (hx : ∀ t, t < (shl f n).length → a t < n → Sh f n (a t) → a (t + 1) < n ∧ Nx f n (a t) (a (t + 1))) {j : Nat} (hj : j < n) (shj : Sh f n j) : ∃ t, t < (shl f n).length ∧ a t = j := by
  refine Classical.byContradiction fun hno => ?_
  have hne : ∀ t, t < (shl f n).length → a t ≠ j := fun t ht e => hno ⟨t, ht, e⟩
  have hA : ∀ t, t ≤ (shl f n).length → a t < n ∧ Sh f n (a t) := by
    intro t
    induction t with
    | zero => intro _; exact h0
    | succ t ih =>
      intro ht
      have p := ih (by omega)
      have q := hx t (by omega) p.1 p.2
      exact ⟨q.1, S.shNext p.1 p.2 q.1 q.2⟩
  have hm : 0 < (shl f n).length := List.length_pos_of_mem (mem_shl.2 ⟨hj, shj⟩)
  obtain ⟨T, hT⟩ : ∃ T, (shl f n).length = T + 1 := ⟨(shl f n).length - 1, by omega⟩
  have hB := S.bfAll hj shj a T (fun t ht => hA t (by omega)) (fun t ht => (hx t (by omega) (hA t (by omega)).1 (hA t (by omega)).2).2) (fun t ht => hne t (by omega))
  have hl := nodup_le (j :: (List.range (T + 1)).map a) (shl f n) (by
    refine List.nodup_cons.2 ⟨fun hm => ?_, ?_⟩
    · obtain ⟨t, ht, e⟩ := List.mem_map.1 hm
      exact hne t (by rw [hT]; exact List.mem_range.1 ht) e
    · refine List.Pairwise.map a (R := fun p q => p < q ∧ q < T + 1) ?_ ?_
      · intro p q hpq e
        have := hB q (by omega) p hpq.1
        rw [e] at this
        exact this.irr
      · refine List.Pairwise.imp_of_mem ?_ List.pairwise_lt_range
        intro p q hp hq hlt
        exact ⟨hlt, List.mem_range.1 hq⟩) (by
    intro x hx'
    rcases List.mem_cons.1 hx' with rfl | hm
    · exact mem_shl.2 ⟨hj, shj⟩
    · obtain ⟨t, ht, rfl⟩ := List.mem_map.1 hm
      have := hA t (by have := List.mem_range.1 ht; omega)
      exact mem_shl.2 this)
  simp only [List.length_cons, List.length_map, List.length_range] at hl
  omega
end Shape
end Go.Proofs.Ytealbihplfpgeaa
