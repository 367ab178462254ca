/-
  Shows, by the program: walked.
-/
import Derived.Test.YtealbihplfpgeaaKm
namespace Go.Proofs.Ytealbihplfpgeaa
open Go.RowKit Go.Shelf Go.Sort Go.Lib

theorem C3.keep {w0 w w' : World} {B : Nat} {t : TypeId} {e : Nat} {v : Value} {m : Nat} {l : List Int} {g c : Nat} {d : Array T3} (h : C3 w g c d) (s : Gat w0 w B t e v m l) (hg : w.grownBy w' v.ownBlock) (ht : 33 ≠ t) : C3 w' g c d := by
  obtain ⟨cur, h1, h2, h3⟩ := h
  exact ⟨cur, s.keep hg ht h1, h2, h3⟩
/-- The corners that Corners leaves. -/
def kept (f : Nat → Int) (l : List (Nat × Nat)) : Array T3 := (compactUpTo (d3 f l) (d3 f l).size).toArray
theorem kept_mem {f : Nat → Int} {l : List (Nat × Nat)} {j : Nat} (hj : j < (kept f l).size) : ∃ p ∈ l, (kept f l)[j]! = (gX f p, gY f p, gD f p) := by
  have h1 : (kept f l)[j]! ∈ compactUpTo (d3 f l) (d3 f l).size := by
    have h2 : (kept f l)[j]! ∈ kept f l := by rw [getElem!_pos _ j hj]; exact Array.getElem_mem hj
    exact List.mem_toArray.1 h2
  unfold compactUpTo at h1
  obtain ⟨i, hi, e⟩ := List.mem_map.1 h1
  have hi' : i < l.length := by
    have := (List.mem_filter.1 hi).1
    rw [d3_size] at this
    exact List.mem_range.1 this
  exact ⟨l[i], List.getElem_mem _, by rw [← e, d3_get f l hi']⟩
theorem kept_le (f : Nat → Int) (l : List (Nat × Nat)) : (kept f l).size ≤ l.length := by
  unfold kept compactUpTo
  have := List.length_filter_le (keeps (d3 f l)) (List.range (d3 f l).size)
  rw [d3_size] at this ⊢
  simpa using this
/-- How many corners lie on facet i. -/
def onC (f : Nat → Int) (l : List (Nat × Nat)) (i : Nat) : Nat := cntP (onT (f (i * 3)) (f (i * 3 + 1)) (f (i * 3 + 2)) (kept f l)) (kept f l).size
/-- More than one lies on it just where it shows. -/
def Counts (f : Nat → Int) (n : Nat) : Prop := ∀ l o, l.Perm (allP f n n) → o ∈ allP f n n → Seen f o l → ∀ i, i < n → (1 < onC f l i ↔ Sh f n i)
set_option maxRecDepth 100000 in
set_option maxHeartbeats 4000000 in
theorem implShows_yes {w : World} {g n c : Nat} {f : Nat → Int} (S : SOk n f) (CT : Counts f n) (h : Trips w g n f) (hc : n ≤ c) :
    Calls Try.prog 11 #[.slice (some ⟨g, 0, none⟩) n c] w fun e w' => ∃ v, e = .returned v ∧ Gat w w' w.heap.size 2 1 v (shl f n).length (toI (shl f n)) := by
  have hn := S.hi
  have hn' : (n : Int) ≤ 40 := by omega
  obtain ⟨i0, hi0, hz0, hz1, hz2⟩ := info_parts infoInt
  obtain ⟨V, hV, A0, B, -⟩ := boxed w 2 #[]
  have R : Gat w V w.heap.size 2 1 (.slice (some ⟨w.heap.size, 0, none⟩) 0 0) 0 [] := Gat.start A0 B
  have hbs : ∀ w, (Instr.buildSlice 27 0 #[]).run Try.prog w = .ok (.slice (some ⟨w.heap.size, 0, none⟩) 0 0) (w.alloc (.cells #[] 2)) := fun _ => by kernel_rfl
  go_enter Try.func11, Try.ntmps11
  go_wp2_with fail
  refine (implCorners_yes S (h.below B) hc).mono ?_
  rintro e w1 ⟨l0, o, gk, ck, hp, ho, hs, -, rfl, CK, b1, -, -⟩
  replace R := R.below b1
  have CI := CT l0 o hp ho hs
  have hK := kept_le f l0
  have hl0 : l0.length ≤ 1600 := by
    have h1 := allP_le (f := f) (n := n) n
    have h2 := Nat.mul_le_mul hn hn
    have := hp.length_eq
    omega
  have bK : ∀ j, j < (kept f l0).size → (-100000 ≤ (kept f l0)[j]!.1 ∧ (kept f l0)[j]!.1 ≤ 100000) ∧ (-100000 ≤ (kept f l0)[j]!.2.1 ∧ (kept f l0)[j]!.2.1 ≤ 100000) ∧ (-5000 ≤ (kept f l0)[j]!.2.2 ∧ (kept f l0)[j]!.2.2 ≤ 5000) := fun j hj => by
    obtain ⟨p, hpm, e⟩ := kept_mem hj
    have q := mem_allP.1 (hp.mem_iff.1 hpm)
    rw [e]
    exact S.c_in q.1 q.2.1 q.2.2.1
  replace CK : C3 w1 gk ck (kept f l0) := CK
  rw [show (compactUpTo (d3 f l0) (d3 f l0).size).length = (kept f l0).size from rfl]
  unfold onC at CI
  obtain ⟨K, hKK⟩ : ∃ K, kept f l0 = K := ⟨_, rfl⟩
  rw [hKK] at CI hK bK CK ⊢
  have hK2 : K.size ≤ 1600 := by omega
  clear hKK hp ho hs CT hV A0 B b1 hK hl0
  go_wp2
  go_loopw [3, 12] (fun s t wr => ∃ (k m : Nat) (l : List Nat), k ≤ n ∧ shTo f n k = l ∧ l.length = m ∧ m ≤ k ∧ t = .int .i64 (k : Int) ∧ Gat w wr w.heap.size 2 1 s m (toI l) ∧ C3 wr gk ck K) (fun _ t _ => n - (intOf t).toNat)
  case atStart => exact ⟨0, 0, [], Nat.zero_le _, rfl, rfl, Nat.le_refl _, rfl, R, CK⟩
  case round =>
    clear R CK
    obtain ⟨k, m, l, hk', hl, hm, hmk, rfl, R, CK⟩ := hrel
    by_cases hk : k < n
    · have hklt : (k : Int) < (n : Int) := by omega
      have L := h.below R.b
      have lg := L.1
      have bf := Rt.in (S.right k hk)
      have c0 := L.2 (k * 3) (by omega)
      have c1 := L.2 (k * 3 + 1) (by omega)
      have c2 := L.2 (k * 3 + 2) (by omega)
      have CO := fun w (hC : C3 w gk ck K) => countOn_any (f (k * 3)) (f (k * 3 + 1)) (f (k * 3 + 2)) hC hK2 bf.1 bf.2.1 (by omega) bK
      have ci := CI k hk
      obtain ⟨z, hz⟩ : ∃ z, cntP (onT (f (k * 3)) (f (k * 3 + 1)) (f (k * 3 + 2)) K) K.size = z := ⟨_, rfl⟩
      rw [hz] at CO ci
      have hzl : z ≤ 1600 := by rw [← hz]; exact Nat.le_trans (cntP_le _ _) hK2
      clear hz bf L
      obtain ⟨x0, e0⟩ : ∃ z, f (k * 3) = z := ⟨_, rfl⟩
      obtain ⟨x1, e1⟩ : ∃ z, f (k * 3 + 1) = z := ⟨_, rfl⟩
      obtain ⟨x2, e2⟩ : ∃ z, f (k * 3 + 2) = z := ⟨_, rfl⟩
      rw [e0] at c0 CO
      rw [e1] at c1 CO
      rw [e2] at c2 CO
      clear e0 e1 e2
      obtain ⟨V0, hV0, Q0, q2, s0⟩ := boxed wr 35 #[.int .i64 0, .int .i64 0, .int .i64 0]
      obtain ⟨z0, z1, z2, z3, z4, z5⟩ := Q0.open3
      obtain ⟨V, hV⟩ : ∃ V, ((V0.setCell ⟨wr.heap.size, 0, none⟩ (.int .i64 x0)).setCell ⟨wr.heap.size, 1, none⟩ (.int .i64 x1)).setCell ⟨wr.heap.size, 2, none⟩ (.int .i64 x2) = V := ⟨_, rfl⟩
      have A1 : At 35 V wr.heap.size #[.int .i64 x0, .int .i64 x1, .int .i64 x2] := by rw [← hV]; exact put3c Q0 _ _ _
      have B2 : Below wr.heap.size wr V := by rw [← hV]; exact below_put3c q2 (Nat.le_refl _) _ _ _
      replace R := R.below B2
      replace CK := CK.below B2
      obtain ⟨r0, r1, r2, -⟩ := A1.open3
      have CO' := CO V CK
      clear Q0 q2 s0 CO B2 A1
      by_cases hsh : Sh f n k
      · have H := shTo_yes hsh
        rw [hl] at H
        have hzz : (1 : Int) < (z : Int) := by have := ci.2 hsh; omega
        clear ci hl hsh
        go_wp2_with fail
        refine CO'.mono ?_
        rintro e w2 ⟨rfl, b2⟩
        replace R := R.below b2
        replace CK := CK.below b2
        clear b2 hV0 hV z0 z1 z2 z3 z4 z5 r0 r1 r2 c0 c1 c2 CO'
        obtain ⟨V9, hV9, A9, b10, -⟩ := boxed w2 2 #[.int .i64 (k : Int)]
        have R9 := R.below b10
        have CK9 := CK.below b10
        obtain ⟨g9, hg9⟩ : ∃ g, w2.heap.size = g := ⟨_, rfl⟩
        rw [hg9] at A9
        have hb2 : ∀ w, (Instr.buildSlice 27 1 #[(0, .int .i64 (k : Int))]).run Try.prog w = .ok (.slice (some ⟨w.heap.size, 0, none⟩) 1 1) (w.alloc (.cells #[.int .i64 (k : Int)] 2)) := fun _ => by kernel_rfl
        clear b10
        go_wp2_with (at_builtin; refine wpList_append_own _ rfl _ _ _ rfl w.heap.size 2 i0 _ 1 8 Try.underlying27 hi0 hz0 hz1 hz2 rfl (by omega) u3 m (lCells (toI l)) rfl R9.own ⟨g9, 0, none⟩ 1 1 (lCells [(k : Int)]) rfl rfl (news1 A9) (lCells_one _) (by unfold maxLen; omega) (by omega) R9.o3 ?_; intro v2 w3 hown2 hgrow2 hne2)
        have R2 := R9.grow hown2 hgrow2 (fun h => R9.nn (hne2.1 h).1)
        refine ⟨⟨k + 1, m + 1, l ++ [k], by omega, H, by simp [hm], by omega, by go_num, ?_, CK9.keep R9 hgrow2 (by decide)⟩, by simp [intOf]; omega⟩
        simpa [toI] using R2
      · have H := shTo_no hsh
        rw [hl] at H
        have hzz : ¬ (1 : Int) < (z : Int) := fun h => hsh (ci.1 (by omega))
        clear ci hl hsh
        go_wp2_with fail
        refine CO'.mono ?_
        rintro e w2 ⟨rfl, b2⟩
        replace R := R.below b2
        replace CK := CK.below b2
        clear b2 hV0 hV z0 z1 z2 z3 z4 z5 r0 r1 r2 c0 c1 c2 CO'
        go_wp2
        exact ⟨⟨k + 1, m, l, by omega, H, hm, by omega, by go_num, R, CK⟩, by simp [intOf]; omega⟩
    · have hklt : ¬ (k : Int) < (n : Int) := by omega
      obtain rfl : k = n := by omega
      go_wp2
      refine bodyPost_ret (v := u3) (by simp [results, Try.results11, go_sem]) rfl ⟨_, rfl, ?_⟩
      rw [show shl f k = l from hl, hm]
      exact R
end Go.Proofs.Ytealbihplfpgeaa
