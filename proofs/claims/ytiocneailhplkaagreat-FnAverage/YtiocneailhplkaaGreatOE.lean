/-
  An average's average, and its sum. No function of the program.
-/
import Derived.Test.YtiocneailhplkaaGreatAv1
import Derived.Test.YtiocneailhplkaaGreatOD
import Derived.Test.YtiocneailhplkaaGreatNN
import Derived.Test.YtiocneailhplkaaGreatNL
import Derived.Test.YtiocneailhplkaaGreatAv4
import Derived.Test.YtiocneailhplkaaGreatAv5
namespace Go.Proofs.YtiocneailhplkaaGreat
open Go.RowKit

theorem perm_sum {l l' : List Int} (h : l.Perm l') : l.sum = l'.sum := by
  induction h with
  | nil => rfl
  | cons x _ ih => simp [ih]
  | swap x y l => simp only [List.sum_cons]; omega
  | trans _ _ h1 h2 => exact h1.trans h2
/-- The sum of the first m numbers. -/
def sK (g : Nat → Int) (m : Nat) : Int := ((List.range m).map g).sum
theorem sK_next (g : Nat → Int) (m : Nat) : sK g (m + 1) = sK g m + g m := by
  unfold sK
  rw [List.range_succ, List.map_append, List.sum_append]
  simp
theorem sK_zero (g : Nat → Int) : sK g 0 = 0 := rfl
theorem sK_congr {g h : Nat → Int} : ∀ {m : Nat}, (∀ i, i < m → g i = h i) → sK g m = sK h m
  | 0, _ => rfl
  | m + 1, e => by rw [sK_next, sK_next, sK_congr (m := m) (fun i hi => e i (by omega)), e m (by omega)]
theorem sK_const (c : Int) : ∀ m : Nat, sK (fun _ => c) m = m * c
  | 0 => by simp [sK_zero]
  | m + 1 => by
    rw [sK_next, sK_const c m]
    have : ((m + 1 : Nat) : Int) * c = m * c + c := by rw [Int.natCast_add, Int.add_mul]; simp
    omega
theorem sK_add (g h : Nat → Int) : ∀ m : Nat, sK (fun i => g i + h i) m = sK g m + sK h m
  | 0 => rfl
  | m + 1 => by rw [sK_next, sK_next, sK_next, sK_add g h m]; omega
theorem sK_mul (g : Nat → Int) (c : Int) : ∀ m : Nat, sK (fun i => g i * c) m = sK g m * c
  | 0 => by simp [sK_zero]
  | m + 1 => by rw [sK_next, sK_next, sK_mul g c m, Int.add_mul]
theorem sK_swap (F : Nat → Nat → Int) (n : Nat) : ∀ m : Nat, sK (fun k => sK (fun i => F k i) n) m = sK (fun i => sK (fun k => F k i) m) n
  | 0 => by
    rw [sK_zero]
    have h := sK_const 0 n
    simp only [Int.mul_zero] at h
    exact h.symm
  | m + 1 => by
    rw [sK_next, sK_swap F n m, ← sK_add]
    exact sK_congr fun i _ => (sK_next (fun k => F k i) m).symm
theorem sK_mod (g : Nat → Int) : ∀ m : Nat, (sK (fun i => g i % 12289) m - sK g m) % 12289 = 0
  | 0 => rfl
  | m + 1 => by
    have ih := sK_mod g m
    rw [sK_next, sK_next]
    omega
theorem sK_perm {m : Nat} {s : Nat → Nat} (g : Nat → Int) (h1 : ∀ i, i < m → s i < m) (h2 : ∀ i j, i < m → j < m → s i = s j → i = j) : sK (fun i => g (s i)) m = sK g m := by
  have h := (inj_perm h1 h2).map g
  rw [List.map_map] at h
  exact perm_sum h
theorem goq_pn {N : Int} {n len : Nat} {A : Nat → OpD} (hN : side N) (hg : goodN N n len A) {k i : Nat} (hk : k < len) (hi : i < n) : pnN N (nmN N (goN N A k i)).toNat = goN N A k i := pn_nm hN (aK_in _ _) (hg k hk i hi)
theorem n_pos {n : Nat} {A : Nat → OpD} (hG : isG n A) : 0 < n ∧ n < 193 := by
  obtain ⟨i, hi, -⟩ := hG.one
  have := hG.1
  omega
/-- Where operator i takes place k, as a place. -/
theorem goq_lt {N : Int} {len : Nat} (hN : side N) (hl : (len : Int) = N * N * N) (A : Nat → OpD) (k i : Nat) : (nmN N (goN N A k i)).toNat < len := by
  have := nmN_lt hN (p := goN N A k i) (aK_in _ _)
  omega
theorem avL_orbit {N : Int} {n len : Nat} {A : Nat → OpD} {f : Nat → Int} (hN : side N) (hG : isG n A) (hg : goodN N n len A) {k i : Nat} (hk : k < len) (hi : i < n) : avL N A f (nmN N (goN N A k i)).toNat (List.range n) = avL N A f k (List.range n) := by
  have e : ∀ j, j < n → goN N A (nmN N (goN N A k i)).toNat j = goN N A k (mulI n A j i) := fun j hj => by
    have h1 : goN N A (nmN N (goN N A k i)).toNat j = aK (A j).key (pnN N (nmN N (goN N A k i)).toNat) := rfl
    rw [h1, goq_pn hN hg hk hi]
    exact (mulI_aK hG hj hi (pnN N k)).symm
  have h2 : sK (fun j => f (nmN N (goN N A (nmN N (goN N A k i)).toNat j)).toNat) n = sK (fun j => f (nmN N (goN N A k (mulI n A j i))).toNat) n := sK_congr fun j hj => by rw [e j hj]
  have h3 := sK_perm (m := n) (s := fun j => mulI n A j i) (fun j => f (nmN N (goN N A k j)).toNat) (fun j hj => (mulI_at hG hj hi).1) (fun j j' hj hj' e => mulI_right hG hi hj hj' e)
  exact h2.trans h3
theorem avF_orbit {N : Int} {n len : Nat} {A : Nat → OpD} {f : Nat → Int} (hN : side N) (hG : isG n A) (hg : goodN N n len A) {k i : Nat} (hk : k < len) (hi : i < n) : avF N n A f (nmN N (goN N A k i)).toNat = avF N n A f k := by
  unfold avF
  rw [avL_orbit hN hG hg hk hi]
/-- The average of an average is that average. -/
theorem avF_again {N : Int} {n len : Nat} {A : Nat → OpD} {f : Nat → Int} (hN : side N) (hG : isG n A) (hg : goodN N n len A) {k : Nat} (hk : k < len) : avF N n A (avF N n A f) k = avF N n A f k := by
  have hb := avF_lt N n A f k
  have e : avL N A (avF N n A f) k (List.range n) = n * avF N n A f k := by
    have h1 : sK (fun i => avF N n A f (nmN N (goN N A k i)).toNat) n = sK (fun _ => avF N n A f k) n := sK_congr fun i hi => avF_orbit hN hG hg hk hi
    rw [sK_const] at h1
    exact h1
  have hi := shN_inv n (n_pos hG).2 (by have := (n_pos hG).1; omega)
  have h2 : avF N n A (avF N n A f) k = (n : Int) * avF N n A f k * shN n % 12289 := by
    rw [← e]
    rfl
  rw [h2, Int.mul_right_comm, Int.mul_emod, hi, Int.one_mul, Int.emod_emod]
  omega
/-- All numbers of an average together are what all numbers were, by residues. -/
theorem avF_sum {N : Int} {n len : Nat} {A : Nat → OpD} {f : Nat → Int} (hN : side N) (hl : (len : Int) = N * N * N) (hG : isG n A) (hg : goodN N n len A) : (sK f len - sK (avF N n A f) len) % 12289 = 0 := by
  have hq : ∀ i, i < n → sK (fun k => f (nmN N (goN N A k i)).toNat) len = sK f len := fun i hi =>
    sK_perm (m := len) (s := fun k => (nmN N (goN N A k i)).toNat) f (fun k _ => goq_lt hN hl A k i) (fun k k' hk hk' e => by
      have h1 := goq_pn hN hg hk hi
      have h2 := goq_pn hN hg hk' hi
      have e' : (nmN N (goN N A k i)).toNat = (nmN N (goN N A k' i)).toNat := e
      rw [e'] at h1
      have h3 : goN N A k i = goN N A k' i := h1.symm.trans h2
      have h4 := aK_inj (key_R (hG.2.1 i hi)) (pnN_in hN (by omega)) (pnN_in hN (by omega)) h3
      have h5 := (nm_pn hN (k := k) (by omega)).2
      have h6 := (nm_pn hN (k := k') (by omega)).2
      rw [h4] at h5
      omega)
  have h1 : sK (fun k => avL N A f k (List.range n)) len = n * sK f len := by
    have h2 := sK_swap (fun k i => f (nmN N (goN N A k i)).toNat) n len
    have h3 : sK (fun i => sK (fun k => f (nmN N (goN N A k i)).toNat) len) n = sK (fun _ => sK f len) n := sK_congr hq
    rw [sK_const] at h3
    exact h2.trans h3
  have h4 := sK_mod (fun k => avL N A f k (List.range n) * shN n) len
  have h5 := sK_mul (fun k => avL N A f k (List.range n)) (shN n) len
  rw [h1] at h5
  have hi := shN_inv n (n_pos hG).2 (by have := (n_pos hG).1; omega)
  have h6 : ((n : Int) * sK f len * shN n - sK f len) % 12289 = 0 := by
    have h7 : (n : Int) * sK f len * shN n % 12289 = sK f len % 12289 := by rw [Int.mul_right_comm, Int.mul_emod, hi, Int.one_mul, Int.emod_emod]
    omega
  have h8 : sK (fun i => avL N A f i (List.range n) * shN n % 12289) len = sK (avF N n A f) len := rfl
  rw [h8, h5] at h4
  omega
/-- A residue with its sign. -/
theorem tmod_is (x : Int) : Int.tmod x 12289 = (if 0 ≤ x then x % 12289 else -((-x) % 12289)) := by
  split
  · rename_i h
    exact Int.tmod_eq_emod_of_nonneg h
  · rename_i h
    have h1 : Int.tmod (-(-x)) 12289 = -(Int.tmod (-x) 12289) := Int.neg_tmod (-x) 12289
    rw [Int.neg_neg] at h1
    rw [h1, Int.tmod_eq_emod_of_nonneg (by omega)]
end Go.Proofs.YtiocneailhplkaaGreat
/-
  A map copied, maps held equal, and an average's inputs drawn: walked.
-/
namespace Go.Proofs.YtiocneailhplkaaGreat
open Go.RowKit

theorem arr_no {w : World} {lo hi p n : Nat} {v : Value} {f : Nat → Int} (h : Arr w lo hi v n f) (hp : p < lo) : ∀ k, v.ownBlock = some k → k ≠ p := by
  rcases h with ⟨rfl, -⟩ | ⟨g, c, rfl, h1, -⟩
  · intro k e; cases e
  · intro k e
    obtain rfl : g = k := Option.some.inj e
    omega
theorem nil2_atM {t : TypeId} {w : World} {q : Nat} {u0 u1 : Value} (h : At t w q #[u0, u1]) (v0 v1 : Value) : At t ((w.setCell ⟨q, 0, none⟩ v0).setCell ⟨q, 1, none⟩ v1) q #[v0, v1] := by
  simpa using (h.set 0 v0).set 1 v1
set_option maxRecDepth 100000 in
set_option maxHeartbeats 3000000 in
theorem copyMap_any {w : World} {N : Int} {gf cf len : Nat} {f : Nat → Int} (hI : Ints w gf 0 len f) (hg : gf < w.heap.size) (hn : len ≤ 1048576) :
    Calls Tryz.prog 9 #[.agg #[.int .i64 N, .slice (some ⟨gf, 0, none⟩) len cf]] w fun e w' => ∃ g6 c6, e = .returned (.agg #[.int .i64 N, .slice (some ⟨g6, 0, none⟩) len c6]) ∧ w.heap.size ≤ g6 ∧ (len ≤ c6 ∧ c6 ≤ maxLen) ∧ Made w' g6 c6 len f ∧ Below w.heap.size w w' := by
  obtain ⟨q1, hq1⟩ : ∃ q, w.heap.size = q := ⟨_, rfl⟩
  obtain ⟨W1, hW1, a1, b1, -⟩ := boxed w 26 #[.int .i64 N, .slice (some ⟨gf, 0, none⟩) len cf]
  rw [hq1] at a1
  obtain ⟨q2, hq2⟩ : ∃ q, W1.heap.size = q := ⟨_, rfl⟩
  obtain ⟨W2, hW2, a2, b2, -⟩ := boxed W1 26 #[.int .i64 0, .slice none 0 0]
  rw [hq2] at a2
  have l12 : q1 < q2 := by have := a1.lt; omega
  have hgW : gf < W1.heap.size := Nat.lt_of_lt_of_le hg b1.size
  replace hI := (hI.below hg b1).below hgW b2
  replace hg := Nat.lt_of_lt_of_le hgW b2.size
  replace a1 := a1.below b2
  have BB : Below w.heap.size w W2 := b1.trans (b2.mono b1.size)
  have hws : w.heap.size ≤ q2 := by omega
  clear b1 b2 hgW
  go_enter Tryz.func9, Tryz.ntmps9
  go_wp2_with fail
  clear hW1 hW2 hq1 hq2
  obtain ⟨u0, hu0, bb⟩ : ∃ uu, W2.drew = uu ∧ Below W2.heap.size W2 uu := ⟨_, rfl, (Below.refl _ _).drew⟩
  have A1u := a1.below bb
  have A2u := a2.below bb
  have A2l := A2u.lt
  have IMu := hI.below hg bb
  have hlu := Nat.lt_of_lt_of_le hg bb.size
  have bu := BB.trans (bb.mono BB.size)
  clear a1 a2 hI hg BB
  clear bb
  refine wp_region_held_drew (S := fun w' => At 26 w' q1 #[.int .i64 N, .slice (some ⟨gf, 0, none⟩) len cf]) (by kernel_rfl) (by rw [hu0]; exact A1u) (fun hHeld => ?_)
  rw [hu0] at hHeld ⊢
  clear hu0
  change wpAnyH _ _ _ _ _ 7 #[false, false, false, false, false, false, false] _ _
  refine wpAnyH_take (i := 0) (v := .pointer (some ⟨q1, 0, none⟩)) rfl (by kernel_rfl) (by kernel_rfl) (by kernel_rfl) (fun _ _ _ h => h) (Or.inl ⟨by kernel_rfl, ?_⟩) hHeld ?_
  · intro w' hSw; go_simp
  try simp only [Act.put, List.setIfInBounds_toArray, List.set_cons_zero, List.set_cons_succ, List.getElem_toArray, List.getElem_cons_zero]
  refine wpAnyH_take (i := 1) (v := .int .i64 (N)) rfl (by kernel_rfl) (by kernel_rfl) (by kernel_rfl) (fun _ _ _ h => h) (Or.inl ⟨by kernel_rfl, ?_⟩) hHeld ?_
  · intro w' hSw; obtain ⟨z0, z1, -⟩ := At.open2 hSw; go_simp
  try simp only [Act.put, List.setIfInBounds_toArray, List.set_cons_zero, List.set_cons_succ, List.getElem_toArray, List.getElem_cons_succ, List.getElem_cons_zero]
  refine wpAnyH_take (i := 2) (v := .pointer (some ⟨q1, 1, none⟩)) rfl (by kernel_rfl) (by kernel_rfl) (by kernel_rfl) (fun _ _ _ h => h) (Or.inl ⟨by kernel_rfl, ?_⟩) hHeld ?_
  · intro w' hSw; go_simp
  try simp only [Act.put, List.setIfInBounds_toArray, List.set_cons_zero, List.set_cons_succ, List.getElem_toArray, List.getElem_cons_succ, List.getElem_cons_zero]
  refine wpAnyH_take (i := 3) (v := .slice ((some ⟨gf, 0, none⟩)) len cf) rfl (by kernel_rfl) (by kernel_rfl) (by kernel_rfl) (fun _ _ _ h => h) (Or.inl ⟨by kernel_rfl, ?_⟩) hHeld ?_
  · intro w' hSw; obtain ⟨z0, z1, -⟩ := At.open2 hSw; go_simp
  try simp only [Act.put, List.setIfInBounds_toArray, List.set_cons_zero, List.set_cons_succ, List.getElem_toArray, List.getElem_cons_succ, List.getElem_cons_zero]
  refine wpAnyH_ready (rs := [4]) (by kernel_rfl) (by simp) ?_
  refine AllReadyH.cons rfl (fun KK hK' => ?_) AllReadyH.nil
  go_simp
  refine (ints_any IMu hlu hn).mono ?_
  rintro e u1 ⟨g6, c6, rfl, lg6, hc6, M6, bb⟩
  replace A1u := A1u.below bb
  replace A2u := A2u.below bb
  have hg6 : w.heap.size ≤ g6 := by have := bu.size; omega
  have h26 : q2 ≠ g6 := by have := A2l; omega
  replace bu := bu.trans (bb.mono bu.size)
  clear bb IMu hlu
  try go_wp2_with fail
  clear hHeld
  refine hK'.out _ _ (A1u) (fun hHeld => ?_)
  clear hK' KK
  try simp only [List.setIfInBounds_toArray, List.set_cons_zero, List.set_cons_succ]
  refine wpAnyH_take (i := 5) (v := .agg #[.int .i64 N, .slice (some ⟨g6, 0, none⟩) len c6]) rfl (by kernel_rfl) (by kernel_rfl) (by kernel_rfl) (fun _ _ _ h => h) (Or.inl ⟨by kernel_rfl, ?_⟩) hHeld ?_
  · intro w' hSw; go_simp
  try simp only [Act.put, List.setIfInBounds_toArray, List.set_cons_zero, List.set_cons_succ, List.getElem_toArray, List.getElem_cons_succ, List.getElem_cons_zero]
  refine wpAnyH_ready (rs := [6]) (by kernel_rfl) (by simp) ?_
  refine AllReadyH.cons rfl (fun KK hK' => ?_) AllReadyH.nil
  obtain ⟨d0, d1, f0, f1⟩ := A2u.open2
  go_simp
  have a8 := nil2_atM A2u (.int .i64 N) (.slice (some ⟨g6, 0, none⟩) len c6)
  replace A1u := (A1u.setOther (p := q2) (i := 0) (by omega) (.int .i64 N)).setOther (p := q2) (i := 1) (by omega) (.slice (some ⟨g6, 0, none⟩) len c6)
  have M8 := (M6.setOther (q := q2) (i := 0) (by omega) (.int .i64 N)).setOther (q := q2) (i := 1) (by omega) (.slice (some ⟨g6, 0, none⟩) len c6)
  have B8 := (bu.setCell (p := ⟨q2, 0, none⟩) hws (.int .i64 N)).setCell (p := ⟨q2, 1, none⟩) hws (.slice (some ⟨g6, 0, none⟩) len c6)
  clear d0 d1 f0 f1
  clear hHeld
  refine hK'.out _ _ (A1u) (fun hHeld => ?_)
  clear hK' KK
  try simp only [List.setIfInBounds_toArray, List.set_cons_zero, List.set_cons_succ]
  refine wpAnyH_done (by kernel_rfl) ?_ _
  clear hHeld
  go_wp2
  obtain ⟨p0, p1, -⟩ := a8.open2
  exact bodyPost_ret (v := .agg #[.int .i64 N, .slice (some ⟨g6, 0, none⟩) len c6]) (by simp [results, Tryz.results9, go_sem, p0, p1]) rfl ⟨g6, c6, rfl, hg6, hc6, M8, B8⟩
theorem sameMap_true {w : World} {N : Int} {g1 g2 c1 c2 len : Nat} {f h : Nat → Int} (h1 : Ints w g1 0 len f) (l1 : g1 < w.heap.size) (h2 : Ints w g2 0 len h) (l2 : g2 < w.heap.size) (hfh : ∀ i, i < len → f i = h i) (hn : len ≤ 1048576) :
    Calls Tryz.prog 11 #[.agg #[.int .i64 N, .slice (some ⟨g1, 0, none⟩) len c1], .agg #[.int .i64 N, .slice (some ⟨g2, 0, none⟩) len c2]] w fun e w' => e = .returned (.bool true) ∧ Below w.heap.size w w' := by
  obtain ⟨W1, hW1, x1, bW1, -⟩ := boxed w 26 #[.int .i64 N, .slice (some ⟨g1, 0, none⟩) len c1]
  obtain ⟨W2, hW2, x2, bW2, -⟩ := boxed W1 26 #[.int .i64 N, .slice (some ⟨g2, 0, none⟩) len c2]
  have l1' : g1 < W1.heap.size := Nat.lt_of_lt_of_le l1 bW1.size
  have l2' : g2 < W1.heap.size := Nat.lt_of_lt_of_le l2 bW1.size
  replace x1 := x1.below bW2
  have s1 : Src W2 (some ⟨g1, 0, none⟩) len f := .inr ⟨g1, 0, rfl, Nat.lt_of_lt_of_le l1' bW2.size, (h1.below l1 bW1).below l1' bW2⟩
  have s2 : Src W2 (some ⟨g2, 0, none⟩) len h := .inr ⟨g2, 0, rfl, Nat.lt_of_lt_of_le l2' bW2.size, (h2.below l2 bW1).below l2' bW2⟩
  replace bW1 := bW1.trans (bW2.mono bW1.size)
  have CA := sameInts_true (c1 := c1) (c2 := c2) s1 s2 hfh hn
  clear h1 h2 l1 l2 l1' l2' s1 s2 bW2
  obtain ⟨e0, e1, -⟩ := x1.open2
  obtain ⟨e2, e3, -⟩ := x2.open2
  go_enter Tryz.func11, Tryz.ntmps11
  go_wp2_with fail
  refine CA.mono ?_
  rintro e w3 ⟨rfl, b3⟩
  go_wp2
  go_ret
  exact ⟨rfl, bW1.trans (b3.mono bW1.size)⟩
/-- A map and a group handed out. -/
def GivA (w : World) (e : Ending) (w' : World) : Prop :=
  ∃ (N : Int) (s : Option Addr) (L C : Nat) (F : Nat → Int) (g n c : Nat) (A : Nat → OpD), e = .returned (.tuple #[.agg #[.int .i64 N, .slice s L C], .slice (some ⟨g, 0, none⟩) n c]) ∧ (-9223372036854775808 ≤ N ∧ N ≤ 9223372036854775807) ∧ L ≤ 2000 ∧ Arr w' w.heap.size w'.heap.size (.slice s L C) L F ∧ n ≤ 193 ∧ OpsL w' g n A ∧ Below w.heap.size w w'
set_option maxRecDepth 100000 in
set_option maxHeartbeats 3000000 in
theorem drawAverage_any {w : World} {a : Option Addr} {len cap : Nat} (hr : Row w w.heap.size a len) :
    Calls Tryz.prog 6 #[.slice a len cap] w (GivA w) := by
  obtain ⟨V, hV, b3, bb, -⟩ := boxed w 26 #[.int .i64 0, .slice none 0 0]
  obtain ⟨q3, hq3⟩ : ∃ q, w.heap.size = q := ⟨_, rfl⟩
  have HQ : Hid (w.heap.size = q3) := hq3
  have HBB : Hid (Below w.heap.size w V) := bb
  rw [hq3] at b3
  have hr2 : Row V V.heap.size a len := hr.wide bb (Nat.le_refl _) bb.size
  clear hr bb
  go_enter Tryz.func6, Tryz.ntmps6
  go_wp2_with fail
  refine (new_any hr2).mono ?_
  rintro e w2 ⟨rfl, b2, hc⟩
  have hlt := b3.lt
  replace b3 := b3.below b2
  have HB2 : Hid (Below w.heap.size w w2) := HBB.out.trans (b2.mono HBB.out.size)
  obtain ⟨p, hp⟩ : ∃ q, V.heap.size = q := ⟨_, rfl⟩
  have HPP : Hid (w.heap.size ≤ p) := hp ▸ HBB.out.size
  rw [hp] at hc hlt ⊢
  have hpl : p < w2.heap.size := hc.lt
  have n3 : q3 ≠ p := by omega
  clear hr2 b2 hV hq3 hp HBB
  go_wp2_with fail
  refine (below_dr (Dr.start hc) 4 (by omega) (by omega)).mono ?_
  rintro e w3 ⟨x, rfl, x0, x1, hd3⟩
  replace b3 := b3.kept hd3.1 n3
  have HB3 : Hid (Below w.heap.size w w3) := HB2.out.trans (hd3.1.below (N := w.heap.size) HPP.out HB2.out.size)
  have hpl3 : p < w3.heap.size := Nat.lt_of_lt_of_le hpl hd3.1.size
  have hq33 : q3 < w3.heap.size := by omega
  obtain ⟨y, hy⟩ : ∃ y, Int.tdiv x 3 = y := ⟨_, rfl⟩
  have hy1 : 0 ≤ y ∧ y ≤ 1 := by
    rw [Int.tdiv_eq_ediv_of_nonneg x0] at hy
    omega
  have e1 : IntKind.i64.wrap y = y := IntWalk.i64_in _ (by omega)
  have e2 : IntKind.i64.wrap (y * 2) = y * 2 := IntWalk.i64_in _ (by omega)
  have e3 : IntKind.i64.wrap (8 - y * 2) = 8 - y * 2 := IntWalk.i64_in _ (by omega)
  have hc3 := hd3.2
  clear hc HB2 hd3
  go_wp2_with fail
  refine (drawMAny_dr (8 - y * 2) (by omega) hc3).mono ?_
  rintro e w4 ⟨N, s, L, C, F, rfl, hNb, hL, AR, hd4⟩
  replace b3 := b3.kept hd4.1 n3
  have HB4 : Hid (Below w.heap.size w w4) := HB3.out.trans (hd4.1.below (N := w.heap.size) HPP.out HB3.out.size)
  have hs4 : w3.heap.size ≤ w4.heap.size := hd4.1.size
  have hc4 := hd4.2
  clear hc3 HB3 hd4 e1 e2 e3 hy hy1 x0 x1
  obtain ⟨q5, hq5⟩ : ∃ q, w4.heap.size = q := ⟨_, rfl⟩
  obtain ⟨V5, hV5, a5, b5, -⟩ := boxed w4 26 #[.int .i64 N, .slice s L C]
  rw [hq5] at a5
  have n5 : q5 ≠ p := by omega
  have n35 : q3 ≠ q5 := by omega
  have hwp : p < w3.heap.size := hpl3
  replace b3 := b3.below b5
  have HB5 : Hid (Below w.heap.size w V5) := HB4.out.trans (b5.mono HB4.out.size)
  have hAR := hid_of ((AR.below b5).wide (Nat.le_refl _) b5.size)
  have hc5 := hc4.kept b5
  have hNB := hid_of hNb
  have hs5 : w4.heap.size ≤ V5.heap.size := b5.size
  clear AR b5 HB4 hc4 hNb
  go_wp2_with fail
  clear hV5 hq5
  obtain ⟨u0, hu0, bb⟩ : ∃ uu, V5.drew = uu ∧ Below V5.heap.size V5 uu := ⟨_, rfl, (Below.refl _ _).drew⟩
  have A5u := a5.below bb
  have B3u := b3.below bb
  have ARu := (hAR.out.below bb).wide (Nat.le_refl _) bb.size
  have hcu := hc5.kept bb
  have HBu : Hid (Below w.heap.size w u0) := HB5.out.trans (bb.mono HB5.out.size)
  have hq3u : q3 < u0.heap.size := by have := bb.size; omega
  clear a5 b3 hAR hc5
  clear bb
  refine wp_region_held_drew (S := fun w' => At 26 w' q5 #[.int .i64 N, .slice s L C]) (by kernel_rfl) (by rw [hu0]; exact A5u) (fun hHeld => ?_)
  rw [hu0] at hHeld ⊢
  clear hu0
  change wpAnyH _ _ _ _ _ 5 #[false, false, false, false, false] _ _
  refine wpAnyH_take (i := 0) (v := .agg #[.int .i64 N, .slice s L C]) rfl (by kernel_rfl) (by kernel_rfl) (by kernel_rfl) (fun _ _ _ h => h) (Or.inl ⟨by kernel_rfl, ?_⟩) hHeld ?_
  · intro w' hSw; obtain ⟨z0, z1, -⟩ := At.open2 hSw; go_simp
  try simp only [Act.put, List.setIfInBounds_toArray, List.set_cons_zero, List.set_cons_succ, List.getElem_toArray, List.getElem_cons_zero]
  refine wpAnyH_take (i := 1) (v := .pointer (some ⟨p, 0, none⟩)) rfl (by kernel_rfl) (by kernel_rfl) (by kernel_rfl) (fun _ _ _ h => h) (Or.inl ⟨by kernel_rfl, ?_⟩) hHeld ?_
  · intro w' hSw; go_simp
  try simp only [Act.put, List.setIfInBounds_toArray, List.set_cons_zero, List.set_cons_succ, List.getElem_toArray, List.getElem_cons_succ, List.getElem_cons_zero]
  refine wpAnyH_ready (rs := [2]) (by kernel_rfl) (by simp) ?_
  refine AllReadyH.cons rfl (fun KK hK' => ?_) AllReadyH.nil
  go_simp
  refine (draw4Any_dr hcu).mono ?_
  rintro e u1 ⟨g, n, c, A, rfl, hn, hO4, hd6, hK6, -⟩
  replace A5u := A5u.kept hd6.1 n5
  replace B3u := B3u.kept hd6.1 n3
  have AR6 := hid_of (arr_keep ARu hd6.1 (arr_no ARu hwp))
  replace HBu : Hid (Below w.heap.size w u1) := HBu.out.trans (hd6.1.below (N := w.heap.size) HPP.out HBu.out.size)
  clear hd6 ARu hcu hO4
  have HK6 := hid_of hK6
  clear hK6
  try go_wp2_with fail
  clear hHeld
  refine hK'.out _ _ (A5u) (fun hHeld => ?_)
  clear hK' KK
  try simp only [List.setIfInBounds_toArray, List.set_cons_zero, List.set_cons_succ]
  refine wpAnyH_ready (rs := [3]) (by kernel_rfl) (by simp) ?_
  refine AllReadyH.cons rfl (fun KK hK' => ?_) AllReadyH.nil
  obtain ⟨d0, d1, f0, f1⟩ := B3u.open2
  go_simp
  have a8 := nil2_atM B3u (.int .i64 N) (.slice s L C)
  replace A5u := (A5u.setOther (p := q3) (i := 0) (by omega) (.int .i64 N)).setOther (p := q3) (i := 1) (by omega) (.slice s L C)
  have AR8 := hid_of (arr_keep AR6.out (((Kept.refl q3 u1).set (i := 0) (.int .i64 N)).set (i := 1) (.slice s L C)) (arr_no AR6.out hq33))
  have HO8 := hid_of (HK6.out ((u1.setCell ⟨q3, 0, none⟩ (.int .i64 N)).setCell ⟨q3, 1, none⟩ (.slice s L C)) ((Upon.set hq3u _).trans (Upon.set hq3u _)))
  have HB8 := hid_of ((HBu.out.setCell (p := ⟨q3, 0, none⟩) (by show w.heap.size ≤ q3; rw [HQ.out]; exact Nat.le_refl _) (.int .i64 N)).setCell (p := ⟨q3, 1, none⟩) (by show w.heap.size ≤ q3; rw [HQ.out]; exact Nat.le_refl _) (.slice s L C))
  clear d0 d1 f0 f1 AR6 HK6 HBu
  clear hHeld
  refine hK'.out _ _ (A5u) (fun hHeld => ?_)
  clear hK' KK
  try simp only [List.setIfInBounds_toArray, List.set_cons_zero, List.set_cons_succ]
  refine wpAnyH_take (i := 4) (v := .slice ((some ⟨g, 0, none⟩)) n c) rfl (by kernel_rfl) (by kernel_rfl) (by kernel_rfl) (fun _ _ _ h => h) (Or.inl ⟨by kernel_rfl, ?_⟩) hHeld ?_
  · intro w' hSw; go_simp
  try simp only [Act.put, List.setIfInBounds_toArray, List.set_cons_zero, List.set_cons_succ, List.getElem_toArray, List.getElem_cons_succ, List.getElem_cons_zero]
  refine wpAnyH_done (by kernel_rfl) ?_ _
  clear hHeld
  have NN : Hid (GivA w (.returned (.tuple #[.agg #[.int .i64 N, .slice s L C], .slice (some ⟨g, 0, none⟩) n c])) ((u1.setCell ⟨q3, 0, none⟩ (.int .i64 N)).setCell ⟨q3, 1, none⟩ (.slice s L C))) := ⟨N, s, L, C, F, g, n, c, A, rfl, hNB.out, hL, AR8.out.wide (by have := HB5.out.size; have := HQ.out; omega) (Nat.le_refl _), hn, HO8.out, HB8.out⟩
  clear AR8 HO8 HB8
  go_wp2
  obtain ⟨p0, p1, -⟩ := a8.open2
  exact bodyPost_ret (v := .tuple #[.agg #[.int .i64 N, .slice s L C], .slice (some ⟨g, 0, none⟩) n c]) (by simp [results, Tryz.results6, go_sem, p0, p1]) rfl NN.out
end Go.Proofs.YtiocneailhplkaaGreat
/-
  The law that an average is its own average: walked.
-/
namespace Go.Proofs.YtiocneailhplkaaGreat
open Go.RowKit

/-- What the law sums. -/
def sI (f h : Nat → Int) : Nat → Int
  | 0 => 0
  | i + 1 => Int.tmod (sI f h i + f i - h i) 12289
theorem sI_is (f h : Nat → Int) : ∀ i, (-12288 ≤ sI f h i ∧ sI f h i ≤ 12288) ∧ (sI f h i - (sK f i - sK h i)) % 12289 = 0
  | 0 => by
    have e : sI f h 0 = 0 := rfl
    rw [e, sK_zero, sK_zero]
    omega
  | i + 1 => by
    obtain ⟨h1, h2⟩ := sI_is f h i
    have e : sI f h (i + 1) = Int.tmod (sI f h i + f i - h i) 12289 := rfl
    rw [e, sK_next, sK_next, tmod_is]
    split <;> omega
theorem avE_yes {w w' : World} {N : Int} {len n : Nat} {A : Nat → OpD} {f : Nat → Int} {e : Ending} (h : AvE w N len n A f e w') (hO : avO N len n A f) : ∃ g c, e = .returned (.agg #[.int .i64 N, .slice (some ⟨g, 0, none⟩) len c]) ∧ g < w'.heap.size ∧ Ints w' g 0 len (avF N n A f) ∧ Below w.heap.size w w' := by
  obtain ⟨⟨m, rfl, hm⟩, hb⟩ := h
  rcases hm with ⟨-, v, rfl, hA⟩ | ⟨h', -⟩
  · obtain ⟨g, c, rfl, hg, hI⟩ := arr_gf hA ⟨hO.1.1, hO.1.2.1, fun i _ => avF_lt N n A f i⟩
    exact ⟨g, c, rfl, hg, hI, hb⟩
  · exact absurd hO h'
theorem ints_get {w : World} {g n i : Nat} {f : Nat → Int} (h : Ints w g 0 n f) (hi : i < n) : w.cell? ⟨g, i, none⟩ = some (.int .i64 (f i)) := by
  have := h i hi
  simpa using this
set_option maxRecDepth 100000 in
set_option maxHeartbeats 6000000 in
theorem average_walk {w : World} {a : Option Addr} {len cap : Nat} (hr : Row w w.heap.size a len) :
    Calls Tryz.prog 3 #[.slice a len cap] w fun e w' => e = .returned (.bool true) ∧ Below w.heap.size w w' := by
  go_enter Tryz.func3, Tryz.ntmps3
  go_wp2_with fail
  refine (big_any a len cap w hr.1).mono ?_
  rintro e w' ⟨rfl, rfl⟩
  by_cases hb : 1048576 < len
  · simp only [decide_eq_true hb]
    go_wp2
    go_ret
    exact ⟨rfl, Below.refl _ _⟩
  simp only [decide_eq_false hb]
  go_wp2_with fail
  refine (drawAverage_any hr).mono ?_
  rintro e w1 ⟨N, s, L, C, F, g, n, c, A, rfl, hNb, hL, AR, hn, LO, B⟩
  clear hr hb
  obtain ⟨q3, hq3⟩ : ∃ q, w1.heap.size = q := ⟨_, rfl⟩
  obtain ⟨W1, hW1, a3, b1, -⟩ := boxed w1 26 #[.int .i64 N, .slice s L C]
  rw [hq3] at a3
  have HNB := hid_of hNb
  have HO := hid_of (LO.below b1)
  have HM := hid_of (AR.below b1)
  have HB := hid_of (B.trans (b1.mono B.size))
  have Q3 := hid_of a3
  clear hNb LO AR B b1 a3
  obtain ⟨c0, c1, -⟩ := Q3.out.open2
  go_wp2_with fail
  clear hW1 hq3
  refine (specAverage_any HM.out (by omega) HO.out (by omega)).mono ?_
  rintro e w4 ⟨⟨m, rfl, hm⟩, b4⟩
  replace HO := hid_of (HO.out.below b4)
  replace HM := hid_of (HM.out.below b4)
  replace Q3 := hid_of (Q3.out.below b4)
  replace HB := hid_of (HB.out.trans (b4.mono HB.out.size))
  clear b4 c0 c1
  rcases hm with ⟨hO, v, rfl, -⟩ | ⟨-, rfl⟩
  case inr =>
    have hfd : ∀ w, (Instr.field 26 (Value.agg #[Value.int .i64 0, Value.slice none 0 0]) 0).run Tryz.prog w = .ok (.int .i64 0) w := fun _ => by kernel_rfl
    unfold mV
    go_wp2
    go_ret
    exact ⟨rfl, HB.out⟩
  have hfd : ∀ w, (Instr.field 26 (Value.agg #[Value.int .i64 N, v]) 0).run Tryz.prog w = .ok (.int .i64 N) w := fun _ => by kernel_rfl
  unfold mV
  have HOO := hid_of hO
  have hN1 := (side_by hO.1.1).1
  have hN0 : ¬ N = 0 := by omega
  have HLN : Hid ((L : Int) = N * N * N) := hO.1.2.1
  have hn2 : n ≤ 192 := hO.2.1.1
  obtain ⟨gf, cf, es, hgf, hI⟩ := arr_gf HM.out hO.1
  cases es
  have HI := hid_of hI
  clear hO hI HM
  have hLb : L ≤ 1048576 := by omega
  have hnb : n ≤ 1048576 := by omega
  obtain ⟨c0, c1, -⟩ := Q3.out.open2
  go_wp2_with fail
  refine (copyMap_any HI.out hgf hLb).mono ?_
  rintro e w5 ⟨g5, c5, rfl, lg5, hc5, M5, b5⟩
  have A5 := hid_of (arr_of_made M5 hc5.1 (Nat.le_refl g5) hc5.2)
  replace HI := hid_of (HI.out.below hgf b5)
  replace hgf := Nat.lt_of_lt_of_le hgf b5.size
  replace HO := hid_of (HO.out.below b5)
  replace Q3 := hid_of (Q3.out.below b5)
  replace HB := hid_of (HB.out.trans (b5.mono HB.out.size))
  clear b5 M5 c0 c1 lg5 hc5
  go_wp2_with fail
  refine (copyOps_any HO.out hn2 HOO.out.2.1.2.1).mono ?_
  rintro e w6 ⟨⟨X, Y, v, rfl, P⟩, b6⟩
  obtain ⟨g6, c6, rfl, -, L6⟩ := P.opsL
  have HL6 := hid_of L6
  replace A5 := hid_of (A5.out.below b6)
  replace HI := hid_of (HI.out.below hgf b6)
  replace hgf := Nat.lt_of_lt_of_le hgf b6.size
  replace HO := hid_of (HO.out.below b6)
  replace Q3 := hid_of (Q3.out.below b6)
  replace HB := hid_of (HB.out.trans (b6.mono HB.out.size))
  clear b6 P L6
  go_wp2_with fail
  refine (implAverage_any HNB.out A5.out hLb HL6.out hnb).mono ?_
  rintro e w7 hv
  obtain ⟨ga, ca, rfl, hga, hIa, b7⟩ := avE_yes hv HOO.out
  replace HI := hid_of (HI.out.below hgf b7)
  replace hgf := Nat.lt_of_lt_of_le hgf b7.size
  replace HO := hid_of (HO.out.below b7)
  replace Q3 := hid_of (Q3.out.below b7)
  replace HB := hid_of (HB.out.trans (b7.mono HB.out.size))
  clear b7 hv A5 HL6
  have HF : Hid (∀ k, k < L → 0 ≤ F k ∧ F k ≤ 12288) := HOO.out.1.2.2
  have HAG : Hid (∀ k, k < L → avF N n A (avF N n A F) k = avF N n A F k) := fun k hk => avF_again HOO.out.1.1 HOO.out.2.1 HOO.out.2.2 hk
  have HSU : Hid ((sK F L - sK (avF N n A F) L) % 12289 = 0) := avF_sum HOO.out.1.1 HLN.out HOO.out.2.1 HOO.out.2.2
  have HG1 : Hid (∀ k, 0 ≤ avF N n A F k ∧ avF N n A F k ≤ 12288) := avF_lt N n A F
  have HO2 : Hid (avO N L n A (avF N n A F)) := ⟨⟨HOO.out.1.1, HLN.out, fun k _ => HG1.out k⟩, HOO.out.2⟩
  obtain ⟨G, hG⟩ : ∃ G, avF N n A F = G := ⟨_, rfl⟩
  rw [hG] at hIa HAG HSU HG1 HO2
  obtain ⟨q5, hq5⟩ : ∃ q, w7.heap.size = q := ⟨_, rfl⟩
  obtain ⟨W7, hW7, a5, b8, -⟩ := boxed w7 26 #[.int .i64 N, .slice (some ⟨ga, 0, none⟩) L ca]
  rw [hq5] at a5
  have Q5 := hid_of a5
  have HIa := hid_of (hIa.below hga b8)
  have HI8 := hid_of (HI.out.below hgf b8)
  have HO8 := hid_of (HO.out.below b8)
  have Q38 := hid_of (Q3.out.below b8)
  have HB8 : Hid (Below w.heap.size w W7 ∧ w.heap.size ≤ W7.heap.size) := ⟨HB.out.trans (b8.mono HB.out.size), Nat.le_trans HB.out.size b8.size⟩
  have hgf8 : gf < W7.heap.size := Nat.lt_of_lt_of_le hgf b8.size
  have hga8 : ga < W7.heap.size := Nat.lt_of_lt_of_le hga b8.size
  have HSI : Hid (∀ i, (-12288 ≤ sI F G i ∧ sI F G i ≤ 12288) ∧ (sI F G i - (sK F i - sK G i)) % 12289 = 0) := sI_is F G
  have HCL : Hid (∀ w', Below W7.heap.size W7 w' → w'.cell? ⟨q3, 1, none⟩ = some (.slice (some ⟨gf, 0, none⟩) L C) ∧ w'.cell? ⟨q5, 1, none⟩ = some (.slice (some ⟨ga, 0, none⟩) L ca) ∧ ∀ i, i < L → w'.cell? ⟨gf, i, none⟩ = some (.int .i64 (F i)) ∧ w'.cell? ⟨ga, i, none⟩ = some (.int .i64 (G i))) := fun w' hb =>
    ⟨(Q38.out.below hb).open2.2.1, (Q5.out.below hb).open2.2.1, fun i hi => ⟨ints_get (HI8.out.below hgf8 hb) hi, ints_get (HIa.out.below hga8 hb) hi⟩⟩
  have H7 : Hid (Below W7.heap.size W7 W7) := hid_of (Below.refl _ _)
  clear hG hIa a5 HB HOO HI HO Q3 b8 hgf hga HLN
  obtain ⟨c0, c1, -⟩ := Q38.out.open2
  obtain ⟨d0, d1, -⟩ := Q5.out.open2
  have hLi : (L : Int) ≤ 2000 := by omega
  go_wp2
  clear hW7 hq5 c0 c1 d0 d1
  go_loopw [6, 7] (fun v s wr => ∃ i : Nat, i ≤ L ∧ v = .int .i64 (sI F G i) ∧ s = .int .i64 (i : Int) ∧ Hid (Below W7.heap.size W7 wr)) (fun _ s _ => L - (intOf s).toNat)
  case atStart => exact ⟨0, Nat.zero_le _, rfl, rfl, H7⟩
  case round =>
    clear H7
    obtain ⟨i, hi, rfl, rfl, HK⟩ := hrel
    rename World => wr
    obtain ⟨Z, hZ⟩ : ∃ z, sI F G i = z := ⟨_, rfl⟩
    have HZ := hid_of hZ
    have hZb := (HSI.out i).1
    rw [hZ] at hZb ⊢
    clear hZ
    obtain ⟨k0, -, -⟩ := HCL.out _ HK.out
    by_cases hlt : i < L
    · have hlt' : (i : Int) < (L : Int) := by omega
      have hf := HF.out i hlt
      have hg := HG1.out i
      have hnx : sI F G (i + 1) = Int.tmod (Z + F i - G i) 12289 := by rw [← HZ.out]; rfl
      have hcl : Hid (∀ w', Below wr.heap.size wr w' → w'.cell? ⟨q3, 1, none⟩ = some (.slice (some ⟨gf, 0, none⟩) L C) ∧ w'.cell? ⟨q5, 1, none⟩ = some (.slice (some ⟨ga, 0, none⟩) L ca) ∧ w'.cell? ⟨gf, i, none⟩ = some (.int .i64 (F i)) ∧ w'.cell? ⟨ga, i, none⟩ = some (.int .i64 (G i))) := fun w' hb => by
        obtain ⟨h1, h2, h3⟩ := HCL.out w' (HK.out.trans (hb.mono HK.out.size))
        exact ⟨h1, h2, h3 i hlt⟩
      generalize F i = x at hf hnx hcl
      generalize G i = y at hg hnx hcl
      obtain ⟨Z2, hZ2⟩ : ∃ z, Int.tmod (Z + x - y) 12289 = z := ⟨_, rfl⟩
      rw [hZ2] at hnx
      have hb2 := (HSI.out (i + 1)).1
      rw [hnx] at hb2
      have HNX := hid_of hnx
      have hw1 : IntKind.i64.wrap (Z + x) = Z + x := IntWalk.i64_in _ (by omega)
      have hw2 : IntKind.i64.wrap (Z + x - y) = Z + x - y := IntWalk.i64_in _ (by omega)
      have hw3 : IntKind.i64.wrap Z2 = Z2 := IntWalk.i64_in _ (by omega)
      clear hnx
      go_wp2_with fail
      obtain ⟨u0, hu0, bb⟩ : ∃ uu, wr.drew = uu ∧ Below wr.heap.size wr uu := ⟨_, rfl, (Below.refl _ _).drew⟩
      have bk0 : Kb wr u0 := bb
      clear bb
      refine wp_region_held_drew (S := Kb u0) (by kernel_rfl) (by rw [hu0]; exact Below.refl _ _) (fun hHeld => ?_)
      rw [hu0] at hHeld ⊢
      clear hu0
      have bu : Kb u0 u0 := Below.refl _ _
      change wpAnyH _ _ _ _ _ 15 #[false, false, false, false, false, false, false, false, false, false, false, false, false, false, false] _ _
      refine wpAnyH_take (i := 0) (v := .int .i64 (Z)) rfl (by kernel_rfl) (by kernel_rfl) (by kernel_rfl) (fun _ _ _ h => h) (Or.inl ⟨by kernel_rfl, ?_⟩) hHeld ?_
      · intro w' hSw; go_simp
      try simp only [Act.put, List.setIfInBounds_toArray, List.set_cons_zero, List.set_cons_succ, List.getElem_toArray, List.getElem_cons_zero]
      refine wpAnyH_take (i := 1) (v := .pointer (some ⟨q3, 1, none⟩)) rfl (by kernel_rfl) (by kernel_rfl) (by kernel_rfl) (fun _ _ _ h => h) (Or.inl ⟨by kernel_rfl, ?_⟩) hHeld ?_
      · intro w' hSw; go_simp
      try simp only [Act.put, List.setIfInBounds_toArray, List.set_cons_zero, List.set_cons_succ, List.getElem_toArray, List.getElem_cons_succ, List.getElem_cons_zero]
      refine wpAnyH_take (i := 2) (v := .slice ((some ⟨gf, 0, none⟩)) L C) rfl (by kernel_rfl) (by kernel_rfl) (by kernel_rfl) (fun _ _ _ h => h) (Or.inl ⟨by kernel_rfl, ?_⟩) hHeld ?_
      · intro w' hSw; obtain ⟨z0, z1, z2, z3⟩ := hcl.out _ (bk0.trans (Below.mono hSw bk0.size)); go_simp
      try simp only [Act.put, List.setIfInBounds_toArray, List.set_cons_zero, List.set_cons_succ, List.getElem_toArray, List.getElem_cons_succ, List.getElem_cons_zero]
      refine wpAnyH_take (i := 3) (v := .int .i64 ((i : Int))) rfl (by kernel_rfl) (by kernel_rfl) (by kernel_rfl) (fun _ _ _ h => h) (Or.inl ⟨by kernel_rfl, ?_⟩) hHeld ?_
      · intro w' hSw; go_simp
      try simp only [Act.put, List.setIfInBounds_toArray, List.set_cons_zero, List.set_cons_succ, List.getElem_toArray, List.getElem_cons_succ, List.getElem_cons_zero]
      refine wpAnyH_take (i := 4) (v := .pointer (some ⟨gf, i, none⟩)) rfl (by kernel_rfl) (by kernel_rfl) (by kernel_rfl) (fun _ _ _ h => h) (Or.inl ⟨by kernel_rfl, ?_⟩) hHeld ?_
      · intro w' hSw; go_simp
      try simp only [Act.put, List.setIfInBounds_toArray, List.set_cons_zero, List.set_cons_succ, List.getElem_toArray, List.getElem_cons_succ, List.getElem_cons_zero]
      refine wpAnyH_take (i := 5) (v := .int .i64 (x)) rfl (by kernel_rfl) (by kernel_rfl) (by kernel_rfl) (fun _ _ _ h => h) (Or.inl ⟨by kernel_rfl, ?_⟩) hHeld ?_
      · intro w' hSw; obtain ⟨z0, z1, z2, z3⟩ := hcl.out _ (bk0.trans (Below.mono hSw bk0.size)); go_simp
      try simp only [Act.put, List.setIfInBounds_toArray, List.set_cons_zero, List.set_cons_succ, List.getElem_toArray, List.getElem_cons_succ, List.getElem_cons_zero]
      refine wpAnyH_take (i := 6) (v := .int .i64 (Z + x)) rfl (by kernel_rfl) (by kernel_rfl) (by kernel_rfl) (fun _ _ _ h => h) (Or.inl ⟨by kernel_rfl, ?_⟩) hHeld ?_
      · intro w' hSw; go_simp
      try simp only [Act.put, List.setIfInBounds_toArray, List.set_cons_zero, List.set_cons_succ, List.getElem_toArray, List.getElem_cons_succ, List.getElem_cons_zero]
      refine wpAnyH_take (i := 7) (v := .pointer (some ⟨q5, 1, none⟩)) rfl (by kernel_rfl) (by kernel_rfl) (by kernel_rfl) (fun _ _ _ h => h) (Or.inl ⟨by kernel_rfl, ?_⟩) hHeld ?_
      · intro w' hSw; go_simp
      try simp only [Act.put, List.setIfInBounds_toArray, List.set_cons_zero, List.set_cons_succ, List.getElem_toArray, List.getElem_cons_succ, List.getElem_cons_zero]
      refine wpAnyH_take (i := 8) (v := .slice ((some ⟨ga, 0, none⟩)) L ca) rfl (by kernel_rfl) (by kernel_rfl) (by kernel_rfl) (fun _ _ _ h => h) (Or.inl ⟨by kernel_rfl, ?_⟩) hHeld ?_
      · intro w' hSw; obtain ⟨z0, z1, z2, z3⟩ := hcl.out _ (bk0.trans (Below.mono hSw bk0.size)); go_simp
      try simp only [Act.put, List.setIfInBounds_toArray, List.set_cons_zero, List.set_cons_succ, List.getElem_toArray, List.getElem_cons_succ, List.getElem_cons_zero]
      refine wpAnyH_take (i := 9) (v := .int .i64 ((i : Int))) rfl (by kernel_rfl) (by kernel_rfl) (by kernel_rfl) (fun _ _ _ h => h) (Or.inl ⟨by kernel_rfl, ?_⟩) hHeld ?_
      · intro w' hSw; go_simp
      try simp only [Act.put, List.setIfInBounds_toArray, List.set_cons_zero, List.set_cons_succ, List.getElem_toArray, List.getElem_cons_succ, List.getElem_cons_zero]
      refine wpAnyH_take (i := 10) (v := .pointer (some ⟨ga, i, none⟩)) rfl (by kernel_rfl) (by kernel_rfl) (by kernel_rfl) (fun _ _ _ h => h) (Or.inl ⟨by kernel_rfl, ?_⟩) hHeld ?_
      · intro w' hSw; go_simp
      try simp only [Act.put, List.setIfInBounds_toArray, List.set_cons_zero, List.set_cons_succ, List.getElem_toArray, List.getElem_cons_succ, List.getElem_cons_zero]
      refine wpAnyH_take (i := 11) (v := .int .i64 (y)) rfl (by kernel_rfl) (by kernel_rfl) (by kernel_rfl) (fun _ _ _ h => h) (Or.inl ⟨by kernel_rfl, ?_⟩) hHeld ?_
      · intro w' hSw; obtain ⟨z0, z1, z2, z3⟩ := hcl.out _ (bk0.trans (Below.mono hSw bk0.size)); go_simp
      try simp only [Act.put, List.setIfInBounds_toArray, List.set_cons_zero, List.set_cons_succ, List.getElem_toArray, List.getElem_cons_succ, List.getElem_cons_zero]
      refine wpAnyH_take (i := 12) (v := .int .i64 (Z + x - y)) rfl (by kernel_rfl) (by kernel_rfl) (by kernel_rfl) (fun _ _ _ h => h) (Or.inl ⟨by kernel_rfl, ?_⟩) hHeld ?_
      · intro w' hSw; go_simp
      try simp only [Act.put, List.setIfInBounds_toArray, List.set_cons_zero, List.set_cons_succ, List.getElem_toArray, List.getElem_cons_succ, List.getElem_cons_zero]
      refine wpAnyH_take (i := 13) (v := .int .i64 (Z2)) rfl (by kernel_rfl) (by kernel_rfl) (by kernel_rfl) (fun _ _ _ h => h) (Or.inl ⟨by kernel_rfl, ?_⟩) hHeld ?_
      · intro w' hSw; go_simp
      try simp only [Act.put, List.setIfInBounds_toArray, List.set_cons_zero, List.set_cons_succ, List.getElem_toArray, List.getElem_cons_succ, List.getElem_cons_zero]
      refine wpAnyH_take (i := 14) (v := .int .i64 (Z2)) rfl (by kernel_rfl) (by kernel_rfl) (by kernel_rfl) (fun _ _ _ h => h) (Or.inl ⟨by kernel_rfl, ?_⟩) hHeld ?_
      · intro w' hSw; go_simp
      try simp only [Act.put, List.setIfInBounds_toArray, List.set_cons_zero, List.set_cons_succ, List.getElem_toArray, List.getElem_cons_succ, List.getElem_cons_zero]
      refine wpAnyH_done (by kernel_rfl) ?_ _
      clear hHeld
      have bz := hid_of (bk0.trans (Below.mono bu bk0.size))
      have HKz := hid_of (HK.out.trans (bz.out.mono HK.out.size))
      obtain ⟨z0, z1, z2, z3⟩ := hcl.out _ bz.out
      go_wp2
      exact ⟨⟨i + 1, by omega, by rw [HNX.out], by go_num, HKz⟩, by simp [intOf]; omega⟩
    · obtain rfl : i = L := by omega
      have hlt' : ¬ (i : Int) < (i : Int) := by omega
      have hZ0 : Z = 0 := by
        have h1 := (HSI.out i).2
        have h2 := HSU.out
        rw [HZ.out] at h1
        omega
      subst hZ0
      go_wp2_with fail
      obtain ⟨u0, hu0, bb⟩ : ∃ uu, wr.drew = uu ∧ Below wr.heap.size wr uu := ⟨_, rfl, (Below.refl _ _).drew⟩
      have A5u := (Q5.out.below HK.out).below bb
      have HOu := (HO8.out.below HK.out).below bb
      have HAu := (HIa.out.below hga8 HK.out).below (Nat.lt_of_lt_of_le hga8 HK.out.size) bb
      have hgau := Nat.lt_of_lt_of_le (Nat.lt_of_lt_of_le hga8 HK.out.size) bb.size
      have bu := (HB8.out.1.trans (HK.out.mono HB8.out.2)).trans (bb.mono (Nat.le_trans HB8.out.2 HK.out.size))
      clear bb
      refine wp_region_held_drew (S := fun w' => At 26 w' q5 #[.int .i64 N, .slice (some ⟨ga, 0, none⟩) i ca]) (by kernel_rfl) (by rw [hu0]; exact A5u) (fun hHeld => ?_)
      rw [hu0] at hHeld ⊢
      clear hu0
      change wpAnyH _ _ _ _ _ 11 #[false, false, false, false, false, false, false, false, false, false, false] _ _
      refine wpAnyH_take (i := 0) (v := .int .i64 (0)) rfl (by kernel_rfl) (by kernel_rfl) (by kernel_rfl) (fun _ _ _ h => h) (Or.inl ⟨by kernel_rfl, ?_⟩) hHeld ?_
      · intro w' hSw; go_simp
      try simp only [Act.put, List.setIfInBounds_toArray, List.set_cons_zero, List.set_cons_succ, List.getElem_toArray, List.getElem_cons_zero]
      refine wpAnyH_take (i := 1) (v := .bool true) rfl (by kernel_rfl) (by kernel_rfl) (by kernel_rfl) (fun _ _ _ h => h) (Or.inl ⟨by kernel_rfl, ?_⟩) hHeld ?_
      · intro w' hSw; go_simp
      try simp only [Act.put, List.setIfInBounds_toArray, List.set_cons_zero, List.set_cons_succ, List.getElem_toArray, List.getElem_cons_succ, List.getElem_cons_zero]
      refine wpAnyH_take (i := 2) (v := .bool true) rfl (by kernel_rfl) (by kernel_rfl) (by kernel_rfl) (fun _ _ _ h => h) (Or.inl ⟨by kernel_rfl, ?_⟩) hHeld ?_
      · intro w' hSw; go_simp
      try simp only [Act.put, List.setIfInBounds_toArray, List.set_cons_zero, List.set_cons_succ, List.getElem_toArray, List.getElem_cons_succ, List.getElem_cons_zero]
      refine wpAnyH_take (i := 3) (v := .agg #[.int .i64 N, .slice (some ⟨ga, 0, none⟩) i ca]) rfl (by kernel_rfl) (by kernel_rfl) (by kernel_rfl) (fun _ _ _ h => h) (Or.inl ⟨by kernel_rfl, ?_⟩) hHeld ?_
      · intro w' hSw; obtain ⟨z0, z1, -⟩ := At.open2 hSw; go_simp
      try simp only [Act.put, List.setIfInBounds_toArray, List.set_cons_zero, List.set_cons_succ, List.getElem_toArray, List.getElem_cons_succ, List.getElem_cons_zero]
      refine wpAnyH_take (i := 5) (v := .slice ((some ⟨g, 0, none⟩)) n c) rfl (by kernel_rfl) (by kernel_rfl) (by kernel_rfl) (fun _ _ _ h => h) (Or.inl ⟨by kernel_rfl, ?_⟩) hHeld ?_
      · intro w' hSw; go_simp
      try simp only [Act.put, List.setIfInBounds_toArray, List.set_cons_zero, List.set_cons_succ, List.getElem_toArray, List.getElem_cons_succ, List.getElem_cons_zero]
      refine wpAnyH_take (i := 7) (v := .agg #[.int .i64 N, .slice (some ⟨ga, 0, none⟩) i ca]) rfl (by kernel_rfl) (by kernel_rfl) (by kernel_rfl) (fun _ _ _ h => h) (Or.inl ⟨by kernel_rfl, ?_⟩) hHeld ?_
      · intro w' hSw; obtain ⟨z0, z1, -⟩ := At.open2 hSw; go_simp
      try simp only [Act.put, List.setIfInBounds_toArray, List.set_cons_zero, List.set_cons_succ, List.getElem_toArray, List.getElem_cons_succ, List.getElem_cons_zero]
      refine wpAnyH_ready (rs := [4]) (by kernel_rfl) (by simp) ?_
      refine AllReadyH.cons rfl (fun KK hK' => ?_) AllReadyH.nil
      go_simp
      refine (copyMap_any HAu hgau hLb).mono ?_
      rintro e u1 ⟨g8, c8, rfl, lg8, hc8, M8, bb⟩
      replace A5u := A5u.below bb
      replace HOu := HOu.below bb
      replace HAu := HAu.below hgau bb
      replace hgau := Nat.lt_of_lt_of_le hgau bb.size
      replace bu := bu.trans (bb.mono bu.size)
      have A8 := arr_of_made M8 hc8.1 (Nat.le_refl g8) hc8.2
      clear bb M8 lg8 hc8
      try go_wp2_with fail
      clear hHeld
      refine hK'.out _ _ (A5u) (fun hHeld => ?_)
      clear hK' KK
      try simp only [List.setIfInBounds_toArray, List.set_cons_zero, List.set_cons_succ]
      refine wpAnyH_ready (rs := [6]) (by kernel_rfl) (by simp) ?_
      refine AllReadyH.cons rfl (fun KK hK' => ?_) AllReadyH.nil
      go_simp
      refine (implAverage_any HNB.out A8 hLb HOu hnb).mono ?_
      rintro e u2 hv
      obtain ⟨g9, c9, rfl, hg9, I9, bb⟩ := avE_yes hv HO2.out
      replace A5u := A5u.below bb
      replace HOu := HOu.below bb
      replace HAu := HAu.below hgau bb
      replace hgau := Nat.lt_of_lt_of_le hgau bb.size
      replace bu := bu.trans (bb.mono bu.size)
      clear bb hv A8
      try go_wp2_with fail
      clear hHeld
      refine hK'.out _ _ (A5u) (fun hHeld => ?_)
      clear hK' KK
      try simp only [List.setIfInBounds_toArray, List.set_cons_zero, List.set_cons_succ]
      refine wpAnyH_ready (rs := [8]) (by kernel_rfl) (by simp) ?_
      refine AllReadyH.cons rfl (fun KK hK' => ?_) AllReadyH.nil
      go_simp
      refine (sameMap_true I9 hg9 HAu hgau HAG.out hLb).mono ?_
      rintro e u3 ⟨rfl, bb⟩
      clear I9 hg9
      replace A5u := A5u.below bb
      replace HOu := HOu.below bb
      replace HAu := HAu.below hgau bb
      replace hgau := Nat.lt_of_lt_of_le hgau bb.size
      replace bu := bu.trans (bb.mono bu.size)
      clear bb
      try go_wp2_with fail
      clear hHeld
      refine hK'.out _ _ (A5u) (fun hHeld => ?_)
      clear hK' KK
      try simp only [List.setIfInBounds_toArray, List.set_cons_zero, List.set_cons_succ]
      refine wpAnyH_take (i := 9) (v := .bool true) rfl (by kernel_rfl) (by kernel_rfl) (by kernel_rfl) (fun _ _ _ h => h) (Or.inl ⟨by kernel_rfl, ?_⟩) hHeld ?_
      · intro w' hSw; go_simp
      try simp only [Act.put, List.setIfInBounds_toArray, List.set_cons_zero, List.set_cons_succ, List.getElem_toArray, List.getElem_cons_succ, List.getElem_cons_zero]
      refine wpAnyH_take (i := 10) (v := .bool true) rfl (by kernel_rfl) (by kernel_rfl) (by kernel_rfl) (fun _ _ _ h => h) (Or.inl ⟨by kernel_rfl, ?_⟩) hHeld ?_
      · intro w' hSw; go_simp
      try simp only [Act.put, List.setIfInBounds_toArray, List.set_cons_zero, List.set_cons_succ, List.getElem_toArray, List.getElem_cons_succ, List.getElem_cons_zero]
      refine wpAnyH_done (by kernel_rfl) ?_ _
      clear hHeld
      go_wp2
      go_ret
      exact ⟨rfl, bu⟩
end Go.Proofs.YtiocneailhplkaaGreat
