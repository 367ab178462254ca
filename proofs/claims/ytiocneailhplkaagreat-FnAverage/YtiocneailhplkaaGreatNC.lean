/-
  A map whose keys are operators and whose values are their places. No function of the program but membersOf.
-/
import Derived.Test.YtiocneailhplkaaGreatNB
import Derived.Test.YtiocneailhplkaaGreatMK
import Derived.Test.YtiocneailhplkaaGreatMQ
import Derived.Test.YtiocneailhplkaaGreatE7a
import Derived.Test.YtiocneailhplkaaGreatME
import Derived.Test.YtiocneailhplkaaGreatML
namespace Go.Proofs.YtiocneailhplkaaGreat
open Go.RowKit Go.ChangeShapes Go.WideShapes Go.MapKept
open Go.ChangeMaps (setBlock heap_setBlock_same heap_setBlock_other)
open Go.WideElems (Fit rd rg pl rd_mk)

/-- Block b is a map with these keys, each one's value is its place. -/
def MapN (w : World) (b : Nat) (ks : List (Nat → Int)) : Prop :=
  ∃ es clock, w.heap[b]? = some (.map es clock) ∧ Fit Tryz.prog 90 RE es clock ∧ es.toList.map (fun e => (e.key, e.val)) = ks.zipIdx.map (fun p => (kV p.1, Value.int .i64 (p.2 : Int)))
theorem MapN.lt {w : World} {b : Nat} {ks : List (Nat → Int)} (h : MapN w b ks) : b < w.heap.size := by
  obtain ⟨es, clock, hb, -⟩ := h
  exact (Array.getElem?_eq_some_iff.1 hb).1
theorem MapN.of_block {w w' : World} {b : Nat} {ks : List (Nat → Int)} (h : MapN w b ks) (hb : w'.heap[b]? = w.heap[b]?) : MapN w' b ks := by
  obtain ⟨es, clock, h1, h2⟩ := h
  exact ⟨es, clock, hb.trans h1, h2⟩
theorem MapN.below {w w' : World} {b : Nat} {ks : List (Nat → Int)} (h : MapN w b ks) (hb : Below w.heap.size w w') : MapN w' b ks := h.of_block (hb.block b h.lt)
/-- Where is the key? -/
theorem MapN.look {w : World} {b : Nat} {ks : List (Nat → Int)} {k : Nat → Int} (h : MapN w b ks) (hk : small k) (hm : kV k ∈ ks.map kV) :
    ∃ j k', (Instr.lookup 117 (.map (some b)) (kV k) false).run Tryz.prog w = .ok (.int .i64 ((j : Nat) : Int)) w ∧ ks[j]? = some k' ∧ kV k' = kV k := by
  obtain ⟨l, hl⟩ := key_kV hk
  obtain ⟨es, clock, h1, h2, h3⟩ := h
  have hz : (zeroValue 2).run Tryz.prog w = .ok (.int .i64 0) w := by kernel_rfl
  rcases Go.Maps.fit_look false keyed65 und75 hz h1 h2 hl with ⟨hr, hn, -⟩ | ⟨e0, y, hm0, he, hr, -⟩
  · exfalso
    obtain ⟨k', hk', e⟩ := List.mem_map.1 hm
    obtain ⟨j, hj⟩ := List.getElem?_of_mem hk'
    have h4 : (kV k', Value.int .i64 (j : Int)) ∈ es.toList.map (fun e => (e.key, e.val)) := by
      rw [h3]
      exact List.mem_map.2 ⟨(k', j), List.mem_zipIdx_iff_getElem?.2 hj, rfl⟩
    obtain ⟨x, hx, ex⟩ := List.mem_map.1 h4
    simp only [Prod.mk.injEq] at ex
    exact hn x hx (ex.1.trans e)
  · have h4 : (e0.key, e0.val) ∈ ks.zipIdx.map (fun p => (kV p.1, Value.int .i64 (p.2 : Int))) := by
      rw [← h3]
      exact List.mem_map.2 ⟨e0, hm0, rfl⟩
    obtain ⟨⟨k', j⟩, hp, ep⟩ := List.mem_map.1 h4
    simp only [Prod.mk.injEq] at ep
    refine ⟨j, k', ?_, List.mem_zipIdx_iff_getElem?.1 hp, ep.1.trans he⟩
    rw [hr, ← ep.2]
    rfl
/-- A new key. -/
theorem MapN.store {w : World} {b : Nat} {ks : List (Nat → Int)} {k : Nat → Int} (h : MapN w b ks) (hk : small k) (hnew : kV k ∉ ks.map kV) (hroom : ks.length < 1000) :
    ∃ w', (Instr.mapUpdate 117 (.map (some b)) (kV k) (.int .i64 (ks.length : Int))).run Tryz.prog w = .ok () w' ∧ MapN w' b (ks ++ [k]) ∧ w.grownBy w' (some b) ∧ w'.heap.size = w.heap.size := by
  obtain ⟨l, hl⟩ := key_kV hk
  obtain ⟨es, clock, h1, h2, h3⟩ := h
  have hn : (Lit.int .i64 (ks.length : Int)).wf = true := wf_small (by omega)
  have hes : es.size = ks.length := by have := congrArg List.length h3; simpa using this
  have hv := re_int hn
  have hno : ∀ x ∈ es.toList, x.key ≠ kV k := fun x hx e => hnew (by
    have h4 : (x.key, x.val) ∈ ks.zipIdx.map (fun p => (kV p.1, Value.int .i64 (p.2 : Int))) := by
      rw [← h3]
      exact List.mem_map.2 ⟨x, hx, rfl⟩
    obtain ⟨⟨k', j⟩, hp, ep⟩ := List.mem_map.1 h4
    simp only [Prod.mk.injEq] at ep
    rw [← e, ← ep.1]
    exact List.mem_map_of_mem (List.mem_of_getElem? (List.mem_zipIdx_iff_getElem?.1 hp)))
  rcases keyed65.find w hl es.toList h2.keys with ⟨f1, f2⟩ | ⟨j, e0, f1, f2, f3⟩
  · refine ⟨setBlock w b (.map (es.push ⟨kV k, .int .i64 (ks.length : Int), clock⟩) (clock + 1)), ?_, ⟨_, _, heap_setBlock_same h1 _, ⟨by unfold maxLen; simp; omega, stamped_push h2.stamped hno, ?_⟩, ?_⟩, ⟨rfl, rfl, rfl, by simp [setBlock], fun i _ hi => heap_setBlock_other h1 _ (fun e => hi (by rw [e]))⟩, by simp [setBlock]⟩
    · simp [Instr.mapUpdate, run_underlying und75, MapKept.run_getObj_map h1, keyed65.check w false hl, f1, MapKept.run_setObj_map _ h1, Result.andThen, setBlock]
    · intro x hx
      simp only [Array.toList_push, List.mem_append, List.mem_singleton] at hx
      rcases hx with hx | rfl
      · exact h2.reads x hx
      · exact ⟨_, rd_mk hl hv⟩
    · simp [h3, List.zipIdx_append]
  · exact absurd f3 (hno e0 (List.mem_of_getElem? f2))
theorem mapN_new (w : World) : MapN (w.alloc (.map #[] 0)) w.heap.size [] := by
  refine ⟨#[], 0, heap_alloc_new _ _, ⟨by simp, ⟨by simp, by simp, by simp⟩, by simp⟩, rfl⟩
theorem Oprs.of_block {w w' : World} {base g n c : Nat} {F : Nat → Nat → Int} (h : Oprs w base (.slice (some ⟨g, 0, none⟩) n c) n F) (hb' : w'.heap[g]? = w.heap[g]?) : Oprs w' base (.slice (some ⟨g, 0, none⟩) n c) n F := by
  refine ⟨?_, h.2⟩
  obtain ⟨e0, h1 | ⟨g', c', cur, e, hb, hh, r⟩⟩ := h.1
  · exact ⟨e0, .inl h1⟩
  · cases e
    exact ⟨e0, .inr ⟨g, c, cur, rfl, hb, hb'.trans hh, r⟩⟩
end Go.Proofs.YtiocneailhplkaaGreat
/-
  The table of a group; Table by the specification: walked.
-/
namespace Go.Proofs.YtiocneailhplkaaGreat
open Go.RowKit

theorem news1 {w : World} {q : Nat} {x : Value} {t : TypeId} (a : At t w q #[x]) : ∀ j u, ([x] : List Value)[j]? = some u → w.cell? ((⟨q, 0, none⟩ : Addr).add j) = some u := by
  intro j u hu
  have h2 := a.cell j (v := u) (by simpa using hu)
  by_cases e : j = 0
  · subst e; simpa [Addr.add] using h2
  · simpa [Addr.add, e] using h2
/-- The place of an operator in a list. -/
noncomputable def plc (n : Nat) (A : Nat → OpD) (v : Value) : Nat := @dite _ (∃ j, j < n ∧ kV (A j).key = v) (Classical.propDecidable _) (fun h => Classical.choose h) (fun _ => 0)
theorem plc_eq {n j : Nat} {A : Nat → OpD} {v : Value} (hR : Rises n A) (hj : j < n) (e : kV (A j).key = v) : plc n A v = j := by
  have h : ∃ j, j < n ∧ kV (A j).key = v := ⟨j, hj, e⟩
  have h1 : plc n A v = Classical.choose h := by unfold plc; rw [dif_pos h]
  obtain ⟨h2, h3⟩ := Classical.choose_spec h
  rw [← h1] at h2 h3
  have h4 := kV_inj.1 (h3.trans e.symm)
  rcases Nat.lt_trichotomy (plc n A v) j with h5 | h5 | h5
  · have := hR.lt h5 hj; omega
  · exact h5
  · have := hR.lt h5 h2
    have h6 := kV_inj.1 (e.trans h3.symm)
    omega
/-- Row by row the places of the products. -/
noncomputable def tab (n : Nat) (A : Nat → OpD) (t : Nat) : Int := (plc n A (kV (mulQ (A (t / n)).key (A (t % n)).key)) : Nat)
theorem tab_at {n i k : Nat} (A : Nat → OpD) (hk : k < n) : tab n A (i * n + k) = (plc n A (kV (mulQ (A i).key (A k).key)) : Nat) := by
  have h1 : (i * n + k) / n = i := by rw [Nat.mul_comm, Nat.mul_add_div (by omega), Nat.div_eq_of_lt hk]; omega
  have h2 : (i * n + k) % n = k := by rw [Nat.mul_comm, Nat.mul_add_mod, Nat.mod_eq_of_lt hk]
  unfold tab
  rw [h1, h2]
def ic (f : Nat → Int) (n : Nat) : List Value := (List.range n).map (fun i => Value.int .i64 (f i))
theorem ic_len (f : Nat → Int) (n : Nat) : (ic f n).length = n := by simp [ic]
theorem ic_next (f : Nat → Int) (n : Nat) : ic f (n + 1) = ic f n ++ [.int .i64 (f n)] := by simp [ic, List.range_succ]
/-- A list of numbers that grows, in memory of its own. -/
structure IntG (w : World) (lo : Nat) (v : Value) (n : Nat) (f : Nat → Int) : Prop where
  row : w.ownsRow lo 2 1 v n (ic f n)
  nn : v ≠ .slice none 0 0
theorem IntG.below {w w' : World} {lo n : Nat} {v : Value} {f : Nat → Int} (h : IntG w lo v n f) (hb : Below w.heap.size w w') : IntG w' lo v n f := ⟨own_below h.row hb, h.nn⟩
theorem intG_new {w W : World} {f : Nat → Int} (a1 : At 2 W w.heap.size #[]) : IntG W w.heap.size (.slice (some ⟨w.heap.size, 0, none⟩) 0 0) 0 f := ⟨⟨rfl, .inr ⟨w.heap.size, 0, #[], rfl, Nat.le_refl _, a1, Nat.le_refl _, Nat.zero_le _, rfl, rfl⟩⟩, ne_nil _ _ _⟩
theorem IntG.arr {w : World} {lo n : Nat} {v : Value} {f : Nat → Int} (h : IntG w lo v n f) : ∃ g c, v = .slice (some ⟨g, 0, none⟩) n c ∧ Arr w lo w.heap.size v n f ∧ Ints w g 0 n f ∧ g < w.heap.size := by
  rcases h.row.2 with ⟨h1, _⟩ | ⟨g, c, cur, rfl, hb, hh, h3, h4, h5, h6⟩
  · exact absurd h1 h.nn
  · have hc : ∀ i, i < n → cur[i]? = some (.int .i64 (f i)) := fun i hi => by
      have := congrArg (fun l => l[i]?) h6
      simp only [List.getElem?_take, Nat.mul_one] at this
      rw [if_pos hi] at this
      simpa [ic, hi] using this
    refine ⟨g, c, rfl, .inr ⟨g, c, rfl, hb, (Array.getElem?_eq_some_iff.1 hh).1, by omega, cur, hh, by omega, hc⟩, fun i hi => ?_, (Array.getElem?_eq_some_iff.1 hh).1⟩
    have a : At 2 w g cur := hh
    rw [Nat.zero_add]
    exact a.cell i (hc i hi)
theorem IntG.next {w' : World} {lo n : Nat} {v' : Value} {f : Nat → Int} (hrow : w'.ownsRow lo 2 1 v' (n + 1) (ic f n ++ [.int .i64 (f n)])) (hne : v' ≠ .slice none 0 0) : IntG w' lo v' (n + 1) f := ⟨by rw [ic_next]; exact hrow, hne⟩
/-- What Table tells. -/
def TabP (w : World) (lo : Nat) (v : Value) (n : Nat) (A : Nat → OpD) : Prop := (isG n A ∧ IntG w lo v (n * n) (tab n A)) ∨ (¬ isG n A ∧ IntG w lo v 0 (tab n A))
theorem TabP.lower {w : World} {lo lo' n : Nat} {v : Value} {A : Nat → OpD} (h : TabP w lo v n A) (hl : lo' ≤ lo) : TabP w lo' v n A := by
  have low : ∀ {m : Nat}, IntG w lo v m (tab n A) → IntG w lo' v m (tab n A) := fun h => ⟨by
    obtain ⟨e0, h1 | ⟨g, c, cur, e, hb, r⟩⟩ := h.row
    · exact ⟨e0, .inl h1⟩
    · exact ⟨e0, .inr ⟨g, c, cur, e, Nat.le_trans hl hb, r⟩⟩, h.nn⟩
  exact h.imp (fun h => ⟨h.1, low h.2⟩) (fun h => ⟨h.1, low h.2⟩)
end Go.Proofs.YtiocneailhplkaaGreat
/-
  Operators as a group: ways back, what can be struck; a table's rows and columns. No function of the program.
-/
namespace Go.Proofs.YtiocneailhplkaaGreat
open Go.RowKit

/-- The way back. -/
def bkK (p : Nat → Int) : Nat → Int := cat 9 (backM p) (backV p (kh p))
theorem back_left {x : Nat → Int} (hx : kR x) : kV (mulQ (bkK x) x) = kV oneK := by
  refine kV_ext.2 ⟨fun j hj => ?_, fun i hi => ?_⟩
  · rw [mulQ_lo _ _ hj, mulM_congr (f := bkK x) (f' := backM x) (fun j h => cat_lo _ _ h) (fun _ _ => rfl) j hj, (mul_back hx.2.2 j hj).2]
    exact (cat_lo oneF (fun _ => 0) hj).symm
  · rw [mulQ_hi, behV_congr (f := bkK x) (f' := backM x) (h := kh (bkK x)) (h' := backV x (kh x)) (fun j h => cat_lo _ _ h) (fun j _ => cat_hi _ _ j) (fun _ _ => rfl) i hi, back_behV]
    exact (cat_hi oneF (fun _ => 0) i).symm
theorem back_right {x : Nat → Int} (hx : kR x) : kV (mulQ x (bkK x)) = kV oneK := by
  refine kV_ext.2 ⟨fun j hj => ?_, fun i hi => ?_⟩
  · rw [mulQ_lo _ _ hj, mulM_congr (g := bkK x) (g' := backM x) (fun _ _ => rfl) (fun j h => cat_lo _ _ h) j hj, (mul_back hx.2.2 j hj).1]
    exact (cat_lo oneF (fun _ => 0) hj).symm
  · rw [mulQ_hi, behV_congr (f := x) (f' := x) (h := kh x) (h' := kh x) (k := kh (bkK x)) (k' := backV x (kh x)) (fun _ _ => rfl) (fun _ _ => rfl) (fun j _ => cat_hi _ _ j) i hi, behV_back hx i hi]
    exact (cat_hi oneF (fun _ => 0) i).symm
theorem strike_left {x y z : Nat → Int} (hx : kR x) (hy : kR y) (hz : kR z) (h : kV (mulQ x y) = kV (mulQ x z)) : kV y = kV z := by
  have a : ∀ u, kR u → kV (mulQ (bkK x) (mulQ x u)) = kV u := fun u hu => by
    rw [← mulQ_assoc, mulQ_congr (back_left hx), one_mul hu]
  rw [← a y hy, ← a z hz, mulQ_congr2 h]
theorem strike_right {x y z : Nat → Int} (hx : kR x) (hy : kR y) (hz : kR z) (h : kV (mulQ y x) = kV (mulQ z x)) : kV y = kV z := by
  have a : ∀ u, kR u → kV (mulQ (mulQ u x) (bkK x)) = kV u := fun u hu => by
    rw [mulQ_assoc, mulQ_congr2 (back_right hx), mulQ_one hu]
  rw [← a y hy, ← a z hz, mulQ_congr h]
theorem Rises.inj {n i j : Nat} {A : Nat → OpD} (hR : Rises n A) (hi : i < n) (hj : j < n) (e : kV (A i).key = kV (A j).key) : i = j := by
  have e0 := kV_inj.1 e
  rcases Nat.lt_trichotomy i j with h | h | h
  · have := hR.lt h hj; omega
  · exact h
  · have := hR.lt h hi
    have := kV_inj.1 e.symm
    omega
theorem isG.key {n i : Nat} {A : Nat → OpD} (h : isG n A) (hi : i < n) : kR (A i).key := ok_R (h.2.1 i hi)
theorem isG.mul {n i k : Nat} {A : Nat → OpD} (h : isG n A) (hi : i < n) (hk : k < n) : ∃ j, j < n ∧ kV (A j).key = kV (mulQ (A i).key (A k).key) := by
  obtain ⟨j, hj, e⟩ := h.2.2.2.2 i k hi hk
  exact ⟨j, hj, (kV_inj.2 e).trans (mulK_key _ _)⟩
theorem isG.one {n : Nat} {A : Nat → OpD} (h : isG n A) : ∃ i, i < n ∧ kV (A i).key = kV oneK := by
  obtain ⟨i, hi, e⟩ := h.2.2.2.1
  exact ⟨i, hi, kV_inj.2 e⟩
theorem isG_of {n : Nat} {A : Nat → OpD} (h1 : n ≤ 192) (h2 : ∀ i, i < n → (A i).ok) (h3 : Rises n A) (h4 : ∃ i, i < n ∧ kV (A i).key = kV oneK) (h5 : ∀ i k, i < n → k < n → ∃ j, j < n ∧ kV (A j).key = kV (mulQ (A i).key (A k).key)) : isG n A := by
  refine ⟨h1, h2, h3, ?_, fun i k hi hk => ?_⟩
  · obtain ⟨i, hi, e⟩ := h4
    exact ⟨i, hi, kV_inj.1 e⟩
  · obtain ⟨j, hj, e⟩ := h5 i k hi hk
    exact ⟨j, hj, kV_inj.1 (e.trans (mulK_key _ _).symm)⟩
/-- A place in the table. -/
theorem tab_in {n i k : Nat} {A : Nat → OpD} (h : isG n A) (hi : i < n) (hk : k < n) : ∃ j, j < n ∧ kV (A j).key = kV (mulQ (A i).key (A k).key) ∧ tab n A (i * n + k) = (j : Int) := by
  obtain ⟨j, hj, e⟩ := h.mul hi hk
  exact ⟨j, hj, e, by rw [tab_at A hk, plc_eq h.2.2.1 hj e]⟩
theorem tab_row {n i k k' : Nat} {A : Nat → OpD} (h : isG n A) (hi : i < n) (hk : k < n) (hk' : k' < n) (e : tab n A (i * n + k) = tab n A (i * n + k')) : k = k' := by
  obtain ⟨j, hj, e1, t1⟩ := tab_in h hi hk
  obtain ⟨j', hj', e2, t2⟩ := tab_in h hi hk'
  have : j = j' := by omega
  subst this
  exact h.2.2.1.inj hk hk' (strike_left (h.key hi) (h.key hk) (h.key hk') (e1.symm.trans e2))
theorem tab_col {n i k k' : Nat} {A : Nat → OpD} (h : isG n A) (hi : i < n) (hk : k < n) (hk' : k' < n) (e : tab n A (k * n + i) = tab n A (k' * n + i)) : k = k' := by
  obtain ⟨j, hj, e1, t1⟩ := tab_in h hk hi
  obtain ⟨j', hj', e2, t2⟩ := tab_in h hk' hi
  have : j = j' := by omega
  subst this
  exact h.2.2.1.inj hk hk' (strike_right (h.key hi) (h.key hk) (h.key hk') (e1.symm.trans e2))
/-- Two lists of values, one the other in another order. -/
theorem perm_find {n : Nat} {F G : Nat → Nat → Int} (hp : ((List.range n).map (fun t => kV (F t))).Perm ((List.range n).map (fun t => kV (G t)))) {t : Nat} (ht : t < n) : ∃ s, s < n ∧ kV (F t) = kV (G s) := by
  have h1 : kV (F t) ∈ (List.range n).map (fun t => kV (F t)) := List.mem_map.2 ⟨t, List.mem_range.2 ht, rfl⟩
  obtain ⟨s, hs, e⟩ := List.mem_map.1 (hp.mem_iff.1 h1)
  exact ⟨s, List.mem_range.1 hs, e.symm⟩
theorem nodup_inj {n : Nat} {F : Nat → Nat → Int} (h : ∀ i j, i < n → j < n → kV (F i) = kV (F j) → i = j) : ((List.range n).map (fun t => kV (F t))).Nodup := by
  rw [List.Nodup, List.pairwise_iff_getElem]
  intro i j hi hj hij
  simp only [List.getElem_map, List.getElem_range]
  simp at hi hj
  intro e
  have := h i j hi hj e
  omega
end Go.Proofs.YtiocneailhplkaaGreat
