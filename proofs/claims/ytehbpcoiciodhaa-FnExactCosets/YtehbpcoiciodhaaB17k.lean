/-
  What generators make is a group; what members of a group make is a group within it. No function of the program.
-/
import Derived.Test.YtehbpcoiciodhaaB17l
import Derived.Test.YtehbpcoiciodhaaMQ
namespace Go.Proofs.Ytehbpcoiciodhaa
open Go.RowKit

theorem opD_keyK (k : Nat → Int) : kV (opD k).key = kV k := by
  refine kV_ext.2 ⟨fun j hj => ?_, fun i hi => ?_⟩
  · rw [key_lo _ hj]; rfl
  · rw [key_hi]; rfl
theorem opD_okK {k : Nat → Int} (h : kR k) : (opD k).ok := by
  have h' : kR (opD k).key := kR_congr (opD_keyK k).symm h
  refine ⟨rfl, rfl, ?_⟩
  obtain ⟨r1, r2, r3⟩ := h'
  refine ⟨fun i hi => by rw [← key_lo (opD k) hi]; exact r1 i hi, fun i hi => by have := r2 i hi; unfold kh at this; rw [key_hi] at this; exact this, ?_⟩
  have : det3 (opD k).key = det3 (opD k).f := by
    unfold det3
    simp only [key_lo (opD k) (show 0 < 9 by decide), key_lo (opD k) (show 1 < 9 by decide), key_lo (opD k) (show 2 < 9 by decide), key_lo (opD k) (show 3 < 9 by decide), key_lo (opD k) (show 4 < 9 by decide), key_lo (opD k) (show 5 < 9 by decide), key_lo (opD k) (show 6 < 9 by decide), key_lo (opD k) (show 7 < 9 by decide), key_lo (opD k) (show 8 < 9 by decide)]
  rw [← this]; exact r3
theorem lexC_keysK {x x' y y' : Nat → Int} (h1 : kV x = kV x') (h2 : kV y = kV y') : lexC 12 x y = lexC 12 x' y' := lexC_eq (fun j hj => lexC_zero.1 (kV_inj.1 h1) j hj) (fun j hj => lexC_zero.1 (kV_inj.1 h2) j hj)
/-- What stands at a place of a made list. -/
theorem perm_at {m : Nat} {G : Nat → Nat → Int} {ks : List (Nat → Int)} (hp : (((List.range m).map G).map kV).Perm (ks.map kV)) {i : Nat} (hi : i < m) : ∃ x, x ∈ ks ∧ kV x = kV (G i) := by
  have h : kV (G i) ∈ ks.map kV := hp.mem_iff.1 (List.mem_map_of_mem (List.mem_map.2 ⟨i, List.mem_range.2 hi, rfl⟩))
  obtain ⟨x, hx, e⟩ := List.mem_map.1 h
  exact ⟨x, hx, e⟩
theorem perm_ofK {m : Nat} {G : Nat → Nat → Int} {ks : List (Nat → Int)} (hp : (((List.range m).map G).map kV).Perm (ks.map kV)) {x : Nat → Int} (hx : kV x ∈ ks.map kV) : ∃ i, i < m ∧ kV (G i) = kV x := by
  obtain ⟨y, hy, e⟩ := List.mem_map.1 (hp.mem_iff.2 hx)
  obtain ⟨i, hi, rfl⟩ := List.mem_map.1 hy
  exact ⟨i, List.mem_range.1 hi, e⟩
/-- What generators make. -/
theorem clsT_group {n m : Nat} {A : Nat → OpD} {G : Nat → Nat → Int} (h : ClsT n A m G true) : isG m (fun i => opD (G i)) ∧ 0 < m ∧ (∀ t, t < n → (A t).ok ∧ ∃ j, j < m ∧ kV (G j) = kV (A t).key) ∧ ∀ i, i < m → ReachL n (fun i => (A i).key) (G i) := by
  rcases h with ⟨-, hn, hok, hm, L, ks, rfl, hnd, hp, hs, hM⟩ | ⟨h, -⟩
  · have hR : ∀ t, t < n → kR (A t).key := fun t ht => ok_R (hok t ht)
    refine ⟨isG_of hM.grows.few (fun i hi => ?_) (fun i hi => ?_) ?_ (fun i k hi hk => ?_), hm, fun t ht => ⟨hok t ht, perm_ofK hp (hM.has t ht)⟩, fun i hi => ?_⟩
    · obtain ⟨x, hx, e⟩ := perm_at hp hi
      exact opD_okK (kR_congr e (hM.grows.right x hx))
    · show lexC 12 (opD (G i)).key (opD (G (i + 1))).key < 0
      rw [lexC_keysK (opD_keyK (G i)) (opD_keyK (G (i + 1)))]
      have h1 := hs i (i + 1) (by omega) hi
      rcases lexC_range 12 (G i) (G (i + 1)) with e | e | e
      · omega
      · exfalso
        have hnd' := hp.nodup_iff.2 hnd
        rw [List.map_map, List.Nodup, List.pairwise_iff_getElem] at hnd'
        have := hnd' i (i + 1) (by simp; omega) (by simp; omega) (by omega)
        simp only [List.getElem_map, List.getElem_range, Function.comp] at this
        exact this (kV_inj.2 e)
      · exact absurd (lexC_pos.1 (by omega : 0 < lexC 12 (G i) (G (i + 1)))) h1
    · obtain ⟨i, hi, e⟩ := perm_ofK hp (hM.hasL (.base (x := oneK) rfl))
      exact ⟨i, hi, (opD_keyK _).trans e⟩
    · obtain ⟨x, hx, ex⟩ := perm_at hp hi
      obtain ⟨y, hy, ey⟩ := perm_at hp hk
      obtain ⟨j, hj, e⟩ := perm_ofK hp (hM.mul y (hM.grows.reach y hy) x hx)
      refine ⟨j, hj, (opD_keyK _).trans (e.trans ?_)⟩
      rw [mulQ_congr (ex.trans (opD_keyK (G i)).symm), mulQ_congr2 (ey.trans (opD_keyK (G k)).symm)]
    · obtain ⟨x, hx, e⟩ := perm_at hp hi
      exact ((hM.grows.reach x hx).left hR hM.of).congr e.symm
  · exact absurd h (by decide)
/-- What members make, stays within. -/
theorem reach_within {n m : Nat} {S G : Nat → OpD} (hG : isG m G) (hS : ∀ t, t < n → ∃ j, j < m ∧ kV (G j).key = kV (S t).key) {x : Nat → Int} (h : ReachL n (fun i => (S i).key) x) : ∃ j, j < m ∧ kV (G j).key = kV x := by
  induction h with
  | base h =>
    obtain ⟨o, ho, e⟩ := hG.one
    exact ⟨o, ho, e.trans h.symm⟩
  | step h1 h2 h3 ih =>
    obtain ⟨a, ha, ea⟩ := ih
    obtain ⟨b, hb, eb⟩ := hS _ h2
    obtain ⟨j, hj, e⟩ := hG.mul hb ha
    exact ⟨j, hj, e.trans (by rw [h3, mulQ_congr eb, mulQ_congr2 ea])⟩
theorem within_notBad {n m : Nat} {S G : Nat → OpD} (hG : isG m G) (hS : ∀ t, t < n → ∃ j, j < m ∧ kV (G j).key = kV (S t).key) : ¬ BadL n (fun i => (S i).key) := by
  rintro (⟨x, h1, h2⟩ | ⟨ls, h1, h2, h3⟩)
  · obtain ⟨j, hj, e⟩ := reach_within hG hS h1
    exact h2 (kR_congr e (hG.key hj))
  · have := h2.length_le_of_subset (l₂ := (List.range m).map (fun j => kV (G j).key)) (fun v hv => by
      obtain ⟨x, hx, rfl⟩ := List.mem_map.1 hv
      obtain ⟨j, hj, e⟩ := reach_within hG hS (h3 x hx)
      exact List.mem_map.2 ⟨j, List.mem_range.2 hj, e⟩)
    have h4 := hG.1
    simp at this
    omega
/-- Members of a group make a group within it, whose number divides the greater one's. -/
theorem clsT_within {n m k : Nat} {S G : Nat → OpD} {H : Nat → Nat → Int} {b : Bool} (hG : isG m G) (hn : n ≤ 12) (hS : ∀ t, t < n → (S t).ok ∧ ∃ j, j < m ∧ kV (G j).key = kV (S t).key) (h : ClsT n S k H b) : b = true ∧ 0 < k ∧ k ∣ m ∧ ∀ t, t < k → ∃ j, j < m ∧ kV (G j).key = kV (H t) := by
  have hS' : ∀ t, t < n → ∃ j, j < m ∧ kV (G j).key = kV (S t).key := fun t ht => (hS t ht).2
  cases b
  · exfalso
    rcases h with ⟨h, -⟩ | ⟨-, -, hno⟩
    · exact absurd h (by decide)
    · exact hno ⟨hn, fun i hi => (hS i hi).1, fun hb => within_notBad hG hS' (hb.bad (fun t ht => ok_R (hS t ht).1))⟩
  · obtain ⟨h1, h2, -, h4⟩ := clsT_group h
    have hw : ∀ t, t < k → ∃ j, j < m ∧ kV (G j).key = kV (H t) := fun t ht => reach_within hG hS' (h4 t ht)
    exact ⟨rfl, h2, group_dvd hG h1 (fun t ht => by
      obtain ⟨j, hj, e⟩ := hw t ht
      exact ⟨j, hj, e.trans (opD_keyK _).symm⟩), hw⟩
end Go.Proofs.Ytehbpcoiciodhaa
