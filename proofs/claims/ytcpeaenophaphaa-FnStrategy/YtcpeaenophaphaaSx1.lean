/-
  The mathematics of FnStrategy: the witness is one, it has no more numbers than a strategy, and no strategy is shorter than the best. No walk.
-/
import Derived.Test.YtcpeaenophaphaaAx
namespace Go.Proofs.Ytcpeaenophaphaa
open Go.RowKit

theorem StOk.congr {N : Nat} {n : Nat → Nat} {f : Nat → Nat → Int} {M : Nat} {l k : Nat → Int} (h : StOk N n f M l) (e : ∀ i, i < M → l i = k i) : StOk N n f M k := by
  obtain ⟨h0, h1, h2⟩ := h
  refine ⟨h0, ⟨fun j hj => by rw [← e j hj]; exact h1.1 j hj, fun j hj => by rw [← e j (by omega), ← e (j + 1) hj]; exact h1.2 j hj⟩, fun r hr => ?_⟩
  rw [← h2 r hr]
  constructor
  · rintro ⟨j, hj, hh⟩
    rw [← e j hj] at hh
    exact ⟨j, hj, hh⟩
  · rintro ⟨j, hj, hh⟩
    rw [e j hj] at hh
    exact ⟨j, hj, hh⟩
theorem list_ge {N : Nat} {n : Nat → Nat} {f : Nat → Nat → Int} {M : Nat} {l : Nat → Int} {B : List Nat} (h : StOk N n f M l) (hB : BestP N (Cov N n f) B) : B.length ≤ M := by
  have hr := h.2.1
  obtain ⟨L, hL⟩ : ∃ L : List Nat, L = (List.range M).map (fun j => (l j).toNat) := ⟨_, rfl⟩
  have hlen : L.length = M := by rw [hL]; simp
  have hat : ∀ i, i < M → (toI L).getD i 0 = l i := fun i hi => by
    rw [toI_at (by omega), hL]
    have := hr.1 i hi
    simp [hi]
    omega
  have hrs : rsg N L := by
    refine ⟨?_, fun x hx => ?_⟩
    · rw [List.pairwise_iff_getElem]
      intro i j hi hj hij
      have h1 := hat i (by omega)
      have h2 := hat j (by omega)
      rw [toI_at hi] at h1
      rw [toI_at hj] at h2
      have h3 := hr.lt j i hij (by omega)
      simp [hi, hj] at h1 h2
      omega
    · rw [hL] at hx
      obtain ⟨j, hj, rfl⟩ := List.mem_map.1 hx
      have := hr.1 j (by simpa using hj)
      omega
  have hcov : Cov N n f L := by
    show StOk N n f L.length _
    rw [hlen]
    exact h.congr (fun i hi => (hat i hi).symm)
  have := hB.2.2 L hrs hcov
  unfold plt at this
  omega
/-- What makes a list a witness. -/
structure WtL (N : Nat) (n : Nat → Nat) (f : Nat → Nat → Int) (L : List Nat) : Prop where
  up : L.Pairwise (· < ·)
  has : ∀ x, x ∈ L → ∃ i, i < N ∧ Hs f i (n i) x
  apart : L.Pairwise (fun y x => ∀ i, i < N → Hs f i (n i) x → ¬ Hs f i (n i) y)
theorem wl_wt (N : Nat) (n : Nat → Nat) (f : Nat → Nat → Int) (r : Nat) : WtL N n f (wl N n f r) := by
  induction r with
  | zero => exact ⟨.nil, (fun x hx => by cases hx), .nil⟩
  | succ r ih =>
    by_cases h : App N n f (wl N n f r) r
    · rw [wl_yes rfl h]
      refine ⟨List.pairwise_append.2 ⟨ih.up, by simp, fun x hx y hy => ?_⟩, fun x hx => ?_, List.pairwise_append.2 ⟨ih.apart, by simp, fun y hy x hx => ?_⟩⟩
      · have := wl_lt (N := N) (n := n) (f := f) r x hx
        simp at hy
        omega
      · rcases List.mem_append.1 hx with h1 | h1
        · exact ih.has x h1
        · simp at h1; subst h1; exact h.1
      · simp at hx
        subst hx
        exact fun i hi hh => h.2 i hi hh y hy
    · rw [wl_no rfl h]; exact ih
theorem wit_ok {N : Nat} {n : Nat → Nat} {f : Nat → Nat → Int} (hx : ExOk N n f) : WtOk N n f (witL N n f).length (fun i => (toI (witL N n f)).getD i 0) := by
  rw [witL_yes hx]
  have w := wl_wt N n f 64
  obtain ⟨L, hL⟩ : ∃ L, wl N n f 64 = L := ⟨_, rfl⟩
  have hlt : ∀ y, y ∈ L → y < 64 := fun y hy => wl_lt (N := N) (n := n) (f := f) 64 y (by rw [hL]; exact hy)
  rw [hL] at w ⊢
  have hat : ∀ i (hi : i < L.length), (toI L).getD i 0 = ((L[i] : Nat) : Int) := fun i hi => by rw [toI_at hi]; simp [hi]
  refine ⟨hx, ⟨fun j hj => ?_, fun j hj => ?_⟩, fun j hj => ⟨?_, fun i hi hh t ht => ?_⟩⟩
  · simp only [hat j hj]
    have := hlt _ (List.getElem_mem hj)
    omega
  · simp only [hat j (by omega), hat (j + 1) hj]
    have := List.pairwise_iff_getElem.1 w.up j (j + 1) (by omega) hj (by omega)
    omega
  · have := w.has _ (List.getElem_mem hj)
    simp only [hat j hj, Int.toNat_natCast]
    exact this
  · have h1 := List.pairwise_iff_getElem.1 w.apart t j (by omega) hj ht
    simp only [hat j hj, Int.toNat_natCast] at hh
    simp only [hat t (by omega), Int.toNat_natCast]
    exact h1 i hi hh
theorem wit_le {N : Nat} {n : Nat → Nat} {f : Nat → Nat → Int} {B : List Nat} (hx : ExOk N n f) (hB : rsg N B) (hc : Cov N n f B) : (witL N n f).length ≤ B.length := by
  rw [witL_yes hx]
  have w := wl_wt N n f 64
  obtain ⟨L, hL⟩ : ∃ L, wl N n f 64 = L := ⟨_, rfl⟩
  have hlt : ∀ y, y ∈ L → y < 64 := fun y hy => wl_lt (N := N) (n := n) (f := f) 64 y (by rw [hL]; exact hy)
  rw [hL] at w ⊢
  have hcov := (cov_iff hx hB).1 hc
  have ex : ∀ j, ∃ b, j < L.length → (b ∈ B ∧ Hs f b (n b) (L.getD j 0)) := fun j => by
    by_cases hj : j < L.length
    · have e : L.getD j 0 = L[j] := by simp [hj]
      obtain ⟨b, h1, h2⟩ := (hcov _ (hlt _ (List.getElem_mem hj))).2 (w.has _ (List.getElem_mem hj))
      exact ⟨b, fun _ => ⟨h1, by rw [e]; exact h2⟩⟩
    · exact ⟨0, fun h => absurd h hj⟩
  refine inj_le L.length (fun j => Classical.choose (ex j)) B (fun i j hi hj e => ?_) (fun i hi => (Classical.choose_spec (ex i) hi).1)
  obtain ⟨b, hb⟩ : ∃ b, Classical.choose (ex i) = b := ⟨_, rfl⟩
  have hi2 : b ∈ B ∧ Hs f b (n b) (L.getD i 0) := by rw [← hb]; exact Classical.choose_spec (ex i) hi
  have hj2 : b ∈ B ∧ Hs f b (n b) (L.getD j 0) := by rw [← hb, show Classical.choose (ex i) = Classical.choose (ex j) from e]; exact Classical.choose_spec (ex j) hj
  have ei : L.getD i 0 = L[i] := by simp [hi]
  have ej : L.getD j 0 = L[j] := by simp [hj]
  rw [ei] at hi2
  rw [ej] at hj2
  have hbN := hB.2 _ hi2.1
  rcases Nat.lt_trichotomy i j with h | h | h
  · exact absurd hi2.2 (List.pairwise_iff_getElem.1 w.apart i j hi hj h _ hbN hj2.2)
  · exact h
  · exact absurd hj2.2 (List.pairwise_iff_getElem.1 w.apart j i hj hi h _ hbN hi2.2)
end Go.Proofs.Ytcpeaenophaphaa
