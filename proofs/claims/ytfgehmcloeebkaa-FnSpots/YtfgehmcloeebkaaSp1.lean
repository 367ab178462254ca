/-
  The mathematics of FnSpots: no two spots lie beside one another, the first greatest pixel is one, and greater reaches. No walk.
-/
import Derived.Test.YtfgehmcloeebkaaXc
import Derived.Test.YtfgehmcloeebkaaWc
namespace Go.Proofs.Ytfgehmcloeebkaa
open Go.RowKit

theorem spL_at (N : Nat) (f : Nat → Int) : ∀ (L : List Nat) (i : Nat), i < L.length → (spL N f L).getD (i * 3) 0 = ((L.getD i 0 % N : Nat) : Int) ∧ (spL N f L).getD (i * 3 + 1) 0 = ((L.getD i 0 / N : Nat) : Int) ∧ (spL N f L).getD (i * 3 + 2) 0 = f (L.getD i 0)
  | [], i, h => by simp at h
  | k :: L, 0, _ => by simp [spL]
  | k :: L, i + 1, h => by
    have ih := spL_at N f L i (by simpa using h)
    have e : (i + 1) * 3 = i * 3 + 1 + 1 + 1 := by omega
    simp only [spL, e, List.getD_cons_succ]
    exact ih
theorem fil_at {p : Nat → Bool} {n i : Nat} (h : i < (fil p n).length) : (fil p n).getD i 0 < n ∧ p ((fil p n).getD i 0) = true := by
  have e : (fil p n).getD i 0 = (fil p n)[i] := by simp [h]
  rw [e]
  exact fil_mem.1 (List.getElem_mem h)
theorem fil_up {p : Nat → Bool} {n i j : Nat} (hj : j < (fil p n).length) (hij : i < j) : (fil p n).getD i 0 < (fil p n).getD j 0 := by
  have hi : i < (fil p n).length := by omega
  have e1 : (fil p n).getD i 0 = (fil p n)[i] := by simp [hi]
  have e2 : (fil p n).getD j 0 = (fil p n)[j] := by simp [hj]
  rw [e1, e2]
  exact List.pairwise_iff_getElem.1 (List.Pairwise.filter p List.pairwise_lt_range) i j hi hj hij
theorem fil_mono {p q : Nat → Bool} (h : ∀ j, p j = true → q j = true) (n : Nat) : (fil p n).length ≤ (fil q n).length := by
  induction n with
  | zero => simp [fil]
  | succ n ih =>
    cases hp : p n
    · rw [fil_no hp]
      cases hq : q n
      · rw [fil_no hq]; exact ih
      · rw [fil_yes hq]; simp; omega
    · rw [fil_yes hp, fil_yes (h n hp)]
      simp
      exact ih
theorem fil_one {p : Nat → Bool} {n k : Nat} (hk : k < n) (h : p k = true) : 1 ≤ (fil p n).length := by
  have : k ∈ fil p n := fil_mem.2 ⟨hk, h⟩
  exact List.length_pos_of_mem this
theorem pr_self (N : Nat) (k : Nat) {r : Int} (hr : 0 ≤ r) : pr N ((k % N : Nat) : Int) ((k / N : Nat) : Int) r k = true := pr_iff.2 ⟨by omega, by omega, by omega, by omega⟩
theorem pr_more {N : Nat} {x y r : Int} {j : Nat} (h : pr N x y r j = true) : pr N x y (r + 1) j = true := by
  have := pr_iff.1 h
  exact pr_iff.2 ⟨by omega, by omega, by omega, by omega⟩
/-- Two spots that lie beside one another are one. -/
theorem top_apart {N len : Nat} {f : Nat → Int} {j k : Nat} (hj : j < len) (hk : k < len) (tj : top N len f j) (tk : top N len f k) (hx : -1 ≤ ((k % N : Nat) : Int) - ((j % N : Nat) : Int) ∧ ((k % N : Nat) : Int) - ((j % N : Nat) : Int) ≤ 1) (hy : -1 ≤ ((k / N : Nat) : Int) - ((j / N : Nat) : Int) ∧ ((k / N : Nat) : Int) - ((j / N : Nat) : Int) ≤ 1) : j = k := by
  have h1 := tk j hj (pr_iff.2 ⟨by omega, by omega, by omega, by omega⟩)
  have h2 := tj k hk (pr_iff.2 ⟨by omega, by omega, by omega, by omega⟩)
  unfold bad at h1 h2
  omega
/-- The first greatest. -/
def Fst (f : Nat → Int) (n b : Nat) : Prop := (∀ j, j < n → f j ≤ f b) ∧ ∀ j, j < b → f j < f b
theorem Fst.start (f : Nat → Int) : Fst f 0 0 := ⟨fun j hj => by omega, fun j hj => by omega⟩
theorem Fst.take {f : Nat → Int} {n b : Nat} (h : Fst f n b) (hg : f b < f n) : Fst f (n + 1) n := by
  refine ⟨fun j hj => ?_, fun j hj => ?_⟩
  · by_cases e : j = n
    · subst e; exact Int.le_refl _
    · have := h.1 j (by omega); omega
  · have := h.1 j hj; omega
theorem Fst.stay {f : Nat → Int} {n b : Nat} (h : Fst f n b) (hg : ¬ f b < f n) : Fst f (n + 1) b := by
  refine ⟨fun j hj => ?_, h.2⟩
  by_cases e : j = n
  · subst e; omega
  · exact h.1 j (by omega)
theorem Fst.sp {N len : Nat} {f : Nat → Int} {lv : Int} {b : Nat} (h : Fst f len b) : sp N len f lv b = true ↔ lv ≤ f b := by
  rw [sp_iff]
  refine ⟨fun h => h.1, fun hl => ⟨hl, fun j hj _ hb => ?_⟩⟩
  have h1 := h.1 j hj
  rcases hb with h2 | ⟨h2, h3⟩
  · omega
  · have := h.2 j h3; omega
theorem rowcol (N k : Nat) : ((k / N : Nat) : Int) * (N : Int) + ((k % N : Nat) : Int) = (k : Int) := by
  have := Nat.div_add_mod k N
  have h2 : k / N * N + k % N = k := by rw [Nat.mul_comm]; exact this
  exact_mod_cast h2
end Go.Proofs.Ytfgehmcloeebkaa
