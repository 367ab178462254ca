/-
  Unsqueeze of what Squeeze wrote gives the frame back. No walk.
-/
import Derived.Test.YtfgehmcloeebkaaYa
import Derived.Test.YtfgehmcloeebkaaZa
namespace Go.Proofs.Ytfgehmcloeebkaa
open Go.RowKit

theorem unf_fo (s : Int) : unf (fo s : Int) = s := by
  unfold unf fo
  split <;> split <;> omega
/-- The list l lies in F from p on. -/
def LiesAt (F : Nat → Int) (p : Nat) (l : List Int) : Prop := ∀ i, i < l.length → F (p + i) = l.getD i 0
theorem LiesAt.left {F : Nat → Int} {p : Nat} {l l' : List Int} (h : LiesAt F p (l ++ l')) : LiesAt F p l := fun i hi => by
  rw [h i (by simp; omega)]
  simp [List.getElem?_append_left hi]
theorem LiesAt.right {F : Nat → Int} {p : Nat} {l l' : List Int} (h : LiesAt F p (l ++ l')) : LiesAt F (p + l.length) l' := fun i hi => by
  have := h (l.length + i) (by simp; omega)
  rw [Nat.add_assoc, this]
  simp [List.getElem?_append_right]
theorem st_gr {F : Nat → Int} {n p m : Nat} (hm : m ≤ 131070) (h : LiesAt F p (gr 2 m)) (hn : p + (gr 2 m).length ≤ n) : st F n p = some (unf (m : Int), (gr 2 m).length) := by
  by_cases h1 : m < 128
  · rw [gr_small h1] at h hn ⊢
    have e0 := h 0 (by simp)
    simp at e0 hn
    simp only [st, if_pos (show p < n by omega), e0, if_pos (show (m : Int) < 128 by omega)]
    rfl
  · have e1 : gr 2 m = ((128 + m % 128 : Nat) : Int) :: gr 1 (m / 128) := gr_big h1
    rw [e1] at h hn ⊢
    by_cases h2 : m / 128 < 128
    · rw [gr_small h2] at h hn ⊢
      have e0 := h 0 (by simp)
      have e2 := h 1 (by simp)
      simp at e0 e2 hn
      have g1 : ¬ F p < 128 := by omega
      have g2 : F (p + 1) < 128 := by omega
      have g3 : ¬ F (p + 1) = 0 := by omega
      have g4 : F p - 128 + 128 * F (p + 1) = (m : Int) := by omega
      simp only [st, if_pos (show p < n by omega), if_neg g1, if_pos (show p + 1 < n by omega), if_pos g2, if_neg g3, g4]
      rfl
    · have e3 : gr 1 (m / 128) = ((128 + m / 128 % 128 : Nat) : Int) :: gr 0 (m / 128 / 128) := gr_big h2
      have e4 : gr 0 (m / 128 / 128) = [((m / 128 / 128 : Nat) : Int)] := rfl
      rw [e3, e4] at h hn ⊢
      have e0 := h 0 (by simp)
      have e2 := h 1 (by simp)
      have e5 := h 2 (by simp)
      simp at e0 e2 e5 hn
      have g1 : ¬ F p < 128 := by omega
      have g2 : ¬ F (p + 1) < 128 := by omega
      have g3 : F (p + 2) < 128 := by omega
      have g4 : ¬ F (p + 2) = 0 := by omega
      have g5 : F p - 128 + 128 * (F (p + 1) - 128) + 16384 * F (p + 2) = (m : Int) := by omega
      simp only [st, if_pos (show p < n by omega), if_neg g1, if_pos (show p + 1 < n by omega), if_neg g2, if_pos (show p + 2 < n by omega), if_pos g3, if_neg g4, g5]
      rfl
theorem sqL_pre (f : Nat → Int) {k M : Nat} (h : k ≤ M) : ∃ l, sqL f M = sqL f k ++ l := by
  induction M with
  | zero => exact ⟨[], by simp [Nat.le_zero.1 h]⟩
  | succ M ih =>
    by_cases e : k = M + 1
    · subst e; exact ⟨[], by simp⟩
    · obtain ⟨l, hl⟩ := ih (by omega)
      exact ⟨l ++ gr 2 (fo (f M - la f M)), by simp [sqL, hl]⟩
/-- What was written is read: the first k pixels. -/
theorem un_sq {F f : Nat → Int} {n M : Nat} (hf : ∀ i, i < M → 0 ≤ f i ∧ f i ≤ 65535) (h : LiesAt F 2 (sqL f M)) (hn : 2 + (sqL f M).length ≤ n) {k : Nat} (hk : k ≤ M) : unS F n k = some (2 + (sqL f k).length, la f k, (List.range k).map f) := by
  induction k with
  | zero => simp [unS, sqL, la]
  | succ k ih =>
    have h0 := ih (by omega)
    obtain ⟨l, hl⟩ := sqL_pre f hk
    have hlk : sqL f (k + 1) = sqL f k ++ gr 2 (fo (f k - la f k)) := rfl
    rw [hl] at h hn
    have h1 := h.left
    rw [hlk] at h1
    have h2 := h1.right
    have hr := hf k (by omega)
    have hla : 0 ≤ la f k ∧ la f k ≤ 65535 := by
      unfold la
      split
      · omega
      · exact hf (k - 1) (by omega)
    have hs := st_gr (n := n) (fo_le (s := f k - la f k) (by omega)) h2 (by rw [hlk] at hn; simp at hn; omega)
    rw [unf_fo] at hs
    have := unS_step h0 hs (by omega)
    have e9 : la f k + (f k - la f k) = f k := by omega
    rw [e9] at this
    have e8 : la f (k + 1) = f k := by simp [la]
    rw [this, hlk, e8]
    simp [List.range_succ, Nat.add_assoc]
/-- All of it, and nothing behind it. -/
theorem un_back {F f : Nat → Int} {n M : Nat} (hM : (F 0 * F 1).toNat = M) (hd : hdr F n) (hf : ∀ i, i < M → 0 ≤ f i ∧ f i ≤ 65535) (h : LiesAt F 2 (sqL f M)) (hn : n = 2 + (sqL f M).length) : UnT F n (F 0) (F 1) M (fun i => ((List.range M).map f).getD i 0) (-1) := by
  have := un_sq (n := n) hf h (by omega) (Nat.le_refl M)
  exact .inr (.inr (.inr ⟨hd, _, _, _, by rw [hM]; exact this, by omega, rfl, rfl, rfl, hM.symm, rfl⟩))
/-- A byte more is told where it lies. -/
theorem un_more {F f : Nat → Int} {n M : Nat} (hM : (F 0 * F 1).toNat = M) (hd : hdr F n) (hf : ∀ i, i < M → 0 ≤ f i ∧ f i ≤ 65535) (h : LiesAt F 2 (sqL f M)) (hn : 2 + (sqL f M).length < n) : UnT F n 0 0 0 (fun _ => 0) ((2 + (sqL f M).length : Nat) : Int) := by
  have := un_sq (n := n) hf h (by omega) (Nat.le_refl M)
  exact .inr (.inr (.inl ⟨⟨hd, _, _, _, by rw [hM]; exact this, hn, rfl⟩, rfl, rfl, rfl, rfl⟩))
theorem back_at (f : Nat → Int) {M i : Nat} (h : i < M) : ((List.range M).map f).getD i 0 = f i := by simp [h]
end Go.Proofs.Ytfgehmcloeebkaa
