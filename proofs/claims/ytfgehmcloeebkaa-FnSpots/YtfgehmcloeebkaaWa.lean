/-
  Numbers of pixels near a place: lists of them, their sums. No function of the program.
-/
import Derived.Test.YtfgehmcloeebkaaVa
namespace Go.Proofs.Ytfgehmcloeebkaa
open Go.RowKit

/-- Pixel j lies at most r columns and rows away from (x, y). -/
def pr (N : Nat) (x y r : Int) (j : Nat) : Bool := decide (x - r ≤ ((j % N : Nat) : Int) ∧ ((j % N : Nat) : Int) ≤ x + r ∧ y - r ≤ ((j / N : Nat) : Int) ∧ ((j / N : Nat) : Int) ≤ y + r)
theorem pr_iff {N : Nat} {x y r : Int} {j : Nat} : pr N x y r j = true ↔ (x - r ≤ ((j % N : Nat) : Int) ∧ ((j % N : Nat) : Int) ≤ x + r ∧ y - r ≤ ((j / N : Nat) : Int) ∧ ((j / N : Nat) : Int) ≤ y + r) := by simp [pr]
theorem pr_no {N : Nat} {x y r : Int} {j : Nat} (h : ¬ (x - r ≤ ((j % N : Nat) : Int) ∧ ((j % N : Nat) : Int) ≤ x + r ∧ y - r ≤ ((j / N : Nat) : Int) ∧ ((j / N : Nat) : Int) ≤ y + r)) : pr N x y r j = false := by
  rw [Bool.eq_false_iff]
  exact fun e => h (pr_iff.1 e)
theorem at_mod {N row col : Nat} (h : col < N) : (row * N + col) % N = col := by
  rw [Nat.mul_comm, Nat.mul_add_mod]
  exact Nat.mod_eq_of_lt h
theorem at_div {N row col : Nat} (h : col < N) : (row * N + col) / N = row := by
  rw [Nat.mul_comm, Nat.mul_add_div (by omega), Nat.div_eq_of_lt h]
  rfl
abbrev fil (p : Nat → Bool) (n : Nat) : List Nat := (List.range n).filter p
theorem fil_yes {p : Nat → Bool} {k : Nat} (h : p k = true) : fil p (k + 1) = fil p k ++ [k] := by simp [fil, List.range_succ, h]
theorem fil_no {p : Nat → Bool} {k : Nat} (h : p k = false) : fil p (k + 1) = fil p k := by simp [fil, List.range_succ, h]
theorem fil_gap {p : Nat → Bool} {a b : Nat} (hab : a ≤ b) (h : ∀ j, a ≤ j → j < b → p j = false) : fil p b = fil p a := by
  induction b with
  | zero => rw [Nat.le_zero.1 hab]
  | succ b ih =>
    by_cases e : a = b + 1
    · rw [e]
    · rw [fil_no (h b (by omega) (by omega))]
      exact ih (by omega) (fun j h1 h2 => h j h1 (by omega))
theorem fil_mem {p : Nat → Bool} {n j : Nat} : j ∈ fil p n ↔ j < n ∧ p j = true := by simp [fil]
/-- The sum of the numbers at these places. -/
def fs (f : Nat → Int) : List Nat → Int
  | [] => 0
  | j :: L => f j + fs f L
theorem fs_snoc (f : Nat → Int) (L : List Nat) (j : Nat) : fs f (L ++ [j]) = fs f L + f j := by
  induction L with
  | nil => simp [fs]
  | cons a L ih => simp only [List.cons_append, fs, ih]; omega
theorem fs_take (f : Nat → Int) (L : List Nat) {k : Nat} (h : k < L.length) : fs f (L.take (k + 1)) = fs f (L.take k) + f L[k] := by
  rw [List.take_succ_eq_append_getElem h, fs_snoc]
theorem fs_in {f : Nat → Int} {n : Nat} (hf : ∀ i, i < n → 0 ≤ f i ∧ f i ≤ 65535) (L : List Nat) (hL : ∀ j ∈ L, j < n) : 0 ≤ fs f L ∧ fs f L ≤ 65535 * L.length := by
  induction L with
  | nil => simp [fs]
  | cons a L ih =>
    have h1 := hf a (hL a (by simp))
    have h2 := ih (fun j hj => hL j (by simp [hj]))
    simp only [fs, List.length_cons]
    omega
theorem fil_len (p : Nat → Bool) (n : Nat) : (fil p n).length ≤ n := by
  have := List.length_filter_le p (List.range n)
  simpa using this
/-- Nothing ahead of the first row, between rows, behind the last one. -/
theorem gap_head {N : Nat} {x y r : Int} {row : Nat} (hN : 0 < N) (h : (row : Int) ≤ y - r ∨ row = 0) : fil (pr N x y r) (row * N) = [] := by
  have := fil_gap (p := pr N x y r) (a := 0) (b := row * N) (Nat.zero_le _) (fun j _ hj => pr_no (fun ⟨_, _, h3, _⟩ => by
    have h9 : j / N < row := (Nat.div_lt_iff_lt_mul hN).2 hj
    generalize j / N = q at h3 h9
    omega))
  rw [this]; rfl
theorem gap_left {N : Nat} {x y r : Int} {row col : Nat} (hc : col ≤ N) (h : (col : Int) ≤ x - r ∨ col = 0) : fil (pr N x y r) (row * N + col) = fil (pr N x y r) (row * N) := by
  refine fil_gap (by omega) (fun j h1 h2 => pr_no (fun ⟨h3, _⟩ => ?_))
  obtain ⟨c, rfl⟩ : ∃ c, j = row * N + c := ⟨j - row * N, by omega⟩
  rw [at_mod (by omega)] at h3
  omega
theorem gap_right {N : Nat} {x y r : Int} {row col : Nat} (hc : col ≤ N) (h : x + r < (col : Int) ∨ col = N) : fil (pr N x y r) ((row + 1) * N) = fil (pr N x y r) (row * N + col) := by
  have e : (row + 1) * N = row * N + N := Nat.succ_mul _ _
  refine fil_gap (by omega) (fun j h1 h2 => pr_no (fun ⟨_, h3, _⟩ => ?_))
  obtain ⟨c, rfl⟩ : ∃ c, j = row * N + c := ⟨j - row * N, by omega⟩
  rw [at_mod (by omega)] at h3
  omega
theorem gap_tail {N M : Nat} {x y r : Int} {row : Nat} (hN : 0 < N) (hr : row ≤ M) (h : y + r < (row : Int) ∨ row = M) : fil (pr N x y r) (M * N) = fil (pr N x y r) (row * N) := by
  refine fil_gap (Nat.mul_le_mul_right _ hr) (fun j h1 h2 => pr_no (fun ⟨_, _, _, h3⟩ => ?_))
  have a1 : row ≤ j / N := (Nat.le_div_iff_mul_le hN).2 h1
  have a2 : j / N < M := (Nat.div_lt_iff_lt_mul hN).2 h2
  generalize j / N = q at h3 a1 a2
  omega
theorem pr_at {N : Nat} {x y r : Int} {row col : Nat} (hc : col < N) (h1 : x - r ≤ (col : Int)) (h2 : (col : Int) ≤ x + r) (h3 : y - r ≤ (row : Int)) (h4 : (row : Int) ≤ y + r) : pr N x y r (row * N + col) = true := by
  rw [pr_iff, at_mod hc, at_div hc]
  exact ⟨h1, h2, h3, h4⟩
/-- The cells of numbers. -/
def nC (L : List Nat) : List Value := L.map fun (j : Nat) => .int .i64 (j : Int)
theorem nC_add (L : List Nat) (j : Nat) : nC L ++ [.int .i64 (j : Int)] = nC (L ++ [j]) := by simp [nC]
/-- A list of numbers of one's own. -/
def NmR (w : World) (base : Nat) (v : Value) (L : List Nat) : Prop := v ≠ .slice none 0 0 ∧ w.ownsRow base 2 1 v L.length (nC L)
theorem NmR.open {w : World} {base : Nat} {v : Value} {L : List Nat} (h : NmR w base v L) : ∃ g c, v = .slice (some ⟨g, 0, none⟩) L.length c ∧ base ≤ g ∧ g < w.heap.size ∧ ∀ i (hi : i < L.length), w.cell? ⟨g, i, none⟩ = some (.int .i64 (L[i] : Int)) := by
  obtain ⟨h0, hl, h1⟩ := h
  rcases h1 with ⟨h1, -⟩ | ⟨g, c, cur, rfl, hb, hh, hc1, hc2, hsz, ht⟩
  · exact absurd h1 h0
  · refine ⟨g, c, rfl, hb, (Array.getElem?_eq_some_iff.1 hh).1, fun i hi => ?_⟩
    have a1 : (nC L)[i]? = some (.int .i64 (L[i] : Int)) := by simp [nC, hi]
    rw [← ht] at a1
    rw [List.getElem?_take_of_lt (by omega)] at a1
    simp only [World.cell?, hh]
    simpa using a1
theorem NmR.below {w w' : World} {base : Nat} {v : Value} {L : List Nat} (h : NmR w base v L) (hb : Below w.heap.size w w') : NmR w' base v L := by
  refine ⟨h.1, h.2.1, h.2.2.imp id ?_⟩
  rintro ⟨g, cap, cur, rfl, h1, h2, h3⟩
  exact ⟨g, cap, cur, rfl, h1, (hb.block g (Array.getElem?_eq_some_iff.1 h2).1).trans h2, h3⟩
end Go.Proofs.Ytfgehmcloeebkaa
