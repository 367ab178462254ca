/-
  Signs that follow from an origin moved by halves: what they are; parity walked.
-/
import Derived.Test.YtpelbbkkdmlmiaaT15h
namespace Go.Proofs.Ytpelbbkkdmlmiaa
open Go.RowKit

/-- The told sum. -/
def sel (k : Nat) (a b c : Int) : Int := (if k % 2 = 1 then a else 0) + (if k / 2 % 2 = 1 then b else 0) + (if k / 4 = 1 then c else 0)
def par (k : Nat) (a b c : Int) : Int := if sel k a b c % 2 = 0 then 1 else -1
theorem sel_add (k : Nat) (a b c a' b' c' : Int) : sel k (a + a') (b + b') (c + c') = sel k a b c + sel k a' b' c' := by
  unfold sel
  split <;> split <;> split <;> omega
theorem par_add (k : Nat) (a b c a' b' c' : Int) : par k (a + a') (b + b') (c + c') = 1 ↔ par k a b c = par k a' b' c' := by
  unfold par
  rw [sel_add]
  split <;> split <;> split <;> omega
theorem par_two (k : Nat) (a b c : Int) : par k a b c = 1 ∨ par k a b c = -1 := by
  unfold par
  split <;> simp
theorem parity_any (k : Nat) (a b c : Int) (w : World) (hk : k < 8) (ha : r100 a) (hb : r100 b) (hc : r100 c) : Calls Try.prog 25 #[.int .i64 (k : Int), .int .i64 a, .int .i64 b, .int .i64 c] w fun e w' => e = .returned (.int .i64 (par k a b c)) ∧ w = w' := by
  obtain ⟨a1, a2⟩ := ha
  obtain ⟨b1, b2⟩ := hb
  obtain ⟨c1, c2⟩ := hc
  have E : ∀ s : Int, Int.tmod s 2 = 0 ↔ s % 2 = 0 := fun s => by
    rw [← Int.dvd_iff_tmod_eq_zero, Int.dvd_iff_emod_eq_zero]
  rcases (by omega : k = 0 ∨ k = 1 ∨ k = 2 ∨ k = 3 ∨ k = 4 ∨ k = 5 ∨ k = 6 ∨ k = 7) with rfl | rfl | rfl | rfl | rfl | rfl | rfl | rfl
  · have P : par 0 a b c = if Int.tmod (0) 2 = 0 then 1 else -1 := by
      unfold par
      rw [show sel 0 a b c = 0 by unfold sel; simp <;> omega]
      by_cases h : Int.tmod (0) 2 = 0
      · rw [if_pos h, if_pos ((E _).1 h)]
      · rw [if_neg h, if_neg (fun q => h ((E _).2 q))]
    rw [P]
    clear P E
    by_cases h : Int.tmod (0) 2 = 0
    · rw [if_pos h]
      have h' : (Int.tmod (0) 2 != 0) = false := by simp [h]
      go_enter Try.func25, Try.ntmps25
      go_wp2
      all_goals (go_ret; exact ⟨rfl, rfl⟩)
    · exact absurd (by decide) h
  · have P : par 1 a b c = if Int.tmod (a) 2 = 0 then 1 else -1 := by
      unfold par
      rw [show sel 1 a b c = a by unfold sel; simp <;> omega]
      by_cases h : Int.tmod (a) 2 = 0
      · rw [if_pos h, if_pos ((E _).1 h)]
      · rw [if_neg h, if_neg (fun q => h ((E _).2 q))]
    rw [P]
    clear P E
    by_cases h : Int.tmod (a) 2 = 0
    · rw [if_pos h]
      have h' : (Int.tmod (a) 2 != 0) = false := by simp [h]
      go_enter Try.func25, Try.ntmps25
      go_wp2
      all_goals (go_ret; exact ⟨rfl, rfl⟩)
    · rw [if_neg h]
      have h' : (Int.tmod (a) 2 != 0) = true := by simpa using h
      go_enter Try.func25, Try.ntmps25
      go_wp2
      all_goals (go_ret; exact ⟨rfl, rfl⟩)
  · have P : par 2 a b c = if Int.tmod (b) 2 = 0 then 1 else -1 := by
      unfold par
      rw [show sel 2 a b c = b by unfold sel; simp <;> omega]
      by_cases h : Int.tmod (b) 2 = 0
      · rw [if_pos h, if_pos ((E _).1 h)]
      · rw [if_neg h, if_neg (fun q => h ((E _).2 q))]
    rw [P]
    clear P E
    by_cases h : Int.tmod (b) 2 = 0
    · rw [if_pos h]
      have h' : (Int.tmod (b) 2 != 0) = false := by simp [h]
      go_enter Try.func25, Try.ntmps25
      go_wp2
      all_goals (go_ret; exact ⟨rfl, rfl⟩)
    · rw [if_neg h]
      have h' : (Int.tmod (b) 2 != 0) = true := by simpa using h
      go_enter Try.func25, Try.ntmps25
      go_wp2
      all_goals (go_ret; exact ⟨rfl, rfl⟩)
  · have P : par 3 a b c = if Int.tmod (a + b) 2 = 0 then 1 else -1 := by
      unfold par
      rw [show sel 3 a b c = a + b by unfold sel; simp <;> omega]
      by_cases h : Int.tmod (a + b) 2 = 0
      · rw [if_pos h, if_pos ((E _).1 h)]
      · rw [if_neg h, if_neg (fun q => h ((E _).2 q))]
    rw [P]
    clear P E
    by_cases h : Int.tmod (a + b) 2 = 0
    · rw [if_pos h]
      have h' : (Int.tmod (a + b) 2 != 0) = false := by simp [h]
      go_enter Try.func25, Try.ntmps25
      go_wp2
      all_goals (go_ret; exact ⟨rfl, rfl⟩)
    · rw [if_neg h]
      have h' : (Int.tmod (a + b) 2 != 0) = true := by simpa using h
      go_enter Try.func25, Try.ntmps25
      go_wp2
      all_goals (go_ret; exact ⟨rfl, rfl⟩)
  · have P : par 4 a b c = if Int.tmod (c) 2 = 0 then 1 else -1 := by
      unfold par
      rw [show sel 4 a b c = c by unfold sel; simp <;> omega]
      by_cases h : Int.tmod (c) 2 = 0
      · rw [if_pos h, if_pos ((E _).1 h)]
      · rw [if_neg h, if_neg (fun q => h ((E _).2 q))]
    rw [P]
    clear P E
    by_cases h : Int.tmod (c) 2 = 0
    · rw [if_pos h]
      have h' : (Int.tmod (c) 2 != 0) = false := by simp [h]
      go_enter Try.func25, Try.ntmps25
      go_wp2
      all_goals (go_ret; exact ⟨rfl, rfl⟩)
    · rw [if_neg h]
      have h' : (Int.tmod (c) 2 != 0) = true := by simpa using h
      go_enter Try.func25, Try.ntmps25
      go_wp2
      all_goals (go_ret; exact ⟨rfl, rfl⟩)
  · have P : par 5 a b c = if Int.tmod (a + c) 2 = 0 then 1 else -1 := by
      unfold par
      rw [show sel 5 a b c = a + c by unfold sel; simp <;> omega]
      by_cases h : Int.tmod (a + c) 2 = 0
      · rw [if_pos h, if_pos ((E _).1 h)]
      · rw [if_neg h, if_neg (fun q => h ((E _).2 q))]
    rw [P]
    clear P E
    by_cases h : Int.tmod (a + c) 2 = 0
    · rw [if_pos h]
      have h' : (Int.tmod (a + c) 2 != 0) = false := by simp [h]
      go_enter Try.func25, Try.ntmps25
      go_wp2
      all_goals (go_ret; exact ⟨rfl, rfl⟩)
    · rw [if_neg h]
      have h' : (Int.tmod (a + c) 2 != 0) = true := by simpa using h
      go_enter Try.func25, Try.ntmps25
      go_wp2
      all_goals (go_ret; exact ⟨rfl, rfl⟩)
  · have P : par 6 a b c = if Int.tmod (b + c) 2 = 0 then 1 else -1 := by
      unfold par
      rw [show sel 6 a b c = b + c by unfold sel; simp <;> omega]
      by_cases h : Int.tmod (b + c) 2 = 0
      · rw [if_pos h, if_pos ((E _).1 h)]
      · rw [if_neg h, if_neg (fun q => h ((E _).2 q))]
    rw [P]
    clear P E
    by_cases h : Int.tmod (b + c) 2 = 0
    · rw [if_pos h]
      have h' : (Int.tmod (b + c) 2 != 0) = false := by simp [h]
      go_enter Try.func25, Try.ntmps25
      go_wp2
      all_goals (go_ret; exact ⟨rfl, rfl⟩)
    · rw [if_neg h]
      have h' : (Int.tmod (b + c) 2 != 0) = true := by simpa using h
      go_enter Try.func25, Try.ntmps25
      go_wp2
      all_goals (go_ret; exact ⟨rfl, rfl⟩)
  · have P : par 7 a b c = if Int.tmod (a + b + c) 2 = 0 then 1 else -1 := by
      unfold par
      rw [show sel 7 a b c = a + b + c by unfold sel; simp <;> omega]
      by_cases h : Int.tmod (a + b + c) 2 = 0
      · rw [if_pos h, if_pos ((E _).1 h)]
      · rw [if_neg h, if_neg (fun q => h ((E _).2 q))]
    rw [P]
    clear P E
    by_cases h : Int.tmod (a + b + c) 2 = 0
    · rw [if_pos h]
      have h' : (Int.tmod (a + b + c) 2 != 0) = false := by simp [h]
      go_enter Try.func25, Try.ntmps25
      go_wp2
      all_goals (go_ret; exact ⟨rfl, rfl⟩)
    · rw [if_neg h]
      have h' : (Int.tmod (a + b + c) 2 != 0) = true := by simpa using h
      go_enter Try.func25, Try.ntmps25
      go_wp2
      all_goals (go_ret; exact ⟨rfl, rfl⟩)
/-- The signs of the list are those of the sums. -/
def Evn (k n : Nat) (f : Nat → Int) : Prop := ∀ i, i < n → f (i * 4 + 3) = par k (f (i * 4)) (f (i * 4 + 1)) (f (i * 4 + 2))
theorem evn_adds {k n : Nat} {f : Nat → Int} (h : Evn k n f) {a b c : Int} {i j : Nat} (hi : i < n) (hj : j < n) (had : adds f a b c i j = true) : alik f i j = true ↔ par k a b c = 1 := by
  obtain ⟨e1, e2, e3⟩ := (adds_iff f a b c i j).1 had
  unfold alik
  rw [decide_eq_true_eq, h i hi, h j hj, ← e1, ← e2, ← e3, par_add]
  exact ⟨fun e => e.symm, fun e => e.symm⟩
theorem evn_mi {k n : Nat} {f : Nat → Int} (h : Evn k n f) {a b c : Int} (hp : par k a b c = 1) : mi f n a b c = 0 := by
  refine ds_none n fun i j hi hj => ?_
  unfold pM
  cases had : adds f a b c i j with
  | false => rfl
  | true => rw [(evn_adds h hi (by omega) had).2 hp]; rfl
theorem evn_pl {k n : Nat} {f : Nat → Int} (h : Evn k n f) {a b c : Int} (hp : par k a b c = -1) : pl f n a b c = 0 := by
  refine ds_none n fun i j hi hj => ?_
  unfold pP
  cases had : adds f a b c i j with
  | false => rfl
  | true =>
    have : alik f i j = false := by
      cases ha : alik f i j with
      | false => rfl
      | true =>
        have := (evn_adds h hi (by omega) had).1 ha
        rw [hp] at this
        omega
    rw [this]; rfl
theorem evn_tM {k n : Nat} {f : Nat → Int} (h : Evn k n f) : ∀ i, i ≤ n → tM f n i = 0
  | 0, _ => rfl
  | i + 1, hi => by
    rw [tM, evn_tM h i (by omega), h i (by omega)]
    rcases par_two k (f (i * 4)) (f (i * 4 + 1)) (f (i * 4 + 2)) with e | e
    · rw [if_neg (by rw [e]; omega), evn_mi h e]
    · rw [if_pos (by rw [e]; omega), evn_pl h e]
theorem evn_ded {k n : Nat} {f : Nat → Int} (h : Evn k n f) {a b c t : Int} (ht : 1 ≤ t) : ded f n a b c t = 0 ∨ ded f n a b c t = par k a b c := by
  unfold ded
  rcases par_two k a b c with e | e
  · rw [evn_mi h e, e]
    split
    · exact .inr rfl
    · split
      · omega
      · exact .inl rfl
  · rw [evn_pl h e, e]
    split
    · omega
    · split
      · exact .inr rfl
      · exact .inl rfl
end Go.Proofs.Ytpelbbkkdmlmiaa
