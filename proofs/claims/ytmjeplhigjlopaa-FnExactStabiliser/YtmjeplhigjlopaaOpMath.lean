/-
  The mathematics of operators: products hang on no bracketing, the way back is one on either side. No function of the program.
-/
import Derived.Test.YtmjeplhigjlopaaOpO
import Derived.Test.YtmjeplhigjlopaaOpU
namespace Go.Proofs.Ytmjeplhigjlopaa
open Go.RowKit

theorem mulM_at (f g : Nat → Int) (i : Nat) : mulM f g i = f (3 * (i / 3)) * g (i % 3) + f (3 * (i / 3) + 1) * g (3 + i % 3) + f (3 * (i / 3) + 2) * g (6 + i % 3) := by
  show 0 + f (3 * (i / 3) + 0) * g (3 * 0 + i % 3) + f (3 * (i / 3) + 1) * g (3 * 1 + i % 3) + f (3 * (i / 3) + 2) * g (3 * 2 + i % 3) = _
  simp
theorem movV_at (f h : Nat → Int) (a : Nat) : movV f h a = f (3 * a) * h 0 + f (3 * a + 1) * h 1 + f (3 * a + 2) * h 2 := by
  show 0 + f (3 * a + 0) * h 0 + f (3 * a + 1) * h 1 + f (3 * a + 2) * h 2 = _
  simp
theorem mulM_assoc (f g k : Nat → Int) (i : Nat) (hi : i < 9) : mulM (mulM f g) k i = mulM f (mulM g k) i := by
  rcases (by omega : i = 0 ∨ i = 1 ∨ i = 2 ∨ i = 3 ∨ i = 4 ∨ i = 5 ∨ i = 6 ∨ i = 7 ∨ i = 8) with rfl | rfl | rfl | rfl | rfl | rfl | rfl | rfl | rfl <;> simp only [mulM_at] <;> simp <;> grind
theorem movV_mul (f g h : Nat → Int) (a : Nat) (ha : a < 3) : movV (mulM f g) h a = movV f (movV g h) a := by
  rcases (by omega : a = 0 ∨ a = 1 ∨ a = 2) with rfl | rfl | rfl <;> simp only [movV_at, mulM_at] <;> simp <;> grind
theorem movV_add (f h k : Nat → Int) (a : Nat) : movV f (fun i => h i + k i) a = movV f h a + movV f k a := by
  simp only [movV_at]; grind
/-- What is alike but for multiples of 24 is taken so. -/
theorem movV_mod (f h : Nat → Int) (a : Nat) : movV f (fun i => h i % 24) a % 24 = movV f h a % 24 := by
  simp only [movV_at]
  have h0 := Int.emod_add_mul_ediv (h 0) 24
  have h1 := Int.emod_add_mul_ediv (h 1) 24
  have h2 := Int.emod_add_mul_ediv (h 2) 24
  generalize h 0 / 24 = q0 at h0
  generalize h 1 / 24 = q1 at h1
  generalize h 2 / 24 = q2 at h2
  generalize h 0 % 24 = r0 at h0 ⊢
  generalize h 1 % 24 = r1 at h1 ⊢
  generalize h 2 % 24 = r2 at h2 ⊢
  rw [← h0, ← h1, ← h2]
  have e : f (3 * a) * (r0 + 24 * q0) + f (3 * a + 1) * (r1 + 24 * q1) + f (3 * a + 2) * (r2 + 24 * q2) = (f (3 * a) * r0 + f (3 * a + 1) * r1 + f (3 * a + 2) * r2) + 24 * (f (3 * a) * q0 + f (3 * a + 1) * q1 + f (3 * a + 2) * q2) := by grind
  rw [e, Int.add_mul_emod_self_left]
theorem behV_assoc (f h g h' h'' : Nat → Int) (a : Nat) (ha : a < 3) : behV (mulM f g) (behV f h h') h'' a = behV f h (behV g h' h'') a := by
  have e1 : behV (mulM f g) (behV f h h') h'' a = (movV (mulM f g) h'' a + (movV f h' a + h a)) % 24 := by
    show (movV (mulM f g) h'' a + (movV f h' a + h a) % 24) % 24 = _
    omega
  have e2 : behV f h (behV g h' h'') a = (movV f (fun i => movV g h'' i + h' i) a + h a) % 24 := by
    show (movV f (fun i => (movV g h'' i + h' i) % 24) a + h a) % 24 = _
    have := movV_mod f (fun i => movV g h'' i + h' i) a
    omega
  rw [e1, e2, movV_add, movV_mul f g h'' a ha, Int.add_assoc]
theorem mul_one (f : Nat → Int) (i : Nat) (hi : i < 9) : mulM f oneF i = f i ∧ mulM oneF f i = f i := by
  rcases (by omega : i = 0 ∨ i = 1 ∨ i = 2 ∨ i = 3 ∨ i = 4 ∨ i = 5 ∨ i = 6 ∨ i = 7 ∨ i = 8) with rfl | rfl | rfl | rfl | rfl | rfl | rfl | rfl | rfl <;> simp only [mulM_at] <;> simp [oneF]
theorem mul_back {f : Nat → Int} (hd : det3 f = 1 ∨ det3 f = -1) (i : Nat) (hi : i < 9) : mulM f (backM f) i = oneF i ∧ mulM (backM f) f i = oneF i := by
  have h1 : det3 f * det3 f = 1 := by rcases hd with e | e <;> rw [e] <;> rfl
  have hdet : det3 f = f 0 * (f 4 * f 8 - f 5 * f 7) - f 1 * (f 3 * f 8 - f 5 * f 6) + f 2 * (f 3 * f 7 - f 4 * f 6) := rfl
  rcases (by omega : i = 0 ∨ i = 1 ∨ i = 2 ∨ i = 3 ∨ i = 4 ∨ i = 5 ∨ i = 6 ∨ i = 7 ∨ i = 8) with rfl | rfl | rfl | rfl | rfl | rfl | rfl | rfl | rfl <;> simp only [mulM_at, backM] <;> simp [oneF, adj] <;> generalize det3 f = D at * <;> constructor <;> grind
theorem behV_back {f h : Nat → Int} (hR : isR f h) (a : Nat) (ha : a < 3) : behV f h (backV f h) a = 0 := by
  have e1 : behV f h (backV f h) a = (movV f (fun i => -movV (backM f) h i) a + h a) % 24 := by
    show (movV f (fun i => (-movV (backM f) h i) % 24) a + h a) % 24 = _
    have := movV_mod f (fun i => -movV (backM f) h i) a
    omega
  have e2 : movV f (fun i => -movV (backM f) h i) a = -movV f (movV (backM f) h) a := by simp only [movV_at f]; grind
  have e3 : movV (mulM f (backM f)) h a = h a := by
    rw [movV_at, (mul_back hR.2.2 (3 * a) (by omega)).1, (mul_back hR.2.2 (3 * a + 1) (by omega)).1, (mul_back hR.2.2 (3 * a + 2) (by omega)).1]
    rcases (by omega : a = 0 ∨ a = 1 ∨ a = 2) with rfl | rfl | rfl <;> simp [oneF]
  rw [e1, e2, ← movV_mul f (backM f) h a ha, e3]
  omega
theorem back_behV {f h : Nat → Int} (a : Nat) : behV (backM f) (backV f h) h a = 0 := by
  show (movV (backM f) h a + (-movV (backM f) h a) % 24) % 24 = 0
  omega
end Go.Proofs.Ytmjeplhigjlopaa
