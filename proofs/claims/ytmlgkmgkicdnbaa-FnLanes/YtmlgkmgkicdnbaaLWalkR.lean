/-
  The law FnLanes, walked.
-/
import Derived.Test.YtmlgkmgkicdnbaaLWalkO
namespace Go.Proofs.Ytmlgkmgkicdnbaa
open Go.RowKit Fl

theorem ab_some {x y : Nat} (h : ab .f64 x = some y) : x = y := by
  replace h : (if isn Ieee.double x = true then none else some x) = some y := h
  split at h
  · cases h
  · cases h; rfl

/-- A row that is owned, its value written out. -/
theorem own_form {w : World} {base : Nat} {v : Value} {n : Nat} {xs : List Value} (h : w.ownsRow base 28 2 v n xs) (hv : v ≠ .slice none 0 0) :
    ∃ g cap, v = .slice (some ⟨g, 0, none⟩) n cap ∧ base ≤ g ∧ g < w.heap.size := by
  rcases h.2 with ⟨h1, _⟩ | ⟨g, cap, cur, hv', hb, hh, _⟩
  · exact absurd h1 hv
  · exact ⟨g, cap, hv', hb, (Array.getElem?_eq_some_iff.1 hh).1⟩

theorem own_news {w : World} {base g n cap : Nat} {xs : List Value} (h : w.ownsRow base 28 2 (.slice (some ⟨g, 0, none⟩) n cap) n xs) : ∀ j u, xs[j]? = some u → w.cell? ((⟨g, 0, none⟩ : Addr).add j) = some u := by
  rcases h.2 with ⟨h1, _⟩ | ⟨g', cap', cur, hv, _, hh, _, _, _, ht⟩
  · cases h1
  · cases hv
    intro j u hj
    refine World.news_of_block hh j u ?_
    rw [← ht] at hj
    by_cases hlt : j < n * 2
    · rwa [List.getElem?_take_of_lt hlt] at hj
    · rw [List.getElem?_eq_none (by simp; omega)] at hj; cases hj

theorem cx_one (f : Nat → Nat × Nat) (n : Nat) : ∀ u ∈ cxCells f n, u.oneCell' = true := by
  induction n with
  | zero => intro u hu; cases hu
  | succ n ih =>
    intro u hu
    unfold cxCells at hu
    rcases List.mem_append.1 hu with h | h
    · exact ih u h
    · simp at h; rcases h with rfl | rfl <;> rfl

theorem own_grown {w w' : World} {base B : Nat} {v : Value} {n : Nat} {xs : List Value} {row : Option Nat} (h : w.ownsRow base 28 2 v n xs) (hg : w.grownBy w' row) (hr : ∀ k, row = some k → B ≤ k) (hv : ∀ g, v.ownBlock = some g → g < B) : w'.ownsRow base 28 2 v n xs := by
  refine ⟨h.1, h.2.imp id ?_⟩
  rintro ⟨g, cap, cur, rfl, hb, hh, r⟩
  have := hv g rfl
  exact ⟨g, cap, cur, rfl, hb, (hg.block g (Array.getElem?_eq_some_iff.1 hh).1 (fun e => by have := hr g e.symm; omega)).trans hh, r⟩
theorem own_below {w w' : World} {base : Nat} {v : Value} {n : Nat} {xs : List Value} (h : w.ownsRow base 28 2 v n xs) (hb : Below w.heap.size w w') : w'.ownsRow base 28 2 v n xs := by
  refine ⟨h.1, h.2.imp id ?_⟩
  rintro ⟨g, cap, cur, rfl, hbb, hh, r⟩
  exact ⟨g, cap, cur, rfl, hbb, (hb.block g (Array.getElem?_eq_some_iff.1 hh).1).trans hh, r⟩
theorem own_empty (w : World) : (w.alloc (.cells #[] 28)).ownsRow w.heap.size 28 2 (.slice (some ⟨w.heap.size, 0, none⟩) 0 0) 0 [] :=
  ⟨rfl, .inr ⟨w.heap.size, 0, #[], rfl, Nat.le_refl _, heap_alloc_new _ _, Nat.le_refl _, Nat.zero_le _, rfl, rfl⟩⟩

/-- Four noughts behind. -/
def pad (f : Nat → Nat × Nat) (n : Nat) : Nat → Nat × Nat := fun i => if i < n then f i else (0, 0)
theorem pad_cells (f : Nat → Nat × Nat) (n : Nat) : cxCells f n ++ [.float .f64 0, .float .f64 0, .float .f64 0, .float .f64 0, .float .f64 0, .float .f64 0, .float .f64 0, .float .f64 0] = cxCells (pad f n) (n + 4) := by
  have h0 : cxCells f n = cxCells (pad f n) n := cxCells_congr (fun i hi => by simp [pad, hi])
  rw [h0]
  simp [cxCells, pad, show ¬ n + 1 < n by omega, show ¬ n + 2 < n by omega, show ¬ n + 3 < n by omega]
theorem pad_total (f : Nat → Nat × Nat) (n : Nat) : total f n = total (pad f n) (n + 4) :=
  total_noughts (fun i hi => by simp [pad, hi]) (fun i h1 _ => by simp [pad, show ¬ i < n by omega])

def two : Nat → Nat × Nat := fun i => if i = 0 then (4607182418800017408, 0) else (0, 4611686018427387904)
def four : Nat → Nat × Nat := fun _ => (4616189618054758400, 13837309855095848960)
theorem total_two : total two 2 = (some 4607182418800017408, some 4611686018427387904) := by decide +kernel
theorem total_four : total four 1 = (some 4616189618054758400, some 13837309855095848960) := by decide +kernel
theorem ord_1 : FloatKind.f64.format.order 4607182418800017408 4607182418800017408 = some .eq := by decide +kernel
theorem ord_2 : FloatKind.f64.format.order 4611686018427387904 4611686018427387904 = some .eq := by decide +kernel
theorem ord_4 : FloatKind.f64.format.order 4616189618054758400 4616189618054758400 = some .eq := by decide +kernel
theorem ord_m3 : FloatKind.f64.format.order 13837309855095848960 13837309855095848960 = some .eq := by decide +kernel

theorem row_two (w : World) : CxRow (w.alloc (.cells #[.float .f64 4607182418800017408, .float .f64 0, .float .f64 0, .float .f64 4611686018427387904] 28)) w.heap.size 0 2 two := by
  intro i hi
  have : i = 0 ∨ i = 1 := by omega
  rcases this with rfl | rfl <;> constructor <;> rw [World.cell?_alloc_at _ _ _ _ rfl] <;> rfl
theorem row_four (w : World) : CxRow (w.alloc (.cells #[.float .f64 4616189618054758400, .float .f64 13837309855095848960] 28)) w.heap.size 0 1 four := by
  intro i hi
  obtain rfl : i = 0 := by omega
  constructor <;> rw [World.cell?_alloc_at _ _ _ _ rfl] <;> rfl

theorem lanes_two (w : World) : Calls Try.prog 8 #[.slice (some ⟨w.heap.size, 0, none⟩) 2 2] (w.alloc (.cells #[.float .f64 4607182418800017408, .float .f64 0, .float .f64 0, .float .f64 4611686018427387904] 28)) fun e w' => e = .returned (.agg #[.float .f64 4607182418800017408, .float .f64 4611686018427387904]) ∧ Below w.heap.size w w' := by
  refine (lanes_any (row_two w) (by simp) (by omega)).mono ?_
  rintro e w' ⟨re, im, rfl, ht, hb⟩
  rw [total_two] at ht
  simp only [Prod.mk.injEq] at ht
  obtain ⟨h1, h2⟩ := ht
  obtain rfl := ab_some h1
  obtain rfl := ab_some h2
  exact ⟨rfl, (below_alloc _ _).trans (hb.mono (by simp))⟩
theorem lanes_four (w : World) : Calls Try.prog 8 #[.slice (some ⟨w.heap.size, 0, none⟩) 1 1] (w.alloc (.cells #[.float .f64 4616189618054758400, .float .f64 13837309855095848960] 28)) fun e w' => e = .returned (.agg #[.float .f64 4616189618054758400, .float .f64 13837309855095848960]) ∧ Below w.heap.size w w' := by
  refine (lanes_any (row_four w) (by simp) (by omega)).mono ?_
  rintro e w' ⟨re, im, rfl, ht, hb⟩
  rw [total_four] at ht
  simp only [Prod.mk.injEq] at ht
  obtain ⟨h1, h2⟩ := ht
  obtain rfl := ab_some h1
  obtain rfl := ab_some h2
  exact ⟨rfl, (below_alloc _ _).trans (hb.mono (by simp))⟩

theorem clo_totals {a b c d : Nat} (h : (ab .f64 a, ab .f64 b) = (ab .f64 c, ab .f64 d)) : clo a b c d = 0 := by
  simp only [Prod.mk.injEq] at h
  unfold clo
  rw [if_pos (lo_same h.1), lo_same h.2]

end Go.Proofs.Ytmlgkmgkicdnbaa
