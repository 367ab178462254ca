/-
  What both Corners tell is one.
-/
import Derived.Test.YtealbihplfpgeaaLc
import Derived.Test.YtealbihplfpgeaaHz
import Derived.Test.YtealbihplfpgeaaKs
import Derived.Test.YtealbihplfpgeaaQCorner
namespace Go.Proofs.Ytealbihplfpgeaa
open Go.RowKit Go.Shelf Go.Sort Go.Lib

theorem Gat.ark {w0 w : World} {B : Nat} {t : TypeId} {K : Nat} {v : Value} {m : Nat} {l : List Int} (s : Gat w0 w B t K v m l) (hl : l.length = m * K) : ArK K t w B w.heap.size v m (fun i => l.getD i 0) := by
  rcases s.own.2 with ⟨e, _⟩ | ⟨g, c, cur, e, hb, hh, hc1, hc2, hsz, ht⟩
  · exact absurd e s.nn
  · refine .inr ⟨g, c, e, hb, (Array.getElem?_eq_some_iff.1 hh).1, hc1, hc2, cur, hh, by rw [hsz], fun i hi => ?_⟩
    have a1 : (lCells l)[i]? = some (.int .i64 (l.getD i 0)) := by
      have hi' : i < l.length := by omega
      simp [lCells, hi']
    rw [← ht, List.getElem?_take_of_lt (by omega)] at a1
    simpa using a1
/-- The corners from r on. -/
noncomputable def rot (f : Nat → Int) (n M r : Nat) : List (Nat × Nat) := (sqP f n (sI f n 0) M).drop r ++ (sqP f n (sI f n 0) M).take r
/-- What Corners tells. -/
def CorT (f : Nat → Int) (n M : Nat) (F : Nat → Int) : Prop := (SOk n f ∧ M = (shl f n).length ∧ ∃ r, Least (fun j => (tris f (sqP f n (sI f n 0) M)).getD j 0) M r ∧ F = fun j => (tris f (rot f n M r)).getD j 0) ∨ (¬ SOk n f ∧ M = 0)
theorem rot_len (f : Nat → Int) (n M r : Nat) : (rot f n M r).length = M := by
  unfold rot
  rw [List.length_append, List.length_drop, List.length_take, sqP_len]
  omega
theorem rot_at {f : Nat → Int} {n M r : Nat} (hr : r < M) (per : ∀ t, sq f n (sI f n 0) (t + M) = sq f n (sI f n 0) t) {t : Nat} (ht : t < M) : (rot f n M r)[t]'(by rw [rot_len]; exact ht) = cq f n (sI f n 0) (r + t) := by
  have e : ∀ j (hj : j < (sqP f n (sI f n 0) M).length), (sqP f n (sI f n 0) M)[j] = cq f n (sI f n 0) j := fun j hj => by simp [sqP, cq]
  unfold rot
  by_cases h : t < M - r
  · rw [List.getElem_append_left (by rw [List.length_drop, sqP_len]; exact h), List.getElem_drop, e]
  · rw [List.getElem_append_right (by rw [List.length_drop, sqP_len]; omega), List.getElem_take, e]
    have e2 : r + t = t - (M - r) + M := by omega
    have hl : t - ((sqP f n (sI f n 0) M).drop r).length = t - (M - r) := by rw [List.length_drop, sqP_len]
    rw [hl, e2]
    unfold cq
    rw [per, show t - (M - r) + M + 1 = t - (M - r) + 1 + M by omega, per]
theorem shl_pos {f : Nat → Int} {n : Nat} (S : SOk n f) : 0 < (shl f n).length := by
  obtain ⟨a, ha, sh⟩ := shape_some S
  exact List.length_pos_of_mem (mem_shl.2 ⟨ha, sh⟩)
theorem specCorners_any {w : World} {g n c : Nat} {f : Nat → Int} (h : Trips w g n f) (hn : n ≤ 1048576) :
    Calls Try.prog 19 #[.slice (some ⟨g, 0, none⟩) n c] w fun e w' => ∃ v M F, e = .returned v ∧ CorT f n M F ∧ M ≤ n ∧ ArK 3 33 w' w.heap.size w'.heap.size v M F ∧ Below w.heap.size w w' := by
  by_cases S : SOk n f
  · refine (specCorners_at S h rfl rfl (shl_pos S)).mono ?_
    rintro e w' ⟨v, r, rfl, hL, G⟩
    exact ⟨v, _, _, rfl, .inl ⟨S, rfl, r, hL, rfl⟩, shTo_le f n n, G.ark (by rw [tris_len]; exact congrArg (· * 3) (rot_len f n _ r)), G.b⟩
  · refine (specCorners_no S h hn).mono ?_
    rintro e w' ⟨v, rfl, G⟩
    exact ⟨v, 0, _, rfl, .inr ⟨S, rfl⟩, Nat.zero_le _, G.ark rfl, G.b⟩
theorem kept_cor {f : Nat → Int} {n M : Nat} {F : Nat → Int} (S : SOk n f) (h : CorT f n M F) {l : List (Nat × Nat)} {o : Nat × Nat} (hp : l.Perm (allP f n n)) (ho : o ∈ allP f n n) (hs : Seen f o l) (hL : LeastC f n o) : (kept f l).size = M ∧ ∀ t, t < M → (kept f l)[t]!.1 = F (t * 3) ∧ (kept f l)[t]!.2.1 = F (t * 3 + 1) ∧ (kept f l)[t]!.2.2 = F (t * 3 + 2) := by
  rcases h with ⟨-, rfl, r, hLr, rfl⟩ | ⟨h, -⟩
  case inr => exact absurd S h
  have q0 := sI_in (f := f) (n := n) (shl_pos S)
  have get : ∀ j, j < (shl f n).length → (tris f (sqP f n (sI f n 0) (shl f n).length)).getD (j * 3) 0 = gX f (cq f n (sI f n 0) j) ∧ (tris f (sqP f n (sI f n 0) (shl f n).length)).getD (j * 3 + 1) 0 = gY f (cq f n (sI f n 0) j) ∧ (tris f (sqP f n (sI f n 0) (shl f n).length)).getD (j * 3 + 2) 0 = gD f (cq f n (sI f n 0) j) := fun j hj => by
    have hj' : j < (sqP f n (sI f n 0) (shl f n).length).length := by rw [sqP_len]; exact hj
    obtain ⟨e1, e2, e3⟩ := tris_get f _ j hj'
    have e4 : (sqP f n (sI f n 0) (shl f n).length)[j] = cq f n (sI f n 0) j := by simp [sqP, cq]
    rw [e4] at e1 e2 e3
    exact ⟨e1, e2, e3⟩
  obtain ⟨g1, g2, g3⟩ := S.cornersOne hp ho hs hL (r := r) q0.1 q0.2 (fun j hj => by
    have z := hLr.2 j hj
    rw [cC_lt] at z
    obtain ⟨a1, a2, a3⟩ := get j hj
    obtain ⟨b1, b2, b3⟩ := get r hLr.1
    simp only [a1, a2, a3, b1, b2, b3] at z
    exact z)
  refine ⟨g1, fun t ht => ?_⟩
  rw [g2 t ht]
  obtain ⟨e1, e2, e3⟩ := tris_get f (rot f n (shl f n).length r) t (by rw [rot_len]; exact ht)
  rw [rot_at hLr.1 g3 ht] at e1 e2 e3
  exact ⟨e1.symm, e2.symm, e3.symm⟩
theorem implCorners_any {w : World} {g n c M : Nat} {f F : Nat → Int} (h : Trips w g n f) (hc : n ≤ c) (hn : n ≤ 1048576) (T : Hid (CorT f n M F)) :
    Calls Try.prog 13 #[.slice (some ⟨g, 0, none⟩) n c] w fun e w' => ∃ v, e = .returned v ∧ ArK 3 33 w' w.heap.size w'.heap.size v M F ∧ Below w.heap.size w w' := by
  by_cases S : SOk n f
  · refine (implCorners_yes S h hc).mono ?_
    rintro e w' ⟨l, o, g', c', hp, ho, hs, hL, rfl, C, b, hg, hlc, hcm⟩
    obtain ⟨k1, k2⟩ := kept_cor S T.out hp ho hs hL
    have e : (compactUpTo (d3 f l) (d3 f l).size).length = M := k1
    have kl := kept_le f l
    rw [e]
    refine ⟨_, rfl, .inr ⟨g', c', rfl, hg, C.lt, by omega, hcm, ?_⟩, b⟩
    obtain ⟨cur, h1, h2, h3⟩ := C
    refine ⟨cur, h1, h2, fun i hi => ?_⟩
    have hd : i / 3 < M := by omega
    obtain ⟨x1, x2, x3⟩ := h3 (i / 3) (by rw [show (compactUpTo (d3 f l) (d3 f l).size).toArray.size = M from k1]; exact hd)
    obtain ⟨y1, y2, y3⟩ := k2 (i / 3) hd
    unfold kept at y1 y2 y3
    rw [y1] at x1
    rw [y2] at x2
    rw [y3] at x3
    rcases (by omega : i = i / 3 * 3 ∨ i = i / 3 * 3 + 1 ∨ i = i / 3 * 3 + 2) with z | z | z
    · rw [← z] at x1; exact x1
    · rw [← z] at x2; exact x2
    · rw [← z] at x3; exact x3
  · rcases T.out with ⟨h', -⟩ | ⟨-, rfl⟩
    case inl => exact absurd h' S
    refine (implCorners_no S h hc hn).mono ?_
    rintro e w' ⟨g', rfl, G⟩
    refine ⟨_, rfl, ?_, G.b⟩
    have A := G.ark (K := 3) rfl
    exact A.same (fun i hi => absurd hi (by omega))
end Go.Proofs.Ytealbihplfpgeaa
