/-
  A queue of operators; is an operator in a map?
-/
import Derived.Test.YtmjeplhigjlopaaGn
namespace Go.Proofs.Ytmjeplhigjlopaa
open Go.RowKit

/-- A queue: part of a block of the program's own. -/
def Que (w : World) (base g off cap : Nat) (q : List (Nat → Int)) : Prop :=
  base ≤ g ∧ q.length ≤ cap ∧ cap ≤ maxLen ∧ ∃ cur : Array Value, w.heap[g]? = some (.cells cur 77 (0, 0)) ∧ off + cap * 12 ≤ cur.size ∧ ∀ j u, (lc q)[j]? = some u → cur[off + j]? = some u
theorem Que.lt {w : World} {base g off cap : Nat} {q : List (Nat → Int)} (h : Que w base g off cap q) : g < w.heap.size := by
  obtain ⟨-, -, -, cur, h1, -⟩ := h
  exact (Array.getElem?_eq_some_iff.1 h1).1
theorem Que.kept {w w' : World} {base g off cap : Nat} {q : List (Nat → Int)} {row : Option Nat} (h : Que w base g off cap q) (hg : w.grownBy w' row) (hne : some g ≠ row) : Que w' base g off cap q := by
  have hl := h.lt
  obtain ⟨a, b, c, cur, h1, h2, h3⟩ := h
  exact ⟨a, b, c, cur, (hg.block g hl hne).trans h1, h2, h3⟩
theorem Que.below {w w' : World} {base g off cap : Nat} {q : List (Nat → Int)} (h : Que w base g off cap q) (hb : Below w.heap.size w w') : Que w' base g off cap q := by
  have hl := h.lt
  obtain ⟨a, b, c, cur, h1, h2, h3⟩ := h
  exact ⟨a, b, c, cur, (hb.block g hl).trans h1, h2, h3⟩
theorem lc_len (l : List (Nat → Int)) : (lc l).length = l.length * 12 := by
  induction l with
  | nil => rfl
  | cons a l ih => simp [lc, kc, ih]; omega
theorem lc_map (F : Nat → Nat → Int) (n : Nat) : lc ((List.range n).map F) = kCells F n := by
  induction n with
  | zero => rfl
  | succ n ih => rw [List.range_succ, List.map_append, List.map_singleton, lc_snoc, ih]; rfl
theorem Que.of_oprs {w : World} {base n : Nat} {v : Value} {F : Nat → Nat → Int} (h : Oprs w base v n F) : ∃ g cap, v = .slice (some ⟨g, 0, none⟩) n cap ∧ Que w base g 0 cap ((List.range n).map F) := by
  rcases h.1.2 with ⟨h1, _⟩ | ⟨g, c, cur, e, hb, hh, h3, h4, h5, h6⟩
  · exact absurd h1 h.2
  · refine ⟨g, c, e, hb, by simpa using h3, h4, cur, hh, by omega, fun j u hu => ?_⟩
    rw [lc_map, ← h6, List.getElem?_take] at hu
    split at hu
    · simpa using hu
    · cases hu
theorem Que.head {w : World} {base g off cap : Nat} {x : Nat → Int} {q : List (Nat → Int)} (h : Que w base g off cap (x :: q)) (j : Nat) (hj : j < 12) : w.cell? ⟨g, off + j, none⟩ = some (.int .i64 (x j)) := by
  obtain ⟨-, -, -, cur, h1, h2, h3⟩ := h
  have := h3 j (.int .i64 (x j)) (by show (kc x ++ lc q)[j]? = _; rw [List.getElem?_append_left (by simp [kc]; omega)]; exact kc_get x j hj)
  simp [World.cell?, h1, this]
theorem Que.tail {w : World} {base g off cap : Nat} {x : Nat → Int} {q : List (Nat → Int)} (h : Que w base g off cap (x :: q)) : Que w base g (if cap = 1 then off else off + 12) (cap - 1) q := by
  obtain ⟨a, b, c, cur, h1, h2, h3⟩ := h
  simp at b
  refine ⟨a, by omega, by omega, cur, h1, ?_, fun j u hu => ?_⟩
  · split <;> omega
  · by_cases e : cap = 1
    · have : q = [] := List.length_eq_zero_iff.1 (by omega)
      subst this
      simp [lc] at hu
    · rw [if_neg e]
      have := h3 (12 + j) u (by show (kc x ++ lc q)[12 + j]? = _; rw [List.getElem?_append_right (by simp [kc])]; simpa [kc] using hu)
      rwa [← Nat.add_assoc] at this
theorem Que.app {w : World} {base g off cap p ty : Nat} {x : Nat → Int} {q : List (Nat → Int)} (h : Que w base g off cap q) (hb : base ≤ w.heap.size) (hx : ∀ j u, (kc x)[j]? = some u → w.cell? ((⟨p, 0, none⟩ : Addr).add j) = some u) (hq : q.length ≤ 1000) :
    ∃ g' off' cap' w', (Builtin.append_ #[64, 64] ty #[.slice (some ⟨g, off, none⟩) q.length cap, .slice (some ⟨p, 0, none⟩) 1 1]).run Try.prog w = .ok (.slice (some ⟨g', off', none⟩) (q.length + 1) cap') w' ∧ Que w' base g' off' cap' (q ++ [x]) ∧ w.grownBy w' (some g) ∧ (g' = g ∨ g' = w.heap.size) := by
  obtain ⟨i, hi, hz0, hz1, hz2⟩ := info_parts Try.info77
  obtain ⟨a, b, c, cur, h1, h2, h3⟩ := h
  have hl : (kc x).length = 1 * i.size := by rw [hz1]; rfl
  have hql := lc_len q
  by_cases hr : q.length + 1 ≤ cap
  · have hf := run_firstCells_some (P := Try.prog) w i.size 1 ⟨p, 0, none⟩ 1 1 (kc x) hl hx
    have hst := run_storeCells_at Try.prog g (off + q.length * i.size) 77 (kc x) 0 cur w h1 (by rw [hz1, hl, hz1]; omega) (kc_one x)
    simp only [Nat.add_zero] at hst
    have hrun : (Builtin.append_ #[64, 64] ty #[.slice (some ⟨g, off, none⟩) q.length cap, .slice (some ⟨p, 0, none⟩) 1 1]).run Try.prog w = .ok (.slice (some ⟨g, off, none⟩) (q.length + 1) cap) (w.setRow g (cur.toList.take (off + q.length * i.size) ++ kc x ++ cur.toList.drop (off + q.length * i.size + (kc x).length)).toArray) := by
      simp [Builtin.append_, run_underlying Try.underlying64, sizeOf, typeInfo, hi, Builtin.lenOf, hr, hf, Addr.add_lit, hst]
    refine ⟨g, off, cap, _, hrun, ⟨a, by simpa using hr, c, _, setRow_heap w g cur _ 77 _ h1, ?_, ?_⟩, ⟨rfl, rfl, rfl, by simp, fun k _ hk => setRow_other w g k _ (fun e => hk (by simp [e]))⟩, .inl rfl⟩
    · simp only [List.size_toArray, List.length_append, List.length_take, List.length_drop, Array.length_toList, hl, hz1]
      omega
    · intro j u hu
      rw [lc_snoc] at hu
      rw [List.getElem?_toArray, hz1]
      by_cases hj : j < (lc q).length
      · rw [List.getElem?_append_left hj] at hu
        have := h3 j u hu
        rw [List.append_assoc, List.getElem?_append_left (by simp; omega), List.getElem?_take_of_lt (by omega)]
        simpa using this
      · rw [List.getElem?_append_right (by omega)] at hu
        have hlt : j - (lc q).length < (kc x).length := (List.getElem?_eq_some_iff.1 hu).1
        have hk12 : (kc x).length = 12 := rfl
        rw [List.getElem?_append_left (by simp [hk12]; omega), List.getElem?_append_right (by simp; omega)]
        simp only [List.length_take, Array.length_toList]
        rw [show off + j - min (off + q.length * 12) cur.size = j - (lc q).length by omega]
        exact hu
  · have hg := run_append_grow (P := Try.prog) w 64 ty 77 i _ Try.underlying64 hi hz0 ⟨g, off, none⟩ q.length cap (lc q) (by rw [hz1]; exact hql)
      (fun j u hu => by rw [Addr.add_lit]; simp only [World.cell?, h1]; simpa using h3 j u hu) ⟨p, 0, none⟩ 1 1 (kc x) hl hx (by omega) (by omega) (by rw [hz2]; exact growslice_fits (by omega) (by omega))
    have hge := grownCap_ge w (q.length + 1) cap 77
    have hcm := grownCap_le_maxLen w (q.length + 1) cap 77 (by unfold maxLen; omega)
    refine ⟨w.heap.size, 0, _, _, hg, ⟨hb, by simpa using hge, hcm, _, heap_alloc_new w.drew _, ?_, ?_⟩, ⟨rfl, rfl, rfl, by simp, fun k hk _ => Below.heap_alloc w.drew _ k hk⟩, .inr rfl⟩
    · have hk12 : (kc x).length = 12 := rfl
      simp only [Array.size_append, List.size_toArray, size_zeroCells, hql, hk12]
      have : (Value.agg (opA (fun _ => 0) (fun _ => 0))).cells.size = 12 := rfl
      rw [this]
      omega
    · intro j u hu
      rw [lc_snoc] at hu
      have hjl : j < (lc q ++ kc x).length := (List.getElem?_eq_some_iff.1 hu).1
      rw [Nat.zero_add, Array.getElem?_append_left (by simpa using hjl)]
      simpa using hu
/-- Is it there? -/
theorem have_any {w : World} {b : Nat} {ks : List (Nat → Int)} {k : Nat → Int} (h : MapV w b ks) (hk : small k) :
    Calls Try.prog 66 #[.map (some b), kV k] w fun e w' => (∃ r, e = .returned (.bool r) ∧ (r = true ↔ kV k ∈ ks.map kV)) ∧ Below w.heap.size w w' := by
  obtain ⟨W1, hW1, a1, b1, -⟩ := boxed w 77 (kc k).toArray
  obtain ⟨z, r, hr, hiff⟩ := (h.below b1).look hk
  obtain ⟨d0, d1, d2, d3, d4, d5, d6, d7, d8, d9, d10, d11⟩ := At.openk (x := k) a1
  unfold kV at hr ⊢
  unfold kc at hr hW1 ⊢
  go_enter Try.func66, Try.ntmps66
  go_wp2
  go_ret
  exact ⟨⟨r, rfl, hiff⟩, b1⟩
end Go.Proofs.Ytmjeplhigjlopaa
