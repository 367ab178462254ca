/-
  The specification's putting of an operator into a list in order: walked.
-/
import Derived.Test.YtiocneailhplkaaGreatMP
import Derived.Test.YtiocneailhplkaaGreatMF
import Derived.Test.YtiocneailhplkaaGreatMS
namespace Go.Proofs.YtiocneailhplkaaGreat
open Go.RowKit

theorem hid_of {p : Prop} (h : p) : Hid p := h
/-- A list of operators that grows, its own rows; what its members hold is read alone. -/
structure OpsP (w : World) (lo : Nat) (v : Value) (n : Nat) (X Y : Nat → Value) (A : Nat → OpD) : Prop where
  row : w.ownsRow lo 57 2 v n (pc X Y n)
  nn : v ≠ .slice none 0 0
  xs : ∀ i, i < n → Arr w lo w.heap.size (X i) 9 (A i).f
  ys : ∀ i, i < n → Arr w lo w.heap.size (Y i) 3 (A i).h
  nk : ∀ i, i < n → (A i).n = 9 ∧ (A i).k = 3
theorem OpsP.below {w w' : World} {lo n : Nat} {v : Value} {X Y : Nat → Value} {A : Nat → OpD} (h : OpsP w lo v n X Y A) (hb : Below w.heap.size w w') : OpsP w' lo v n X Y A :=
  ⟨own_below h.row hb, h.nn, fun i hi => ((h.xs i hi).below hb).wide (Nat.le_refl _) hb.size, fun i hi => ((h.ys i hi).below hb).wide (Nat.le_refl _) hb.size, h.nk⟩
theorem OpsP.open {w : World} {lo n : Nat} {v : Value} {X Y : Nat → Value} {A : Nat → OpD} (h : OpsP w lo v n X Y A) : ∃ g c cur, v = .slice (some ⟨g, 0, none⟩) n c ∧ lo ≤ g ∧ At 57 w g cur ∧ ∀ i, i < n → cur[i * 2]? = some (X i) ∧ cur[i * 2 + 1]? = some (Y i) := by
  rcases h.row.2 with ⟨h1, _⟩ | ⟨g, c, cur, e, hb, hh, h3, h4, h5, h6⟩
  · exact absurd h1 h.nn
  · refine ⟨g, c, cur, e, hb, hh, fun i hi => ?_⟩
    obtain ⟨p1, p2⟩ := pc_get X Y hi
    rw [← h6, List.getElem?_take] at p1 p2
    constructor
    · split at p1
      · simpa using p1
      · cases p1
    · split at p2
      · simpa using p2
      · cases p2
theorem OpsP.opsL {w : World} {lo n : Nat} {v : Value} {X Y : Nat → Value} {A : Nat → OpD} (h : OpsP w lo v n X Y A) : ∃ g c, v = .slice (some ⟨g, 0, none⟩) n c ∧ lo ≤ g ∧ OpsL w g n A := by
  obtain ⟨g, c, cur, rfl, hb, a, e⟩ := h.open
  refine ⟨g, c, rfl, hb, a.lt, fun i hi => ?_⟩
  obtain ⟨x1, d1, e1, s1⟩ := (h.xs i hi).src
  obtain ⟨x2, d2, e2, s2⟩ := (h.ys i hi).src
  obtain ⟨k1, k2⟩ := h.nk i hi
  refine ⟨x1, d1, x2, d2, ?_, ?_, by rw [k1]; exact s1, by rw [k2]; exact s2⟩
  · rw [k1, ← e1]; exact a.cell _ (e i hi).1
  · rw [k2, ← e2]; exact a.cell _ (e i hi).2
/-- Another list of operators has grown. -/
theorem OpsP.kept {w w' : World} {lo n : Nat} {v : Value} {X Y : Nat → Value} {A : Nat → OpD} {row : Option Nat} (h : OpsP w lo v n X Y A) (hg : w.grownBy w' row) (hne : ∀ k, row = some k → v.ownBlock ≠ some k) (hr : ∀ k, row = some k → ∃ cur, At 57 w k cur) : OpsP w' lo v n X Y A := by
  have up : ∀ {u : Value} {m : Nat} {f : Nat → Int}, Arr w lo w.heap.size u m f → Arr w' lo w'.heap.size u m f := fun r => (arr_grown r hg (fun k hk e => by
    obtain ⟨cur, hc⟩ := hr k e
    exact arr_ne_block r hc hk)).wide (Nat.le_refl _) hg.size
  refine ⟨?_, h.nn, fun i hi => up (h.xs i hi), fun i hi => up (h.ys i hi), h.nk⟩
  obtain ⟨e0, h1 | ⟨g', c', cur, e, hb, hh, r⟩⟩ := h.row
  · exact ⟨e0, .inl h1⟩
  · subst e
    exact ⟨e0, .inr ⟨g', c', cur, rfl, hb, (hg.block g' (Array.getElem?_eq_some_iff.1 hh).1 (fun e => hne g' e.symm rfl)).trans hh, r⟩⟩
/-- Put in at place i. -/
def ins {α : Type} (i : Nat) (f : Nat → α) (x : α) (t : Nat) : α := if t < i then f t else if t = i then x else f (t - 1)
theorem ins_lo {α : Type} {i t : Nat} {f : Nat → α} {x : α} (h : t < i) : ins i f x t = f t := by simp [ins, h]
theorem ins_at {α : Type} (i : Nat) (f : Nat → α) (x : α) : ins i f x i = x := by simp [ins]
theorem ins_hi {α : Type} {i t : Nat} {f : Nat → α} {x : α} (h : i < t) : ins i f x t = f (t - 1) := by simp [ins, show ¬ t < i by omega, show t ≠ i by omega]
/-- The shifting, in the middle: all behind place i have gone one on. -/
def Shift (w : World) (g c n i : Nat) (X Y : Nat → Value) : Prop :=
  ∃ cur : Array Value, At 57 w g cur ∧ cur.size = c * 2 ∧ (∀ t, t < i → cur[t * 2]? = some (X t) ∧ cur[t * 2 + 1]? = some (Y t)) ∧ ∀ t, i < t → t ≤ n → cur[t * 2]? = some (X (t - 1)) ∧ cur[t * 2 + 1]? = some (Y (t - 1))
theorem Shift.below {w w' : World} {g c n i : Nat} {X Y : Nat → Value} (h : Shift w g c n i X Y) (hb : Below w.heap.size w w') : Shift w' g c n i X Y := by
  obtain ⟨cur, h1, h2, h3⟩ := h
  exact ⟨cur, h1.below hb, h2, h3⟩
theorem Shift.cells {w : World} {g c n i j : Nat} {X Y : Nat → Value} (h : Shift w g c n i X Y) (hj : j < c * 2) : w.cell? ⟨g, j, none⟩ = some (cv w g j) ∧ w.frozen? ⟨g, j, none⟩ = false := by
  obtain ⟨cur, h1, h2, h3⟩ := h
  have hl : j < cur.size := by omega
  have := h1.cell j (Array.getElem?_eq_getElem hl)
  exact ⟨by rw [cv, this]; rfl, h1.frozen j⟩
/-- The one ahead of place i has gone to place i. -/
theorem Shift.step {w : World} {g c n i k : Nat} {X Y : Nat → Value} (h : Shift w g c n k X Y) (hk : k = i + 1) (hi : i < n) (hc : n + 1 ≤ c) : Shift ((w.setCell ⟨g, k * 2, none⟩ (X i)).setCell ⟨g, k * 2 + 1, none⟩ (Y i)) g c n i X Y := by
  subst hk
  obtain ⟨cur, h1, h2, h3, h4⟩ := h
  refine ⟨_, (h1.set _ _).set _ _, by simpa using h2, fun t ht => ?_, fun t h5 h6 => ?_⟩
  · have := h3 t (by omega)
    simp only [Array.getElem?_setIfInBounds]
    rw [if_neg (by omega), if_neg (by omega), if_neg (by omega), if_neg (by omega)]
    exact this
  · by_cases e : t = i + 1
    · subst e
      simp only [Array.getElem?_setIfInBounds, Array.size_setIfInBounds]
      have l1 : (i + 1) * 2 < cur.size := by omega
      have l2 : (i + 1) * 2 + 1 < cur.size := by omega
      simp [l1, l2]
    · have := h4 t (by omega) h6
      simp only [Array.getElem?_setIfInBounds]
      rw [if_neg (by omega), if_neg (by omega), if_neg (by omega), if_neg (by omega)]
      exact this
/-- And the new one lies at its place. -/
theorem Shift.last {w : World} {lo g c n i : Nat} {X Y : Nat → Value} {x y : Value} (h : Shift w g c n i X Y) (hi : i ≤ n) (hc : n + 1 ≤ c) (hcm : c ≤ maxLen) (hg : lo ≤ g) : ((w.setCell ⟨g, i * 2, none⟩ x).setCell ⟨g, i * 2 + 1, none⟩ y).ownsRow lo 57 2 (.slice (some ⟨g, 0, none⟩) (n + 1) c) (n + 1) (pc (ins i X x) (ins i Y y) (n + 1)) := by
  obtain ⟨cur, h1, h2, h3, h4⟩ := h
  have hl := pc_len (ins i X x) (ins i Y y) (n + 1)
  refine ⟨hl, .inr ⟨g, c, _, rfl, hg, (h1.set _ _).set _ _, hc, hcm, by simpa using h2, ?_⟩⟩
  refine List.ext_getElem? fun j => ?_
  by_cases hj : j < (n + 1) * 2
  · obtain ⟨t, e⟩ : ∃ t, j = t * 2 ∨ j = t * 2 + 1 := ⟨j / 2, by omega⟩
    have ht : t < n + 1 := by omega
    obtain ⟨p1, p2⟩ := pc_get (ins i X x) (ins i Y y) ht
    rw [List.getElem?_take, if_pos hj]
    have l1 : i * 2 < cur.size := by omega
    have l2 : i * 2 + 1 < cur.size := by omega
    rcases Nat.lt_trichotomy t i with hti | hti | hti
    · have := h3 t hti
      rw [ins_lo hti] at p1 p2
      rcases e with rfl | rfl
      · rw [p1, ← this.1]
        simp only [Array.getElem?_toList, Array.getElem?_setIfInBounds]
        rw [if_neg (by omega), if_neg (by omega)]
      · rw [p2, ← this.2]
        simp only [Array.getElem?_toList, Array.getElem?_setIfInBounds]
        rw [if_neg (by omega), if_neg (by omega)]
    · subst hti
      rw [ins_at] at p1 p2
      rcases e with rfl | rfl
      · rw [p1]
        simp [l1]
      · rw [p2]
        simp [l2]
    · have := h4 t hti (by omega)
      rw [ins_hi hti] at p1 p2
      rcases e with rfl | rfl
      · rw [p1, ← this.1]
        simp only [Array.getElem?_toList, Array.getElem?_setIfInBounds]
        rw [if_neg (by omega), if_neg (by omega)]
      · rw [p2, ← this.2]
        simp only [Array.getElem?_toList, Array.getElem?_setIfInBounds]
        rw [if_neg (by omega), if_neg (by omega)]
  · rw [List.getElem?_take, if_neg hj, List.getElem?_eq_none (by omega)]
theorem arr_kept {w w' : World} {lo hi p n : Nat} {v : Value} {f : Nat → Int} {cur : Array Value} (r : Arr w lo hi v n f) (a : At 57 w p cur) (k : Kept p w w') : Arr w' lo hi v n f := by
  rcases r with r | ⟨g', c, rfl, h1, h2, h3, cur', h4, h5⟩
  · exact .inl r
  · have hne : g' ≠ p := fun e => arr_ne_block (v := .slice (some ⟨g', 0, none⟩) n c) (lo := lo) (hi := hi) (f := f) (.inr ⟨g', c, rfl, h1, h2, h3, cur', h4, h5⟩) a (by rw [← e]; rfl)
    exact .inr ⟨g', c, rfl, h1, h2, h3, cur', (k.block g' h4.lt hne).trans h4, h5⟩
/-- What putting in tells. -/
structure PutP (w w' : World) (lo : Nat) (v v' : Value) (n : Nat) (X Y : Nat → Value) (A : Nat → OpD) (x y : Value) (o : OpD) (i : Nat) : Prop where
  le : i ≤ n
  ops : OpsP w' lo v' (n + 1) (ins i X x) (ins i Y y) (ins i A o)
  over : ∀ t, i ≤ t → t < n → 0 < lexC 12 (A t).key o.key
  under : i = 0 ∨ ¬ 0 < lexC 12 (A (i - 1)).key o.key
  grown : w.grownBy w' v.ownBlock
  blk : ∀ q, v'.ownBlock = some q → v.ownBlock = some q ∨ w.heap.size ≤ q
set_option maxRecDepth 100000 in
set_option maxHeartbeats 3000000 in
theorem l4Put_any {w : World} {lo n : Nat} {v : Value} {X Y : Nat → Value} {A : Nat → OpD} {a b : Option Addr} {c1 c2 : Nat} {o : OpD} (h : OpsP w lo v n X Y A) (hlo : lo ≤ w.heap.size) (r1 : Arr w lo w.heap.size (.slice a 9 c1) 9 o.f) (r2 : Arr w lo w.heap.size (.slice b 3 c2) 3 o.h) (ho : o.n = 9 ∧ o.k = 3) (hn : n ≤ 1000) :
    Calls Tryz.prog 88 #[v, .agg #[.slice a 9 c1, .slice b 3 c2]] w fun e w' => ∃ v' i, e = .returned v' ∧ PutP w w' lo v v' n X Y A (.slice a 9 c1) (.slice b 3 c2) o i := by
  obtain ⟨i0, hi0, hz0, hz1, hz2⟩ := info_parts Tryz.info57
  obtain ⟨W1, hW1, a1, B1, -⟩ := boxed w 57 #[.slice a 9 c1, .slice b 3 c2]
  obtain ⟨q1, hq1⟩ : ∃ q, w.heap.size = q := ⟨_, rfl⟩
  rw [hq1] at a1
  obtain ⟨d0, d1, -⟩ := a1.open2
  obtain ⟨W2, hW2, a2, B2, -⟩ := boxed W1 57 #[.slice a 9 c1, .slice b 3 c2]
  obtain ⟨q2, hq2⟩ : ∃ q, W1.heap.size = q := ⟨_, rfl⟩
  rw [hq2] at a2
  have B : Below w.heap.size w W2 := B1.trans (B2.mono B1.size)
  have row2 : Hid (W2.ownsRow lo 57 2 v n (pc X Y n)) := own_below h.row B
  have a12 := a1.below B2
  have hm1 : n + 1 ≤ maxLen := by unfold maxLen; omega
  have hm2 : (n + 1) * 48 ≤ 140737488355328 := by omega
  have hlo2 : lo ≤ W2.heap.size := Nat.le_trans hlo B.size
  have hnw : ∀ j u, ([.slice a 9 c1, .slice b 3 c2] : List Value)[j]? = some u → W2.cell? ((⟨q2, 0, none⟩ : Addr).add j) = some u := by
    intro j u hu
    have h2 := a2.cell j (v := u) (by simpa using hu)
    by_cases e : j = 0
    · subst e; simpa [Addr.add] using h2
    · simpa [Addr.add, e] using h2
  go_enter Tryz.func88, Tryz.ntmps88
  go_wp2_with (at_builtin; refine Hid.out (?_ : Hid _))
  refine (?_ : wpList _ _ _ _ _ _)
  refine wpList_append_own_at _ rfl _ _ _ rfl lo 57 i0 _ 2 48 Tryz.underlying27 hi0 hz0 hz1 hz2 rfl (by omega) v n (pc X Y n) rfl row2.out ⟨q2, 0, none⟩ 1 1 [.slice a 9 c1, .slice b 3 c2] rfl rfl hnw (by intro u hu; simp at hu; rcases hu with rfl | rfl <;> rfl) hm1 hm2 hlo2 ?_
  intro v3 w3 hown3 hgrow3 hne3 hblk3
  obtain ⟨g3, c3, cur, rfl, hb3, hh3, hc3, hc3m, hsz3, ht3⟩ : ∃ g c cur, v3 = .slice (some ⟨g, 0, none⟩) (n + 1) c ∧ lo ≤ g ∧ At 57 w3 g cur ∧ n + 1 ≤ c ∧ c ≤ maxLen ∧ cur.size = c * 2 ∧ cur.toList.take ((n + 1) * 2) = pc X Y n ++ [.slice a 9 c1, .slice b 3 c2] := by
    rcases hown3.2 with ⟨_, h0⟩ | h'
    · exact absurd h0 (by omega)
    · exact h'
  have hgq : g3 ≠ q1 := by
    rcases hblk3 with e | e
    · have := (h.row.lt g3 (by rw [← e]; rfl)).2
      omega
    · simp only [Value.ownBlock, Option.some.injEq] at e
      have := a12.lt
      omega
  have a13 : At 57 w3 q1 #[.slice a 9 c1, .slice b 3 c2] := (hgrow3.block q1 a12.lt (fun e => by
    have := (h.row.lt q1 e.symm).2
    omega)).trans a12
  have G13 : w.grownBy w3 v.ownBlock := ⟨hgrow3.os.trans B.os, hgrow3.tape.trans B.tape, hgrow3.output.trans B.output, Nat.le_trans B.size hgrow3.size, fun k hk hne => (hgrow3.block k (Nat.lt_of_lt_of_le hk B.size) hne).trans (B.block k hk)⟩
  have HB3 : Hid (v.ownBlock = some g3 ∨ w.heap.size ≤ g3) := by
    rcases hblk3 with e | e
    · exact .inl (by rw [← e]; rfl)
    · simp only [Value.ownBlock, Option.some.injEq] at e
      exact .inr (by have := B.size; omega)
  have HV : ∀ k, v.ownBlock = some k → ∃ cur, At 57 w k cur := fun k hk => by
    obtain ⟨g, c, cur, rfl, -, ha, -⟩ := h.open
    simp only [Value.ownBlock, Option.some.injEq] at hk
    exact ⟨cur, hk ▸ ha⟩
  have UP : ∀ {u : Value} {m : Nat} {f : Nat → Int}, Arr w lo w.heap.size u m f → Arr w3 lo w3.heap.size u m f := fun r => (arr_grown r G13 (fun k hk e => by
    obtain ⟨cur, hc⟩ := HV k e
    exact arr_ne_block r hc hk)).wide (Nat.le_refl _) G13.size
  have R1 := hid_of (UP r1)
  have R2 := hid_of (UP r2)
  have HX : Hid (∀ i, i < n → Arr w3 lo w3.heap.size (X i) 9 (A i).f) := fun i hi => UP (h.xs i hi)
  have HY : Hid (∀ i, i < n → Arr w3 lo w3.heap.size (Y i) 3 (A i).h) := fun i hi => UP (h.ys i hi)
  have HN : Hid (∀ i, i < n → (A i).n = 9 ∧ (A i).k = 3) := h.nk
  have HG3 : Hid (w.grownBy w3 v.ownBlock) := G13
  have H3 : Hid (At 57 w3 g3 cur) := hh3
  have A13 : Hid (At 57 w3 q1 #[.slice a 9 c1, .slice b 3 c2]) := a13
  have hS3 : Hid (Shift w3 g3 c3 n n X Y) := by
    refine ⟨cur, hh3, hsz3, fun t ht => ?_, fun t h1 h2 => by omega⟩
    obtain ⟨p1, p2⟩ := pc_get X Y ht
    have hl := pc_len X Y n
    have e1 : ∀ j, j < n * 2 → cur[j]? = (pc X Y n)[j]? := fun j hj => by
      have := congrArg (fun l => l[j]?) ht3
      simp only [List.getElem?_take] at this
      rw [if_pos (by omega), List.getElem?_append_left (by omega)] at this
      simpa using this
    exact ⟨(e1 _ (by omega)).trans p1, (e1 _ (by omega)).trans p2⟩
  clear d0 d1 hW1 hW2 hnw hm1 hm2 hown3 hne3 a2 UP HV G13 hgrow3 hblk3 row2 a12 a13 hh3 a1 B B1 B2 r1 r2 ht3 hsz3 hq1 hq2
  have hn' : (n : Int) ≤ 1000 := by omega
  go_wp2
  go_loopw [6] (fun s wr => ∃ i : Nat, i ≤ n ∧ s = .int .i64 i ∧ Hid (Shift wr g3 c3 n i X Y) ∧ Hid (∀ t, i ≤ t → t < n → 0 < lexC 12 (A t).key o.key) ∧ Hid (Kept g3 w3 wr)) (fun s _ => (intOf s).toNat)
  case atStart => exact ⟨n, Nat.le_refl _, by go_num, hS3, fun t h1 h2 => by omega, Kept.refl _ _⟩
  case round =>
    clear hS3
    obtain ⟨i, hi, rfl, hS, hgt, hK⟩ := hrel
    have Q1 : At 57 wr q1 #[.slice a 9 c1, .slice b 3 c2] := (hK.out.block q1 A13.out.lt (fun e => hgq e.symm)).trans A13.out
    have hic : i * 2 + 1 < c3 * 2 := by omega
    have hin : (i : Int) < (n : Int) + 1 := by omega
    have FIN : Hid (∀ wq, Kb wr wq → (i = 0 ∨ ¬ 0 < lexC 12 (A (i - 1)).key o.key) → PutP w ((wq.setCell ⟨g3, i * 2, none⟩ (.slice a 9 c1)).setCell ⟨g3, i * 2 + 1, none⟩ (.slice b 3 c2)) lo v (.slice (some ⟨g3, 0, none⟩) (n + 1) c3) n X Y A (.slice a 9 c1) (.slice b 3 c2) o i) := by
      intro wq hq hu
      have K2 : Kept g3 w3 ((wq.setCell ⟨g3, i * 2, none⟩ (.slice a 9 c1)).setCell ⟨g3, i * 2 + 1, none⟩ (.slice b 3 c2)) := ((hK.out.trans (Kept.of_below hq)).set _).set _
      have up : ∀ {u : Value} {m : Nat} {f : Nat → Int}, Arr w3 lo w3.heap.size u m f → Arr ((wq.setCell ⟨g3, i * 2, none⟩ (.slice a 9 c1)).setCell ⟨g3, i * 2 + 1, none⟩ (.slice b 3 c2)) lo ((wq.setCell ⟨g3, i * 2, none⟩ (.slice a 9 c1)).setCell ⟨g3, i * 2 + 1, none⟩ (.slice b 3 c2)).heap.size u m f := fun r => (arr_kept r H3.out K2).wide (Nat.le_refl _) K2.size
      refine ⟨hi, ⟨(hS.out.below hq).last hi hc3 hc3m hb3, ne_nil _ _ _, fun t ht => ?_, fun t ht => ?_, fun t ht => ?_⟩, hgt.out, hu, ?_, ?_⟩
      · rcases Nat.lt_trichotomy t i with e | e | e
        · rw [ins_lo e, ins_lo e]; exact up (HX.out t (by omega))
        · subst e; rw [ins_at, ins_at]; exact up R1.out
        · rw [ins_hi e, ins_hi e]; exact up (HX.out _ (by omega))
      · rcases Nat.lt_trichotomy t i with e | e | e
        · rw [ins_lo e, ins_lo e]; exact up (HY.out t (by omega))
        · subst e; rw [ins_at, ins_at]; exact up R2.out
        · rw [ins_hi e, ins_hi e]; exact up (HY.out _ (by omega))
      · rcases Nat.lt_trichotomy t i with e | e | e
        · rw [ins_lo e]; exact HN.out t (by omega)
        · subst e; rw [ins_at]; exact ho
        · rw [ins_hi e]; exact HN.out _ (by omega)
      · refine ⟨K2.os.trans HG3.out.os, K2.tape.trans HG3.out.tape, K2.output.trans HG3.out.output, Nat.le_trans HG3.out.size K2.size, fun k hk hne => ?_⟩
        refine (K2.block k (Nat.lt_of_lt_of_le hk HG3.out.size) (fun e => ?_)).trans (HG3.out.block k hk hne)
        rcases HB3.out with e' | e'
        · rw [e] at hne; exact hne e'.symm
        · omega
      · intro q hq
        simp only [Value.ownBlock, Option.some.injEq] at hq
        subst hq
        exact HB3.out
    by_cases h0 : i = 0
    · subst h0
      obtain ⟨z0, z1⟩ := hS.out.cells (j := 0) (by omega)
      obtain ⟨z2, z3⟩ := hS.out.cells (j := 1) (by omega)
      clear z0 z1 z2 z3
      go_wp2_with fail
      obtain ⟨u0, hu0, bb⟩ : ∃ uu, wr.drew = uu ∧ Below wr.heap.size wr uu := ⟨_, rfl, (Below.refl _ _).drew⟩
      have A1u := Q1.below bb
      have bk0 : Kb wr u0 := bb
      clear bb
      refine wp_region_held_drew (S := Kb u0) (by kernel_rfl) (by rw [hu0]; exact Below.refl _ _) (fun hHeld => ?_)
      rw [hu0] at hHeld ⊢
      clear hu0
      have bu : Kb u0 u0 := Below.refl _ _
      change wpAnyH _ _ _ _ _ 12 #[false, false, false, false, false, false, false, false, false, false, false, false] _ _
      refine wpAnyH_take (i := 0) (v := .int .i64 (((0 : Nat) : Int))) rfl (by kernel_rfl) (by kernel_rfl) (by kernel_rfl) (fun _ _ _ h => h) (Or.inl ⟨by kernel_rfl, ?_⟩) hHeld ?_
      · intro w' hSw; go_simp
      try simp only [Act.put, List.setIfInBounds_toArray, List.set_cons_zero, List.set_cons_succ, List.getElem_toArray, List.getElem_cons_zero]
      refine wpAnyH_take (i := 1) (v := .bool false) rfl (by kernel_rfl) (by kernel_rfl) (by kernel_rfl) (fun _ _ _ h => h) (Or.inl ⟨by kernel_rfl, ?_⟩) hHeld ?_
      · intro w' hSw; go_simp
      try simp only [Act.put, List.setIfInBounds_toArray, List.set_cons_zero, List.set_cons_succ, List.getElem_toArray, List.getElem_cons_succ, List.getElem_cons_zero]
      refine wpAnyH_take (i := 2) (v := .bool false) rfl (by kernel_rfl) (by kernel_rfl) (by kernel_rfl) (fun _ _ _ h => h) (Or.inl ⟨by kernel_rfl, ?_⟩) hHeld ?_
      · intro w' hSw; go_simp
      try simp only [Act.put, List.setIfInBounds_toArray, List.set_cons_zero, List.set_cons_succ, List.getElem_toArray, List.getElem_cons_succ, List.getElem_cons_zero]
      refine wpAnyH_take (i := 3) (v := undef) rfl (by kernel_rfl) (by kernel_rfl) (by kernel_rfl) (fun _ _ _ h => h) (Or.inr ⟨by kernel_rfl, rfl⟩) hHeld ?_
      try simp only [Act.put, List.setIfInBounds_toArray, List.set_cons_zero, List.set_cons_succ, List.getElem_toArray, List.getElem_cons_succ, List.getElem_cons_zero]
      refine wpAnyH_take (i := 4) (v := undef) rfl (by kernel_rfl) (by kernel_rfl) (by kernel_rfl) (fun _ _ _ h => h) (Or.inr ⟨by kernel_rfl, rfl⟩) hHeld ?_
      try simp only [Act.put, List.setIfInBounds_toArray, List.set_cons_zero, List.set_cons_succ, List.getElem_toArray, List.getElem_cons_succ, List.getElem_cons_zero]
      refine wpAnyH_take (i := 5) (v := undef) rfl (by kernel_rfl) (by kernel_rfl) (by kernel_rfl) (fun _ _ _ h => h) (Or.inr ⟨by kernel_rfl, rfl⟩) hHeld ?_
      try simp only [Act.put, List.setIfInBounds_toArray, List.set_cons_zero, List.set_cons_succ, List.getElem_toArray, List.getElem_cons_succ, List.getElem_cons_zero]
      refine wpAnyH_take (i := 6) (v := undef) rfl (by kernel_rfl) (by kernel_rfl) (by kernel_rfl) (fun _ _ _ h => h) (Or.inr ⟨by kernel_rfl, rfl⟩) hHeld ?_
      try simp only [Act.put, List.setIfInBounds_toArray, List.set_cons_zero, List.set_cons_succ, List.getElem_toArray, List.getElem_cons_succ, List.getElem_cons_zero]
      refine wpAnyH_take (i := 7) (v := undef) rfl (by kernel_rfl) (by kernel_rfl) (by kernel_rfl) (fun _ _ _ h => h) (Or.inr ⟨by kernel_rfl, rfl⟩) hHeld ?_
      try simp only [Act.put, List.setIfInBounds_toArray, List.set_cons_zero, List.set_cons_succ, List.getElem_toArray, List.getElem_cons_succ, List.getElem_cons_zero]
      refine wpAnyH_take (i := 8) (v := undef) rfl (by kernel_rfl) (by kernel_rfl) (by kernel_rfl) (fun _ _ _ h => h) (Or.inr ⟨by kernel_rfl, rfl⟩) hHeld ?_
      try simp only [Act.put, List.setIfInBounds_toArray, List.set_cons_zero, List.set_cons_succ, List.getElem_toArray, List.getElem_cons_succ, List.getElem_cons_zero]
      refine wpAnyH_take (i := 9) (v := undef) rfl (by kernel_rfl) (by kernel_rfl) (by kernel_rfl) (fun _ _ _ h => h) (Or.inr ⟨by kernel_rfl, rfl⟩) hHeld ?_
      try simp only [Act.put, List.setIfInBounds_toArray, List.set_cons_zero, List.set_cons_succ, List.getElem_toArray, List.getElem_cons_succ, List.getElem_cons_zero]
      refine wpAnyH_take (i := 10) (v := undef) rfl (by kernel_rfl) (by kernel_rfl) (by kernel_rfl) (fun _ _ _ h => h) (Or.inr ⟨by kernel_rfl, rfl⟩) hHeld ?_
      try simp only [Act.put, List.setIfInBounds_toArray, List.set_cons_zero, List.set_cons_succ, List.getElem_toArray, List.getElem_cons_succ, List.getElem_cons_zero]
      refine wpAnyH_take (i := 11) (v := .bool false) rfl (by kernel_rfl) (by kernel_rfl) (by kernel_rfl) (fun _ _ _ h => h) (Or.inl ⟨by kernel_rfl, ?_⟩) hHeld ?_
      · intro w' hSw; go_simp
      try simp only [Act.put, List.setIfInBounds_toArray, List.set_cons_zero, List.set_cons_succ, List.getElem_toArray, List.getElem_cons_succ, List.getElem_cons_zero]
      refine wpAnyH_done (by kernel_rfl) ?_ _
      clear hHeld
      have bz := bk0.trans (Below.mono bu bk0.size)
      clear bu A1u bk0
      have FI := hid_of (FIN.out _ bz (.inl (by first | rfl | trivial)))
      obtain ⟨z0, z1⟩ := (hS.out.below bz).cells (j := 0) (by omega)
      obtain ⟨z2, z3⟩ := (hS.out.below bz).cells (j := 1) (by omega)
      obtain ⟨y0, y1, -⟩ := (Q1.below bz).open2
      clear FIN hgt hK HX HY R1 R2 hic bz
      go_wp2
      go_ret
      exact ⟨_, 0, rfl, FI.out⟩
    · obtain ⟨j, hj⟩ : ∃ j, i = j + 1 := ⟨i - 1, by omega⟩
      have hjn : j < n := by omega
      have hpos : 0 < i := by omega
      have hw1 : IntKind.i64.wrap ((i : Int) - 1) = (j : Int) := (IntWalk.i64_in _ (by omega)).trans (by omega)
      have hjc : (j : Int) < (n : Int) + 1 := by omega
      have HJ : Hid (i = j + 1) := hj
      have HXj := hid_of (arr_kept (HX.out j hjn) H3.out hK.out)
      have HYj := hid_of (arr_kept (HY.out j hjn) H3.out hK.out)
      have HR1 := hid_of (arr_kept R1.out H3.out hK.out)
      have HR2 := hid_of (arr_kept R2.out H3.out hK.out)
      obtain ⟨x1, e1, hx1, sx1⟩ := HXj.out.src
      obtain ⟨x2, e2, hx2, sx2⟩ := HYj.out.src
      obtain ⟨x3, e3, hx3, sx3⟩ := HR1.out.src
      obtain ⟨x4, e4, hx4, sx4⟩ := HR2.out.src
      cases hx3
      cases hx4
      have CL : Hid (∀ wq, Kb wr wq → wq.cell? ⟨g3, j * 2, none⟩ = some (.slice x1 9 e1) ∧ wq.cell? ⟨g3, j * 2 + 1, none⟩ = some (.slice x2 3 e2)) := fun wq hq => by
        obtain ⟨cu, h1, h2, h3, h4⟩ := hS.out.below hq
        rw [← hx1, ← hx2]
        exact ⟨h1.cell _ (h3 j (by omega)).1, h1.cell _ (h3 j (by omega)).2⟩
      obtain ⟨D, hD⟩ : ∃ D, lexC 12 (A j).key o.key = D := ⟨_, rfl⟩
      have CP : Hid (∀ wq, Kb wr wq → Calls Tryz.prog 58 #[.agg #[.slice x1 9 e1, .slice x2 3 e2], .agg #[.slice a 9 c1, .slice b 3 c2]] wq fun e w' => e = .returned (.int .i64 D) ∧ Below wq.heap.size wq w') := fun wq hq => by rw [← hD]; exact cmpR_any (sx1.below hq) (sx2.below hq) (sx3.below hq) (sx4.below hq)
      have HD : Hid (lexC 12 (A j).key o.key = D) := hD
      have HX1 : Hid (X j = .slice x1 9 e1) := hx1
      have HX2 : Hid (Y j = .slice x2 3 e2) := hx2
      clear hD hj hx1 hx2 sx1 sx2 sx3 sx4 HXj HYj HR1 HR2
      by_cases hpd : 0 < D
      · have hgt2 : Hid (∀ t, j ≤ t → t < n → 0 < lexC 12 (A t).key o.key) := fun t h1 h2 => by
          by_cases e : t = j
          · rw [e, HD.out]; exact hpd
          · exact hgt.out t (by have := HJ.out; omega) h2
        go_wp2_with fail
        obtain ⟨u0, hu0, bb⟩ : ∃ uu, wr.drew = uu ∧ Below wr.heap.size wr uu := ⟨_, rfl, (Below.refl _ _).drew⟩
        have A1u := Q1.below bb
        have bk0 : Kb wr u0 := bb
        clear bb
        refine wp_region_held_drew (S := Kb u0) (by kernel_rfl) (by rw [hu0]; exact Below.refl _ _) (fun hHeld => ?_)
        rw [hu0] at hHeld ⊢
        clear hu0
        have bu : Kb u0 u0 := Below.refl _ _
        change wpAnyH _ _ _ _ _ 12 #[false, false, false, false, false, false, false, false, false, false, false, false] _ _
        refine wpAnyH_take (i := 0) (v := .int .i64 ((i : Int))) rfl (by kernel_rfl) (by kernel_rfl) (by kernel_rfl) (fun _ _ _ h => h) (Or.inl ⟨by kernel_rfl, ?_⟩) hHeld ?_
        · intro w' hSw; go_simp
        try simp only [Act.put, List.setIfInBounds_toArray, List.set_cons_zero, List.set_cons_succ, List.getElem_toArray, List.getElem_cons_zero]
        refine wpAnyH_take (i := 1) (v := .bool true) rfl (by kernel_rfl) (by kernel_rfl) (by kernel_rfl) (fun _ _ _ h => h) (Or.inl ⟨by kernel_rfl, ?_⟩) hHeld ?_
        · intro w' hSw; go_simp
        try simp only [Act.put, List.setIfInBounds_toArray, List.set_cons_zero, List.set_cons_succ, List.getElem_toArray, List.getElem_cons_succ, List.getElem_cons_zero]
        refine wpAnyH_take (i := 2) (v := .bool true) rfl (by kernel_rfl) (by kernel_rfl) (by kernel_rfl) (fun _ _ _ h => h) (Or.inl ⟨by kernel_rfl, ?_⟩) hHeld ?_
        · intro w' hSw; go_simp
        try simp only [Act.put, List.setIfInBounds_toArray, List.set_cons_zero, List.set_cons_succ, List.getElem_toArray, List.getElem_cons_succ, List.getElem_cons_zero]
        refine wpAnyH_take (i := 3) (v := .slice ((some ⟨g3, 0, none⟩)) (n + 1) c3) rfl (by kernel_rfl) (by kernel_rfl) (by kernel_rfl) (fun _ _ _ h => h) (Or.inl ⟨by kernel_rfl, ?_⟩) hHeld ?_
        · intro w' hSw; go_simp
        try simp only [Act.put, List.setIfInBounds_toArray, List.set_cons_zero, List.set_cons_succ, List.getElem_toArray, List.getElem_cons_succ, List.getElem_cons_zero]
        refine wpAnyH_take (i := 4) (v := .int .i64 ((i : Int))) rfl (by kernel_rfl) (by kernel_rfl) (by kernel_rfl) (fun _ _ _ h => h) (Or.inl ⟨by kernel_rfl, ?_⟩) hHeld ?_
        · intro w' hSw; go_simp
        try simp only [Act.put, List.setIfInBounds_toArray, List.set_cons_zero, List.set_cons_succ, List.getElem_toArray, List.getElem_cons_succ, List.getElem_cons_zero]
        refine wpAnyH_take (i := 5) (v := .int .i64 ((j : Int))) rfl (by kernel_rfl) (by kernel_rfl) (by kernel_rfl) (fun _ _ _ h => h) (Or.inl ⟨by kernel_rfl, ?_⟩) hHeld ?_
        · intro w' hSw; go_simp
        try simp only [Act.put, List.setIfInBounds_toArray, List.set_cons_zero, List.set_cons_succ, List.getElem_toArray, List.getElem_cons_succ, List.getElem_cons_zero]
        refine wpAnyH_take (i := 6) (v := .pointer (some ⟨g3, j * 2, none⟩)) rfl (by kernel_rfl) (by kernel_rfl) (by kernel_rfl) (fun _ _ _ h => h) (Or.inl ⟨by kernel_rfl, ?_⟩) hHeld ?_
        · intro w' hSw; go_simp
        try simp only [Act.put, List.setIfInBounds_toArray, List.set_cons_zero, List.set_cons_succ, List.getElem_toArray, List.getElem_cons_succ, List.getElem_cons_zero]
        refine wpAnyH_take (i := 7) (v := .agg #[.slice x1 9 e1, .slice x2 3 e2]) rfl (by kernel_rfl) (by kernel_rfl) (by kernel_rfl) (fun _ _ _ h => h) (Or.inl ⟨by kernel_rfl, ?_⟩) hHeld ?_
        · intro w' hSw; obtain ⟨z0, z1⟩ := CL.out _ (bk0.trans (Below.mono hSw bk0.size)); go_simp
        try simp only [Act.put, List.setIfInBounds_toArray, List.set_cons_zero, List.set_cons_succ, List.getElem_toArray, List.getElem_cons_succ, List.getElem_cons_zero]
        refine wpAnyH_take (i := 8) (v := .agg #[.slice a 9 c1, .slice b 3 c2]) rfl (by kernel_rfl) (by kernel_rfl) (by kernel_rfl) (fun _ _ _ h => h) (Or.inl ⟨by kernel_rfl, ?_⟩) hHeld ?_
        · intro w' hSw; obtain ⟨z0, z1, -⟩ := (A1u.below hSw).open2; go_simp
        try simp only [Act.put, List.setIfInBounds_toArray, List.set_cons_zero, List.set_cons_succ, List.getElem_toArray, List.getElem_cons_succ, List.getElem_cons_zero]
        refine wpAnyH_ready (rs := [9]) (by kernel_rfl) (by simp) ?_
        refine AllReadyH.cons rfl (fun KK hK' => ?_) AllReadyH.nil
        go_simp
        refine (CP.out _ (bk0.trans (Below.mono bu bk0.size))).mono ?_
        rintro e u1 ⟨rfl, bb⟩
        replace bu : Kb u0 u1 := bu.trans (bb.mono bu.size)
        clear bb
        try go_wp2_with fail
        clear hHeld
        refine hK'.out _ _ (bu) (fun hHeld => ?_)
        clear hK' KK
        try simp only [List.setIfInBounds_toArray, List.set_cons_zero, List.set_cons_succ]
        refine wpAnyH_take (i := 10) (v := .bool true) rfl (by kernel_rfl) (by kernel_rfl) (by kernel_rfl) (fun _ _ _ h => h) (Or.inl ⟨by kernel_rfl, ?_⟩) hHeld ?_
        · intro w' hSw; go_simp
        try simp only [Act.put, List.setIfInBounds_toArray, List.set_cons_zero, List.set_cons_succ, List.getElem_toArray, List.getElem_cons_succ, List.getElem_cons_zero]
        refine wpAnyH_take (i := 11) (v := .bool true) rfl (by kernel_rfl) (by kernel_rfl) (by kernel_rfl) (fun _ _ _ h => h) (Or.inl ⟨by kernel_rfl, ?_⟩) hHeld ?_
        · intro w' hSw; go_simp
        try simp only [Act.put, List.setIfInBounds_toArray, List.set_cons_zero, List.set_cons_succ, List.getElem_toArray, List.getElem_cons_succ, List.getElem_cons_zero]
        refine wpAnyH_done (by kernel_rfl) ?_ _
        clear hHeld
        have bz := bk0.trans (Below.mono bu bk0.size)
        clear bu A1u bk0
        obtain ⟨y0, y1⟩ := CL.out _ bz
        obtain ⟨z0, z1⟩ := (hS.out.below bz).cells (j := i * 2) (by omega)
        obtain ⟨z2, z3⟩ := (hS.out.below bz).cells (j := i * 2 + 1) (by omega)
        have hS1 := (hS.out.below bz).step HJ.out hjn hc3
        rw [HX1.out, HX2.out] at hS1
        have hS2 := hid_of hS1
        have hK2 := hid_of (((hK.out.trans (Kept.of_below bz)).set (i := i * 2) (.slice x1 9 e1)).set (i := i * 2 + 1) (.slice x2 3 e2))
        clear hS1
        clear FIN hgt hK HX HY R1 R2 CP CL bz hS Q1
        go_wp2
        exact ⟨⟨j, by omega, rfl, hS2, hgt2, hK2⟩, by have := HJ.out; simp [intOf]; omega⟩
      · have hu : Hid (i = 0 ∨ ¬ 0 < lexC 12 (A (i - 1)).key o.key) := .inr (by rw [show i - 1 = j by have := HJ.out; omega, HD.out]; exact hpd)
        go_wp2_with fail
        obtain ⟨u0, hu0, bb⟩ : ∃ uu, wr.drew = uu ∧ Below wr.heap.size wr uu := ⟨_, rfl, (Below.refl _ _).drew⟩
        have A1u := Q1.below bb
        have bk0 : Kb wr u0 := bb
        clear bb
        refine wp_region_held_drew (S := Kb u0) (by kernel_rfl) (by rw [hu0]; exact Below.refl _ _) (fun hHeld => ?_)
        rw [hu0] at hHeld ⊢
        clear hu0
        have bu : Kb u0 u0 := Below.refl _ _
        change wpAnyH _ _ _ _ _ 12 #[false, false, false, false, false, false, false, false, false, false, false, false] _ _
        refine wpAnyH_take (i := 0) (v := .int .i64 ((i : Int))) rfl (by kernel_rfl) (by kernel_rfl) (by kernel_rfl) (fun _ _ _ h => h) (Or.inl ⟨by kernel_rfl, ?_⟩) hHeld ?_
        · intro w' hSw; go_simp
        try simp only [Act.put, List.setIfInBounds_toArray, List.set_cons_zero, List.set_cons_succ, List.getElem_toArray, List.getElem_cons_zero]
        refine wpAnyH_take (i := 1) (v := .bool true) rfl (by kernel_rfl) (by kernel_rfl) (by kernel_rfl) (fun _ _ _ h => h) (Or.inl ⟨by kernel_rfl, ?_⟩) hHeld ?_
        · intro w' hSw; go_simp
        try simp only [Act.put, List.setIfInBounds_toArray, List.set_cons_zero, List.set_cons_succ, List.getElem_toArray, List.getElem_cons_succ, List.getElem_cons_zero]
        refine wpAnyH_take (i := 2) (v := .bool true) rfl (by kernel_rfl) (by kernel_rfl) (by kernel_rfl) (fun _ _ _ h => h) (Or.inl ⟨by kernel_rfl, ?_⟩) hHeld ?_
        · intro w' hSw; go_simp
        try simp only [Act.put, List.setIfInBounds_toArray, List.set_cons_zero, List.set_cons_succ, List.getElem_toArray, List.getElem_cons_succ, List.getElem_cons_zero]
        refine wpAnyH_take (i := 3) (v := .slice ((some ⟨g3, 0, none⟩)) (n + 1) c3) rfl (by kernel_rfl) (by kernel_rfl) (by kernel_rfl) (fun _ _ _ h => h) (Or.inl ⟨by kernel_rfl, ?_⟩) hHeld ?_
        · intro w' hSw; go_simp
        try simp only [Act.put, List.setIfInBounds_toArray, List.set_cons_zero, List.set_cons_succ, List.getElem_toArray, List.getElem_cons_succ, List.getElem_cons_zero]
        refine wpAnyH_take (i := 4) (v := .int .i64 ((i : Int))) rfl (by kernel_rfl) (by kernel_rfl) (by kernel_rfl) (fun _ _ _ h => h) (Or.inl ⟨by kernel_rfl, ?_⟩) hHeld ?_
        · intro w' hSw; go_simp
        try simp only [Act.put, List.setIfInBounds_toArray, List.set_cons_zero, List.set_cons_succ, List.getElem_toArray, List.getElem_cons_succ, List.getElem_cons_zero]
        refine wpAnyH_take (i := 5) (v := .int .i64 ((j : Int))) rfl (by kernel_rfl) (by kernel_rfl) (by kernel_rfl) (fun _ _ _ h => h) (Or.inl ⟨by kernel_rfl, ?_⟩) hHeld ?_
        · intro w' hSw; go_simp
        try simp only [Act.put, List.setIfInBounds_toArray, List.set_cons_zero, List.set_cons_succ, List.getElem_toArray, List.getElem_cons_succ, List.getElem_cons_zero]
        refine wpAnyH_take (i := 6) (v := .pointer (some ⟨g3, j * 2, none⟩)) rfl (by kernel_rfl) (by kernel_rfl) (by kernel_rfl) (fun _ _ _ h => h) (Or.inl ⟨by kernel_rfl, ?_⟩) hHeld ?_
        · intro w' hSw; go_simp
        try simp only [Act.put, List.setIfInBounds_toArray, List.set_cons_zero, List.set_cons_succ, List.getElem_toArray, List.getElem_cons_succ, List.getElem_cons_zero]
        refine wpAnyH_take (i := 7) (v := .agg #[.slice x1 9 e1, .slice x2 3 e2]) rfl (by kernel_rfl) (by kernel_rfl) (by kernel_rfl) (fun _ _ _ h => h) (Or.inl ⟨by kernel_rfl, ?_⟩) hHeld ?_
        · intro w' hSw; obtain ⟨z0, z1⟩ := CL.out _ (bk0.trans (Below.mono hSw bk0.size)); go_simp
        try simp only [Act.put, List.setIfInBounds_toArray, List.set_cons_zero, List.set_cons_succ, List.getElem_toArray, List.getElem_cons_succ, List.getElem_cons_zero]
        refine wpAnyH_take (i := 8) (v := .agg #[.slice a 9 c1, .slice b 3 c2]) rfl (by kernel_rfl) (by kernel_rfl) (by kernel_rfl) (fun _ _ _ h => h) (Or.inl ⟨by kernel_rfl, ?_⟩) hHeld ?_
        · intro w' hSw; obtain ⟨z0, z1, -⟩ := (A1u.below hSw).open2; go_simp
        try simp only [Act.put, List.setIfInBounds_toArray, List.set_cons_zero, List.set_cons_succ, List.getElem_toArray, List.getElem_cons_succ, List.getElem_cons_zero]
        refine wpAnyH_ready (rs := [9]) (by kernel_rfl) (by simp) ?_
        refine AllReadyH.cons rfl (fun KK hK' => ?_) AllReadyH.nil
        go_simp
        refine (CP.out _ (bk0.trans (Below.mono bu bk0.size))).mono ?_
        rintro e u1 ⟨rfl, bb⟩
        replace bu : Kb u0 u1 := bu.trans (bb.mono bu.size)
        clear bb
        try go_wp2_with fail
        clear hHeld
        refine hK'.out _ _ (bu) (fun hHeld => ?_)
        clear hK' KK
        try simp only [List.setIfInBounds_toArray, List.set_cons_zero, List.set_cons_succ]
        refine wpAnyH_take (i := 10) (v := .bool false) rfl (by kernel_rfl) (by kernel_rfl) (by kernel_rfl) (fun _ _ _ h => h) (Or.inl ⟨by kernel_rfl, ?_⟩) hHeld ?_
        · intro w' hSw; go_simp
        try simp only [Act.put, List.setIfInBounds_toArray, List.set_cons_zero, List.set_cons_succ, List.getElem_toArray, List.getElem_cons_succ, List.getElem_cons_zero]
        refine wpAnyH_take (i := 11) (v := .bool false) rfl (by kernel_rfl) (by kernel_rfl) (by kernel_rfl) (fun _ _ _ h => h) (Or.inl ⟨by kernel_rfl, ?_⟩) hHeld ?_
        · intro w' hSw; go_simp
        try simp only [Act.put, List.setIfInBounds_toArray, List.set_cons_zero, List.set_cons_succ, List.getElem_toArray, List.getElem_cons_succ, List.getElem_cons_zero]
        refine wpAnyH_done (by kernel_rfl) ?_ _
        clear hHeld
        have bz := bk0.trans (Below.mono bu bk0.size)
        clear bu A1u bk0
        have FI := hid_of (FIN.out _ bz hu.out)
        obtain ⟨z0, z1⟩ := (hS.out.below bz).cells (j := i * 2) (by omega)
        obtain ⟨z2, z3⟩ := (hS.out.below bz).cells (j := i * 2 + 1) (by omega)
        obtain ⟨y0, y1, -⟩ := (Q1.below bz).open2
        clear FIN hgt hK HX HY R1 R2 hic CP CL bz
        go_wp2
        go_ret
        exact ⟨_, i, rfl, FI.out⟩
end Go.Proofs.YtiocneailhplkaaGreat
