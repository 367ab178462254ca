/-
  Is an atom in a list? slices.Contains at atoms: walked.
-/
import Derived.Test.YtgjhbkpocbihbaaGreatRAtom
import Derived.Test.YtgjhbkpocbihbaaGreatSd1
import Derived.Test.YtgjhbkpocbihbaaGreatSd2
namespace Go.Proofs.YtgjhbkpocbihbaaGreat
open Go.RowKit

/-- The numbers of a list of atoms. -/
def t4A (x : A4) : Nat → Int := fun i => if i = 0 then x.1 else if i = 1 then x.2.1 else if i = 2 then x.2.2.1 else x.2.2.2
def flA (l : List A4) (i : Nat) : Int := t4A (l.getD (i / 4) (0, 0, 0, 0)) (i % 4)
theorem flA_add (l : List A4) (x : A4) : ∀ i, i < (l.length + 1) * 4 → catK (flA l) (l.length * 4) (flA [x]) i = flA (l ++ [x]) i := by
  intro i hi
  unfold catK flA
  by_cases e : i < l.length * 4
  · rw [if_pos e]
    have h : i / 4 < l.length := by omega
    rw [List.getD_eq_getElem?_getD, List.getD_eq_getElem?_getD, List.getElem?_append_left h]
  · rw [if_neg e]
    have h1 : i / 4 = l.length := by omega
    rw [show (i - l.length * 4) / 4 = 0 by omega, show (i - l.length * 4) % 4 = i % 4 by omega, h1]
    simp
theorem flA_cells {w : World} {g : Nat} {l : List A4} (h : Recs 4 w g l.length (flA l)) {k : Nat} (hk : k < l.length) : w.cell? ⟨g, k * 4, none⟩ = some (.int .i64 (l.getD k (0, 0, 0, 0)).1) ∧ w.cell? ⟨g, k * 4 + 1, none⟩ = some (.int .i64 (l.getD k (0, 0, 0, 0)).2.1) ∧ w.cell? ⟨g, k * 4 + 2, none⟩ = some (.int .i64 (l.getD k (0, 0, 0, 0)).2.2.1) ∧ w.cell? ⟨g, k * 4 + 3, none⟩ = some (.int .i64 (l.getD k (0, 0, 0, 0)).2.2.2) := by
  have at4 : ∀ j, j < 4 → w.cell? ⟨g, k * 4 + j, none⟩ = some (.int .i64 (t4A (l.getD k (0, 0, 0, 0)) j)) := fun j hj => by
    rw [h.2 _ (by omega)]
    unfold flA
    rw [show (k * 4 + j) / 4 = k by omega, show (k * 4 + j) % 4 = j by omega]
  exact ⟨at4 0 (by omega), at4 1 (by omega), at4 2 (by omega), at4 3 (by omega)⟩
theorem four_recsA {w : World} {g : Nat} {t : TypeId} {x : A4} (a : At t w g #[.int .i64 x.1, .int .i64 x.2.1, .int .i64 x.2.2.1, .int .i64 x.2.2.2]) : Recs 4 w g 1 (flA [x]) :=
  ⟨a.lt, fun i hi => by
    rcases (by omega : i = 0 ∨ i = 1 ∨ i = 2 ∨ i = 3) with rfl | rfl | rfl | rfl
    · exact a.cell 0 rfl
    · exact a.cell 1 rfl
    · exact a.cell 2 rfl
    · exact a.cell 3 rfl⟩
set_option maxHeartbeats 4000000 in
theorem indexA_any {w : World} {g c : Nat} {l : List A4} {x y z f : Int} (h : Recs 4 w g l.length (flA l)) (hn : l.length ≤ 1000) :
    Calls Tryz.prog 75 #[.slice (some ⟨g, 0, none⟩) l.length c, cV x y z f] w fun e w' => ∃ r : Int, e = .returned (.int .i64 r) ∧ ((r = -1 ∧ (x, y, z, f) ∉ l) ∨ (0 ≤ r ∧ (x, y, z, f) ∈ l)) ∧ Below w.heap.size w w' := by
  obtain ⟨n, hln⟩ : ∃ n, l.length = n := ⟨_, rfl⟩
  have HLN := hid_of hln
  have HR := hid_of h
  rw [hln] at hn ⊢
  clear hln h
  have hn' : (n : Int) ≤ 1000 := by omega
  obtain ⟨V, hV, b0, bW, -⟩ := boxed w 81 #[.int .i64 x, .int .i64 y, .int .i64 z, .int .i64 f]
  go_enter Tryz.func75, Tryz.ntmps75
  go_wp2
  clear hV
  go_loopw [8] (fun s wr => ∃ k : Nat, k ≤ n ∧ s = .int .i64 k ∧ (∀ i, i < k → l.getD i (0, 0, 0, 0) ≠ (x, y, z, f)) ∧ At 81 wr w.heap.size #[.int .i64 x, .int .i64 y, .int .i64 z, .int .i64 f] ∧ Below w.heap.size w wr) (fun s _ => n - (intOf s).toNat)
  case atStart => exact ⟨0, Nat.zero_le _, rfl, fun i hi => absurd hi (Nat.not_lt_zero _), b0, bW⟩
  case round =>
    clear b0 bW
    obtain ⟨k, hk, rfl, hno, b0, bW⟩ := hrel
    by_cases hlt : k < n
    · have hlt' : (k : Int) < (n : Int) := by omega
      have hk0 : (0 : Int) ≤ (k : Int) := by omega
      obtain ⟨c0, c1, c2, c3⟩ := flA_cells (HR.out.below bW) (k := k) (by rw [HLN.out]; exact hlt)
      obtain ⟨d0, d1, d2, d3, -⟩ := b0.openA4
      have hel : l.getD k (0, 0, 0, 0) ∈ l := by rw [List.getD_eq_getElem?_getD, List.getElem?_eq_getElem (by rw [HLN.out]; exact hlt)]; exact List.getElem_mem _
      obtain ⟨P, hP⟩ : ∃ P, l.getD k (0, 0, 0, 0) = P := ⟨_, rfl⟩
      rw [hP] at c0 c1 c2 c3 hel
      obtain ⟨p0, p1, p2, p3⟩ := P
      have HB0 : Hid (At 81 wr w.heap.size #[.int .i64 x, .int .i64 y, .int .i64 z, .int .i64 f]) := b0
      clear b0
      simp only at c0 c1 c2 c3
      by_cases e0 : x = p0
      · subst e0
        by_cases e1 : y = p1
        · subst e1
          by_cases e2 : z = p2
          · subst e2
            by_cases e3 : f = p3
            · subst e3
              have hyes : Hid ((x, y, z, f) ∈ l) := hel
              clear hP hel hno
              go_upto_region 4 with (fail)
              go_region
              go_wp2
              go_ret
              exact ⟨_, rfl, .inr ⟨by omega, hyes.out⟩, bW.drew⟩
            · have hne : Hid (∀ i, i < k + 1 → l.getD i (0, 0, 0, 0) ≠ (x, y, z, f)) := Hid.out fun i hi => by
                by_cases e : i = k
                · subst e; rw [hP]; intro h; cases h; exact e3 rfl
                · exact hno i (by omega)
              clear hP hel hno
              go_upto_region 4 with (fail)
              go_region
              go_wp2
              exact ⟨⟨k + 1, by omega, by go_num, hne.out, HB0.out.below (Below.refl _ _).drew, bW.drew⟩, by simp [intOf]; omega⟩
          · have hne : Hid (∀ i, i < k + 1 → l.getD i (0, 0, 0, 0) ≠ (x, y, z, f)) := Hid.out fun i hi => by
              by_cases e : i = k
              · subst e; rw [hP]; intro h; cases h; exact e2 rfl
              · exact hno i (by omega)
            clear hP hel hno
            go_upto_region 4 with (fail)
            go_region
            go_wp2
            exact ⟨⟨k + 1, by omega, by go_num, hne.out, HB0.out.below (Below.refl _ _).drew, bW.drew⟩, by simp [intOf]; omega⟩
        · have hne : Hid (∀ i, i < k + 1 → l.getD i (0, 0, 0, 0) ≠ (x, y, z, f)) := Hid.out fun i hi => by
            by_cases e : i = k
            · subst e; rw [hP]; intro h; cases h; exact e1 rfl
            · exact hno i (by omega)
          clear hP hel hno
          go_upto_region 4 with (fail)
          go_region
          go_wp2
          exact ⟨⟨k + 1, by omega, by go_num, hne.out, HB0.out.below (Below.refl _ _).drew, bW.drew⟩, by simp [intOf]; omega⟩
      · have hne : Hid (∀ i, i < k + 1 → l.getD i (0, 0, 0, 0) ≠ (x, y, z, f)) := Hid.out fun i hi => by
          by_cases e : i = k
          · subst e; rw [hP]; intro h; cases h; exact e0 rfl
          · exact hno i (by omega)
        clear hP hel hno
        go_upto_region 4 with (fail)
        go_region
        go_wp2
        exact ⟨⟨k + 1, by omega, by go_num, hne.out, HB0.out.below (Below.refl _ _).drew, bW.drew⟩, by simp [intOf]; omega⟩
    · have hlt' : ¬ (k : Int) < (n : Int) := by omega
      obtain rfl : k = n := by omega
      have hnot : (x, y, z, f) ∉ l := by
        intro hh
        obtain ⟨i, hi, he⟩ := List.getElem_of_mem hh
        refine hno i (by rw [← HLN.out]; exact hi) ?_
        rw [List.getD_eq_getElem?_getD, List.getElem?_eq_getElem hi, he]; rfl
      have HN : Hid ((x, y, z, f) ∉ l) := hnot
      clear hno hnot
      go_wp2
      go_ret
      exact ⟨_, rfl, .inl ⟨rfl, HN.out⟩, bW⟩
theorem containsA_any {w : World} {g c n : Nat} {l : List A4} {x y z f : Int} (h : Recs 4 w g l.length (flA l)) (hln : l.length = n) (hn : n ≤ 1000) :
    Calls Tryz.prog 50 #[.slice (some ⟨g, 0, none⟩) n c, cV x y z f] w fun e w' => Tells e ((x, y, z, f) ∈ l) ∧ Below w.heap.size w w' := by
  have IX := fun w c (h : Recs 4 w g l.length (flA l)) => indexA_any (x := x) (y := y) (z := z) (f := f) (c := c) h (by omega)
  rw [hln] at IX
  have HH := hid_of h
  have HLN := hid_of hln
  clear h hln
  obtain ⟨V, hV, b0, bW, -⟩ := boxed w 81 #[.int .i64 x, .int .i64 y, .int .i64 z, .int .i64 f]
  obtain ⟨c0, c1, c2, c3, -⟩ := b0.openA4
  go_enter Tryz.func50, Tryz.ntmps50
  go_wp2_with fail
  refine (IX _ _ (by have := HH.out.below bW; rwa [HLN.out] at this)).mono ?_
  rintro e w2 ⟨r, rfl, hr, bb⟩
  replace bW := bW.trans (bb.mono bW.size)
  clear bb c0 c1 c2 c3 IX
  rcases hr with ⟨rfl, hno⟩ | ⟨hr, hyes⟩
  · have HN := hid_of hno
    clear hno
    go_wp2
    go_ret
    exact ⟨tells_no HN.out, bW⟩
  · have HY := hid_of hyes
    clear hyes
    go_wp2
    go_ret
    exact ⟨tells_yes HY.out, bW⟩
end Go.Proofs.YtgjhbkpocbihbaaGreat
