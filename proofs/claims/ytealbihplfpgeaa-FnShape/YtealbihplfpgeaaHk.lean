/-
  The greatest of some fractions; Support, by the program: walked.
-/
import Derived.Test.YtealbihplfpgeaaHj
namespace Go.Proofs.Ytealbihplfpgeaa
open Go.RowKit

abbrev rV (a b : Int) : Value := .agg #[.int .i64 a, .int .i64 b]
/-- m fractions lie in block p. -/
def Frs (w : World) (p m : Nat) (N D : Nat → Int) : Prop := p < w.heap.size ∧ ∀ j, j < m → w.cell? ⟨p, j * 2, none⟩ = some (.int .i64 (N j)) ∧ w.cell? ⟨p, j * 2 + 1, none⟩ = some (.int .i64 (D j))
theorem Frs.below {w w' : World} {p m : Nat} {N D : Nat → Int} (h : Frs w p m N D) (hb : Below w.heap.size w w') : Frs w' p m N D :=
  ⟨Nat.lt_of_lt_of_le h.1 hb.size, fun j hj => ⟨(hb.cell (p := ⟨p, j * 2, none⟩) h.1).trans (h.2 j hj).1, (hb.cell (p := ⟨p, j * 2 + 1, none⟩) h.1).trans (h.2 j hj).2⟩⟩
theorem At.two {t : TypeId} {w : World} {q : Nat} {v0 v1 : Value} (h : At t w q #[v0, v1]) : w.cell? ⟨q, 0, none⟩ = some v0 ∧ w.cell? ⟨q, 1, none⟩ = some v1 ∧ w.frozen? ⟨q, 0, none⟩ = false ∧ w.frozen? ⟨q, 1, none⟩ = false :=
  ⟨h.cell 0 rfl, h.cell 1 rfl, h.frozen 0, h.frozen 1⟩
theorem put2c {t : TypeId} {w : World} {q : Nat} {u0 u1 : Value} (h : At t w q #[u0, u1]) (v0 v1 : Value) : At t ((w.setCell ⟨q, 0, none⟩ v0).setCell ⟨q, 1, none⟩ v1) q #[v0, v1] := by
  have := (h.set 0 v0).set 1 v1
  simpa using this
set_option maxRecDepth 100000 in
set_option maxHeartbeats 1600000 in
theorem greatest_any {w : World} {p m d o : Nat} {N D : Nat → Int} (ho : m = 0 ∨ o = 2) (h : Frs w p (m + 1) N D) (hm : m ≤ 1048576) (hN : ∀ j, j ≤ m → -10000000 ≤ N j ∧ N j ≤ 10000000) (hD : ∀ j, j ≤ m → 0 < D j ∧ D j ≤ 5000) :
    Calls Try.prog 52 #[rV (N 0) (D 0), .slice (some ⟨p, o, none⟩) m d] w fun e w' => (∃ a b : Int, e = .returned (rV a b) ∧ Mx N D (m + 1) a b) ∧ Below w.heap.size w w' := by
  obtain ⟨W, hW, A0, A1, B, -⟩ := boxed2 w 74 74 #[.int .i64 (N 0), .int .i64 (D 0)] #[.int .i64 0, .int .i64 0]
  go_enter Try.func52, Try.ntmps52
  go_wp2
  clear hW
  go_loopw [9] (fun s wr => ∃ (k : Nat) (a b : Int), k ≤ m ∧ s = .int .i64 (k : Int) ∧ Mx N D (k + 1) a b ∧ At 74 wr w.heap.size #[.int .i64 a, .int .i64 b] ∧ At 74 wr (w.heap.size + 1) #[.int .i64 0, .int .i64 0] ∧ Below w.heap.size w wr) (fun s _ => m - (intOf s).toNat)
  case atStart => exact ⟨0, N 0, D 0, Nat.zero_le _, rfl, Mx.first N D, A0, A1, B⟩
  case round =>
    clear A0 A1 B
    obtain ⟨k, a, b, hk', rfl, hM, A0, A1, B⟩ := hrel
    have ain : (-10000000 ≤ a ∧ a ≤ 10000000) ∧ (0 < b ∧ b ≤ 5000) := by
      obtain ⟨j, hj, rfl, rfl⟩ := hM.1
      exact ⟨hN j (by omega), hD j (by omega)⟩
    by_cases hk : k < m
    · have hklt : (k : Int) < (m : Int) := by omega
      obtain rfl : o = 2 := by omega
      have L := h.below B
      have lp := L.1
      obtain ⟨c0, c1⟩ := L.2 (k + 1) (by omega)
      rw [show (k + 1) * 2 = 2 + k * 2 by omega] at c0 c1
      obtain ⟨V, hV, A2, b2, -⟩ := boxed wr 74 #[.int .i64 (N (k + 1)), .int .i64 (D (k + 1))]
      have nin := hN (k + 1) (by omega)
      have din := hD (k + 1) (by omega)
      have m1 := mul_bound nin (y := b) (Y := 5000) (by omega)
      have m2 := mul_bound ain.1 (y := D (k + 1)) (Y := 5000) (by omega)
      have U1 := fun z => hM.upd (fun j hj => (hD j (by omega)).1) ain.2.1 z
      have U2 := fun z => hM.stay z
      have A0' := A0.below b2
      have A1' := A1.below b2
      have B' := B.trans (b2.mono B.size)
      obtain ⟨x0, x1, x2, x3⟩ := A0'.two
      obtain ⟨y0, y1, -⟩ := A2.two
      have l0 := A0.lt
      obtain ⟨n1, hn1⟩ : ∃ z, N (k + 1) = z := ⟨_, rfl⟩
      obtain ⟨d1, hd1⟩ : ∃ z, D (k + 1) = z := ⟨_, rfl⟩
      rw [hn1] at c0 hV A2 nin m1 U1 U2 y0
      rw [hd1] at c1 hV A2 din m2 U1 U2 y1
      clear L
      by_cases hl : a * d1 < n1 * b
      · have H := U1 hl
        clear U1 U2 hM
        go_wp2
        refine ⟨⟨k + 1, n1, d1, by omega, by go_num, H, put2c A0' _ _, ?_, (B'.setCell (Nat.le_refl _) _).setCell (Nat.le_refl _) _⟩, by simp [intOf]; omega⟩
        exact (A1'.setOther (by omega) _).setOther (by omega) _
      · have H := U2 hl
        clear U1 U2 hM
        go_wp2
        exact ⟨⟨k + 1, a, b, by omega, by go_num, H, A0', A1', B'⟩, by simp [intOf]; omega⟩
    · have hklt : ¬ (k : Int) < (m : Int) := by omega
      obtain rfl : m = k := by omega
      obtain ⟨x0, x1, -⟩ := A0.two
      obtain ⟨y0, y1, y2, y3⟩ := A1.two
      go_wp2
      obtain ⟨p0, p1, -⟩ := (put2c A1 (.int .i64 a) (.int .i64 b)).two
      exact bodyPost_ret (v := rV a b) (by simp [results, Try.results52, go_sem, p0, p1]) rfl ⟨⟨a, b, rfl, hM⟩, (B.setCell (Nat.le_add_right _ 1) _).setCell (Nat.le_add_right _ 1) _⟩
theorem infoFr : (Try.prog.info? 74).map (fun i => (i.zero, i.size, i.bytes)) = some (some (.agg #[.int .i64 0, .int .i64 0]), 2, 16) := by kernel_rfl
theorem news2 {w : World} {t : TypeId} {g : Nat} {x y : Int} (h : At t w g #[.int .i64 x, .int .i64 y]) : ∀ j u, (lCells [x, y])[j]? = some u → w.cell? ((⟨g, 0, none⟩ : Addr).add j) = some u := by
  intro j u hu
  rcases j with _ | _ | j
  · simp [lCells] at hu; subst hu; exact h.cell 0 rfl
  · simp [lCells] at hu; subst hu; exact h.cell 1 rfl
  · simp [lCells] at hu
/-- The fractions of the first k corners, number by number. -/
def frs (N D : Nat → Int) : Nat → List Int
  | 0 => []
  | k + 1 => frs N D k ++ [N k, D k]
theorem frs_len (N D : Nat → Int) : ∀ k, (frs N D k).length = k * 2
  | 0 => rfl
  | k + 1 => by simp [frs, frs_len N D k]; omega
theorem frs_get (N D : Nat → Int) : ∀ k j, j < k → (frs N D k).getD (j * 2) 0 = N j ∧ (frs N D k).getD (j * 2 + 1) 0 = D j
  | 0, j, hj => by omega
  | k + 1, j, hj => by
    have hl := frs_len N D k
    simp only [frs, List.getD_eq_getElem?_getD]
    by_cases e : j = k
    · subst e
      rw [List.getElem?_append_right (by omega), List.getElem?_append_right (by omega), hl, Nat.sub_self, show j * 2 + 1 - j * 2 = 1 by omega]
      exact ⟨rfl, rfl⟩
    · have ih := frs_get N D k j (by omega)
      simp only [List.getD_eq_getElem?_getD] at ih
      rw [List.getElem?_append_left (by omega), List.getElem?_append_left (by omega)]
      exact ih
theorem Gat.frs {w0 w : World} {B : Nat} {v : Value} {m : Nat} {N D : Nat → Int} (s : Gat w0 w B 74 2 v m (frs N D m)) : ∃ p c, v = .slice (some ⟨p, 0, none⟩) m c ∧ m ≤ c ∧ Frs w p m N D := by
  obtain ⟨p, c, e, -, hc, lg, cells⟩ := s.open
  refine ⟨p, c, e, hc, lg, fun j hj => ?_⟩
  have hl := frs_len N D m
  have g := frs_get N D m j hj
  have c0 := cells (j * 2) (by omega)
  have c1 := cells (j * 2 + 1) (by omega)
  rw [g.1] at c0
  rw [g.2] at c1
  exact ⟨c0, c1⟩
/-- m corners lie in block g, which is a list of corners. -/
def Tri3 (w : World) (g m : Nat) (f : Nat → Int) : Prop := ∃ cur : Array Value, At 33 w g cur ∧ ∀ i, i < m * 3 → cur[i]? = some (.int .i64 (f i))
theorem Tri3.below {w w' : World} {g m : Nat} {f : Nat → Int} (h : Tri3 w g m f) (hb : Below w.heap.size w w') : Tri3 w' g m f := by
  obtain ⟨cur, h1, h2⟩ := h
  exact ⟨cur, h1.below hb, h2⟩
theorem Tri3.trips {w : World} {g m : Nat} {f : Nat → Int} (h : Tri3 w g m f) : Trips w g m f := by
  obtain ⟨cur, h1, h2⟩ := h
  exact ⟨h1.lt, fun i hi => h1.cell i (h2 i hi)⟩
theorem Tri3.keep {w0 w w' : World} {B : Nat} {v : Value} {k : Nat} {l : List Int} {g m : Nat} {f : Nat → Int} (s : Gat w0 w B 74 2 v k l) (hg : w.grownBy w' v.ownBlock) (h : Tri3 w g m f) : Tri3 w' g m f := by
  obtain ⟨cur, h1, h2⟩ := h
  exact ⟨cur, s.keep hg (by decide) h1, h2⟩
theorem Gat.corners3 {w0 w : World} {B : Nat} {v : Value} {m : Nat} {f : Nat → Int} {l : List (Nat × Nat)} (s : Gat w0 w B 33 3 v m (tris f l)) : ∃ go co fo, v = .slice (some ⟨go, 0, none⟩) m co ∧ l.length = m ∧ Tri3 w go m fo ∧ ∀ (j : Nat) (hj : j < l.length), fo (j * 3) = cX f l[j].1 l[j].2 ∧ fo (j * 3 + 1) = cY f l[j].1 l[j].2 ∧ fo (j * 3 + 2) = cD f l[j].1 l[j].2 := by
  have hl := s.len
  rw [tris_len] at hl
  rcases s.own.2 with ⟨e, _⟩ | ⟨g, c, cur, e, hb, hh, hc1, hc2, hsz, ht⟩
  · exact absurd e s.nn
  · refine ⟨g, c, fun j => (tris f l).getD j 0, e, by omega, ⟨cur, hh, fun i hi => ?_⟩, fun j hj => tris_get f l j hj⟩
    have a1 : (lCells (tris f l))[i]? = some (.int .i64 ((tris f l).getD i 0)) := by
      have hi' : i < (tris f l).length := by rw [tris_len]; omega
      simp [lCells, hi']
    rw [← ht] at a1
    rw [List.getElem?_take_of_lt (by omega)] at a1
    simpa using a1
set_option maxRecDepth 100000 in
set_option maxHeartbeats 4000000 in
theorem implSupport_yes {w : World} {g n c : Nat} {f : Nat → Int} (S : SOk n f) (h : Trips w g n f) (hc : n ≤ c) (x y : Int) (hx : -50 ≤ x ∧ x ≤ 50) (hy : -50 ≤ y ∧ y ≤ 50) :
    Calls Try.prog 18 #[.slice (some ⟨g, 0, none⟩) n c, .int .i64 x, .int .i64 y] w fun e w' => (∃ a b : Int, e = .returned (.tuple #[.int .i64 a, .int .i64 b]) ∧ SupA f n x y a b) ∧ Below w.heap.size w w' := by
  have hn := S.hi
  obtain ⟨i0, hi0, hz0, hz1, hz2⟩ := info_parts infoFr
  have hbs : ∀ w, (Instr.buildSlice 72 0 #[]).run Try.prog w = .ok (.slice (some ⟨w.heap.size, 0, none⟩) 0 0) (w.alloc (.cells #[] 74)) := fun _ => by kernel_rfl
  have hall : (allP f n n).length ≤ 1600 := by
    have h1 := allP_le (f := f) (n := n) n
    have h2 := Nat.mul_le_mul hn hn
    omega
  have hsome : 0 < (allP f n n).length := by
    obtain ⟨a, ha, sh⟩ := shape_some S
    have q := S.nxtIs ha
    exact List.length_pos_of_mem (mem_allP.2 (⟨ha, q.1, S.vx ha sh q.1 q.2⟩ : ((a, nxt f n a) : Nat × Nat).1 < n ∧ ((a, nxt f n a) : Nat × Nat).2 < n ∧ Vx f n ((a, nxt f n a) : Nat × Nat).1 ((a, nxt f n a) : Nat × Nat).2))
  go_enter Try.func18, Try.ntmps18
  go_wp2_with fail
  refine (implShape_any h hc (by omega) true ⟨fun _ => S, fun _ => rfl⟩).mono ?_
  rintro e w1 ⟨rfl, b1⟩
  obtain ⟨V, hV, A0, B, -⟩ := boxed w1 74 #[]
  have R0 : Gat w1 V w1.heap.size 74 2 (.slice (some ⟨w1.heap.size, 0, none⟩) 0 0) 0 [] := Gat.start A0 B
  have hV1 := h.below (b1.trans (B.mono b1.size))
  go_wp2_with (go_at_call 51; refine (within_any _ _ _ (by decide) (by decide)).mono ?_; rintro e w3 ⟨rfl, rfl⟩)
  refine (crossings_any S hV1).mono ?_
  rintro e w2 ⟨v, rfl, G⟩
  obtain ⟨go, co, fo, rfl, hlen, T, hfo⟩ := G.corners3
  replace R0 := R0.below G.b
  obtain ⟨m, hm⟩ : ∃ m, (allP f n n).length = m := ⟨_, rfl⟩
  rw [hm] at hall hsome T ⊢
  have bnd : ∀ j, j < m → ((-100000 ≤ fo (j * 3) ∧ fo (j * 3) ≤ 100000) ∧ (-100000 ≤ fo (j * 3 + 1) ∧ fo (j * 3 + 1) ≤ 100000) ∧ (-5000 ≤ fo (j * 3 + 2) ∧ fo (j * 3 + 2) ≤ 5000)) ∧ 0 < fo (j * 3 + 2) := fun j hj => by
    obtain ⟨e1, e2, e3⟩ := hfo j (by omega)
    have q := mem_allP.1 (List.getElem_mem (h := by omega) : (allP f n n)[j]'(by omega) ∈ allP f n n)
    rw [e1, e2, e3]
    exact ⟨S.c_in q.1 q.2.1 q.2.2.1, vD_pos q.2.2.1⟩
  obtain ⟨Nf, hNf⟩ : ∃ Nf : Nat → Int, (fun j => fo (j * 3) * x + fo (j * 3 + 1) * y) = Nf := ⟨_, rfl⟩
  obtain ⟨Df, hDf⟩ : ∃ Df : Nat → Int, (fun j => fo (j * 3 + 2)) = Df := ⟨_, rfl⟩
  have fin : ∀ p q, Mx Nf Df m p q → SupA f n x y (p.tdiv (Int.gcd p q : Nat)) (q.tdiv (Int.gcd p q : Nat)) := fun p q hm' => by
    refine .yes ⟨S, hx, hy⟩ ⟨?_, ?_⟩
    · obtain ⟨j, hj, rfl, rfl⟩ := hm'.1
      obtain ⟨e1, e2, e3⟩ := hfo j (by omega)
      refine ⟨(allP f n n)[j]'(by omega), List.getElem_mem .., ?_, ?_⟩
      · rw [← hNf]; simp only [e1, e2]; rw [vN, Int.mul_comm x, Int.mul_comm y]
      · rw [← hDf]; exact e3
    · intro c hc
      obtain ⟨j, hj, rfl⟩ := List.mem_iff_getElem.1 hc
      obtain ⟨e1, e2, e3⟩ := hfo j hj
      have := hm'.2 j (by omega)
      rw [← hNf, ← hDf] at this
      simp only [e1, e2, e3] at this
      rw [vN, Int.mul_comm x, Int.mul_comm y]
      exact this
  have FN : Hid ((∀ p q, Mx Nf Df m p q → SupA f n x y (p.tdiv (Int.gcd p q : Nat)) (q.tdiv (Int.gcd p q : Nat))) ∧ (∀ j, Nf j = fo (j * 3) * x + fo (j * 3 + 1) * y) ∧ (∀ j, Df j = fo (j * 3 + 2))) := ⟨fin, fun j => by rw [← hNf], fun j => by rw [← hDf]⟩
  have NB : ∀ j, j < m → (-10000000 ≤ Nf j ∧ Nf j ≤ 10000000) ∧ (0 < Df j ∧ Df j ≤ 5000) := fun j hj => by
    have b := bnd j hj
    have m1 := mul_bound b.1.1 hx
    have m2 := mul_bound b.1.2.1 hy
    rw [FN.out.2.1 j, FN.out.2.2 j]
    omega
  clear fin hNf hDf hfo hlen hm G A0 hV
  go_wp2
  go_loopw [8, 30] (fun s r wr => ∃ k : Nat, k ≤ m ∧ r = .int .i64 (k : Int) ∧ Gat w1 wr w1.heap.size 74 2 s k (frs Nf Df k) ∧ Tri3 wr go m fo) (fun _ r _ => m - (intOf r).toNat)
  case atStart => exact ⟨0, Nat.zero_le _, rfl, R0, T⟩
  case round =>
    clear R0 T
    obtain ⟨k, hk', rfl, R, T⟩ := hrel
    by_cases hk : k < m
    · have hklt : (k : Int) < (m : Int) := by omega
      have L := T.trips
      have lgo := L.1
      obtain ⟨c0, c1, c2⟩ := L.open k hk
      obtain ⟨V4, hV4, A4, b4, -⟩ := boxed wr 33 #[.int .i64 (fo (k * 3)), .int .i64 (fo (k * 3 + 1)), .int .i64 (fo (k * 3 + 2))]
      obtain ⟨y0, y1, y2, -⟩ := A4.open3
      replace R := R.below b4
      replace T := T.below b4
      have bk := bnd k hk
      have m1 := mul_bound bk.1.1 hx
      have m2 := mul_bound bk.1.2.1 hy
      have hNk := FN.out.2.1 k
      have hDk := FN.out.2.2 k
      have hfr : frs Nf Df (k + 1) = frs Nf Df k ++ [Nf k, Df k] := rfl
      rw [hNk, hDk] at hfr
      obtain ⟨p1, q1⟩ : ∃ z, fo (k * 3) * x = z := ⟨_, rfl⟩
      obtain ⟨p2, q2⟩ : ∃ z, fo (k * 3 + 1) * y = z := ⟨_, rfl⟩
      rw [q1] at m1
      rw [q2] at m2
      rw [q1, q2] at hfr
      clear L hNk hDk
      obtain ⟨V9, hV9, A9, b10, -⟩ := boxed V4 74 #[.int .i64 (p1 + p2), .int .i64 (fo (k * 3 + 2))]
      have R9 := R.below b10
      have T9 := T.below b10
      obtain ⟨g9, hg9⟩ : ∃ g, V4.heap.size = g := ⟨_, rfl⟩
      rw [hg9] at A9
      have hb2 : ∀ w, (Instr.buildSlice 72 1 #[(0, .agg #[.int .i64 (p1 + p2), .int .i64 (fo (k * 3 + 2))])]).run Try.prog w = .ok (.slice (some ⟨w.heap.size, 0, none⟩) 1 1) (w.alloc (.cells #[.int .i64 (p1 + p2), .int .i64 (fo (k * 3 + 2))] 74)) := fun _ => by kernel_rfl
      clear b10 b4
      go_wp2_with (at_builtin; refine wpList_append_own _ rfl _ _ _ rfl w1.heap.size 74 i0 _ 2 16 Try.underlying72 hi0 hz0 hz1 hz2 rfl (by omega) u8 k (lCells (frs Nf Df k)) rfl R9.own ⟨g9, 0, none⟩ 1 1 (lCells [p1 + p2, fo (k * 3 + 2)]) rfl rfl (news2 A9) (lCells_one _) (by unfold maxLen; omega) (by omega) R9.o3 ?_; intro v2 w5 hown2 hgrow2 hne2)
      have R2 := R9.grow hown2 hgrow2 (fun h => R9.nn (hne2.1 h).1)
      have T2 := Tri3.keep R9 hgrow2 T9
      rw [← hfr] at R2
      exact ⟨⟨k + 1, by omega, by go_num, R2, T2⟩, by simp [intOf]; omega⟩
    · have hklt : ¬ (k : Int) < (m : Int) := by omega
      obtain rfl : m = k := by omega
      obtain ⟨p, cp, hu8, hcp, FR⟩ := R.frs
      subst hu8
      have BB := b1.trans (R.b.mono b1.size)
      obtain ⟨m', rfl⟩ : ∃ m', m = m' + 1 := ⟨m - 1, by omega⟩
      obtain ⟨c0, c1⟩ := FR.2 0 (by omega)
      have lp := FR.1
      clear R T bnd
      have NB0 : ∀ j, j ≤ m' → -10000000 ≤ Nf j ∧ Nf j ≤ 10000000 := fun j hj => (NB j (by omega)).1
      have DB0 : ∀ j, j ≤ m' → 0 < Df j ∧ Df j ≤ 5000 := fun j hj => (NB j (by omega)).2
      have hcp1 : (1 : Int) ≤ (cp : Int) := by omega
      have hm1 : (1 : Int) ≤ (m' : Int) + 1 := by omega
      obtain ⟨o, ho, hsl⟩ : ∃ o, (m' = 0 ∨ o = 2) ∧ (if cp = 1 then some (⟨p, 0, none⟩ : Addr) else some ⟨p, 2, none⟩) = some ⟨p, o, none⟩ := by
        by_cases e : cp = 1
        · exact ⟨0, .inl (by omega), by rw [if_pos e]⟩
        · exact ⟨2, .inr rfl, by rw [if_neg e]⟩
      clear c0 c1 lp
      go_wp2_with fail
      obtain ⟨u0, hu0, bb⟩ : ∃ uu, wr.drew = uu ∧ Below wr.heap.size wr uu := ⟨_, rfl, (Below.refl _ _).drew⟩
      replace FR := FR.below bb
      replace BB := BB.trans (bb.mono BB.size)
      clear bb
      refine wp_region_held_drew (S := Kb u0) (by kernel_rfl) (by rw [hu0]; exact Below.refl _ _) (fun hHeld => ?_)
      rw [hu0] at hHeld ⊢
      clear hu0
      have bu : Kb u0 u0 := Below.refl _ _
      change wpAnyH _ _ _ _ _ 8 #[false, false, false, false, false, false, false, false] _ _
      refine wpAnyH_take (i := 0) (v := .slice (some ⟨p, 0, none⟩) (m' + 1) cp) rfl (by kernel_rfl) (by kernel_rfl) (by kernel_rfl) (fun _ _ _ h => h) (Or.inl ⟨by kernel_rfl, ?_⟩) hHeld ?_
      · intro w' hSw; go_simp
      try simp only [Act.put, List.setIfInBounds_toArray, List.set_cons_zero, List.set_cons_succ, List.getElem_toArray, List.getElem_cons_zero]
      refine wpAnyH_take (i := 1) (v := .pointer (some ⟨p, 0, none⟩)) rfl (by kernel_rfl) (by kernel_rfl) (by kernel_rfl) (fun _ _ _ h => h) (Or.inl ⟨by kernel_rfl, ?_⟩) hHeld ?_
      · intro w' hSw; go_simp
      try simp only [Act.put, List.setIfInBounds_toArray, List.set_cons_zero, List.set_cons_succ, List.getElem_toArray, List.getElem_cons_succ, List.getElem_cons_zero]
      refine wpAnyH_take (i := 2) (v := rV (Nf 0) (Df 0)) rfl (by kernel_rfl) (by kernel_rfl) (by kernel_rfl) (fun _ _ _ h => h) (Or.inl ⟨by kernel_rfl, ?_⟩) hHeld ?_
      · intro w' hSw; have zz := (FR.below hSw).2 0 (by omega); obtain ⟨z0, z1⟩ := zz; go_simp
      try simp only [Act.put, List.setIfInBounds_toArray, List.set_cons_zero, List.set_cons_succ, List.getElem_toArray, List.getElem_cons_succ, List.getElem_cons_zero]
      refine wpAnyH_take (i := 3) (v := .slice (some ⟨p, 0, none⟩) (m' + 1) cp) rfl (by kernel_rfl) (by kernel_rfl) (by kernel_rfl) (fun _ _ _ h => h) (Or.inl ⟨by kernel_rfl, ?_⟩) hHeld ?_
      · intro w' hSw; go_simp
      try simp only [Act.put, List.setIfInBounds_toArray, List.set_cons_zero, List.set_cons_succ, List.getElem_toArray, List.getElem_cons_succ, List.getElem_cons_zero]
      refine wpAnyH_take (i := 4) (v := .slice (some ⟨p, o, none⟩) m' (cp - 1)) rfl (by kernel_rfl) (by kernel_rfl) (by kernel_rfl) (fun _ _ _ h => h) (Or.inl ⟨by kernel_rfl, ?_⟩) hHeld ?_
      · intro w' hSw; go_simp
      try simp only [Act.put, List.setIfInBounds_toArray, List.set_cons_zero, List.set_cons_succ, List.getElem_toArray, List.getElem_cons_succ, List.getElem_cons_zero]
      refine wpAnyH_ready (rs := [5, 6]) (by kernel_rfl) (by simp) ?_
      refine AllReadyH.cons rfl (fun KK hK' => ?_) (AllReadyH.cons rfl (fun KK hK' => ?_) AllReadyH.nil)
      · go_simp
        refine (greatest_any ho FR (by omega) NB0 DB0).mono ?_
        rintro e u1 ⟨⟨a, b, rfl, hMx⟩, bb⟩
        replace bu : Kb u0 u1 := bu.trans (bb.mono bu.size)
        clear bb
        try go_wp2_with fail
        clear hHeld
        refine hK'.out _ _ bu (fun hHeld => ?_)
        clear hK' KK
        try simp only [List.setIfInBounds_toArray, List.set_cons_zero, List.set_cons_succ]
        refine wpAnyH_ready (rs := [6]) (by kernel_rfl) (by simp) ?_
        refine AllReadyH.cons rfl (fun KK hK' => ?_) AllReadyH.nil
        go_simp
        obtain ⟨V1, hV, rb, bb, -⟩ := boxed u1 74 #[.int .i64 0, .int .i64 0]
        rw [hV]
        obtain ⟨q, hpp⟩ : ∃ p, u1.heap.size = p := ⟨_, rfl⟩
        have hp : u0.heap.size ≤ q := by rw [← hpp]; exact bu.size
        rw [hpp] at rb ⊢
        clear hV hpp
        replace bu : Kb u0 V1 := bu.trans (bb.mono bu.size)
        clear bb
        clear hHeld
        refine hK'.out _ _ bu (fun hHeld => ?_)
        clear hK' KK
        try simp only [List.setIfInBounds_toArray, List.set_cons_zero, List.set_cons_succ]
        refine wpAnyH_ready (rs := [7]) (by kernel_rfl) (by simp) ?_
        refine AllReadyH.cons rfl (fun KK hK' => ?_) AllReadyH.nil
        obtain ⟨y0, y1, y2, y3⟩ := rb.two
        go_simp
        have rb' := put2c rb (.int .i64 a) (.int .i64 b)
        generalize hV : World.setCell _ _ _ = V9
        rw [hV] at rb'
        replace bu : Kb u0 V9 := by rw [← hV]; exact bu.trans ((Below.setCell (Below.refl _ _) hp _).setCell hp _)
        clear hV rb y0 y1 y2 y3
        have rb := rb'
        clear rb'
        clear hHeld
        refine hK'.out _ _ bu (fun hHeld => ?_)
        clear hK' KK
        try simp only [List.setIfInBounds_toArray, List.set_cons_zero, List.set_cons_succ]
        refine wpAnyH_done (by kernel_rfl) ?_ _
        clear hHeld
        replace BB := BB.trans (Below.mono bu BB.size)
        have HA := FN.out.1 a b hMx
        have ain : (-10000000 ≤ a ∧ a ≤ 10000000) ∧ (0 < b ∧ b ≤ 5000) := by
          obtain ⟨j, hj, rfl, rfl⟩ := hMx.1
          exact NB j (by omega)
        have gpos : 0 < Int.gcd a b := Nat.pos_of_ne_zero (fun e => by have := (Int.gcd_eq_zero_iff.1 e).2; omega)
        have gp : ¬ ((Int.gcd a b : Nat) : Int) = 0 := by omega
        have t1 := tdiv_small a ((Int.gcd a b : Nat) : Int)
        have t2 := tdiv_small b ((Int.gcd a b : Nat) : Int)
        clear bu hp hMx FN NB NB0 DB0 FR
        obtain ⟨y0, y1, -⟩ := rb.two
        have lq := rb.lt
        go_wp2_with fail
        refine (implGcd_any a b _ (by omega) (by omega)).mono ?_
        rintro e w6 ⟨rfl, b6⟩
        obtain ⟨G, hG⟩ : ∃ G, ((Int.gcd a b : Nat) : Int) = G := ⟨_, rfl⟩
        rw [hG] at HA gp t1 t2 ⊢
        obtain ⟨α, hα⟩ : ∃ z, a.tdiv G = z := ⟨_, rfl⟩
        obtain ⟨β, hβ⟩ : ∃ z, b.tdiv G = z := ⟨_, rfl⟩
        rw [hα] at HA t1
        rw [hβ] at HA t2
        have wa : IntKind.i64.wrap α = α := IntWalk.i64_in _ (by omega)
        have wb : IntKind.i64.wrap β = β := IntWalk.i64_in _ (by omega)
        replace rb := rb.below b6
        replace BB := BB.trans (b6.mono BB.size)
        clear hG gpos t1 t2 y0 y1 lq b6
        go_wp2
        obtain ⟨r0, hu0, bb⟩ : ∃ uu, w6.drew = uu ∧ Below w6.heap.size w6 uu := ⟨_, rfl, (Below.refl _ _).drew⟩
        replace rb := rb.below bb
        replace BB := BB.trans (bb.mono BB.size)
        clear bb
        refine wp_region_held_drew (S := Kb r0) (by kernel_rfl) (by rw [hu0]; exact Below.refl _ _) (fun hHeld => ?_)
        rw [hu0] at hHeld ⊢
        clear hu0
        have bu : Kb r0 r0 := Below.refl _ _
        change wpAnyH _ _ _ _ _ 10 #[false, false, false, false, false, false, false, false, false, false] _ _
        refine wpAnyH_take (i := 0) (v := .pointer (some ⟨q, 0, none⟩)) rfl (by kernel_rfl) (by kernel_rfl) (by kernel_rfl) (fun _ _ _ h => h) (Or.inl ⟨by kernel_rfl, ?_⟩) hHeld ?_
        · intro w' hSw; go_simp
        try simp only [Act.put, List.setIfInBounds_toArray, List.set_cons_zero, List.set_cons_succ, List.getElem_toArray, List.getElem_cons_zero]
        refine wpAnyH_take (i := 1) (v := .int .i64 a) rfl (by kernel_rfl) (by kernel_rfl) (by kernel_rfl) (fun _ _ _ h => h) (Or.inl ⟨by kernel_rfl, ?_⟩) hHeld ?_
        · intro w' hSw; obtain ⟨z0, z1, -⟩ := (rb.below hSw).two; have lq := (rb.below hSw).lt; go_simp
        try simp only [Act.put, List.setIfInBounds_toArray, List.set_cons_zero, List.set_cons_succ, List.getElem_toArray, List.getElem_cons_succ, List.getElem_cons_zero]
        refine wpAnyH_take (i := 2) (v := .int .i64 G) rfl (by kernel_rfl) (by kernel_rfl) (by kernel_rfl) (fun _ _ _ h => h) (Or.inl ⟨by kernel_rfl, ?_⟩) hHeld ?_
        · intro w' hSw; go_simp
        try simp only [Act.put, List.setIfInBounds_toArray, List.set_cons_zero, List.set_cons_succ, List.getElem_toArray, List.getElem_cons_succ, List.getElem_cons_zero]
        refine wpAnyH_take (i := 3) (v := .int .i64 α) rfl (by kernel_rfl) (by kernel_rfl) (by kernel_rfl) (fun _ _ _ h => h) (Or.inl ⟨by kernel_rfl, ?_⟩) hHeld ?_
        · intro w' hSw; go_simp
        try simp only [Act.put, List.setIfInBounds_toArray, List.set_cons_zero, List.set_cons_succ, List.getElem_toArray, List.getElem_cons_succ, List.getElem_cons_zero]
        refine wpAnyH_take (i := 4) (v := .pointer (some ⟨q, 1, none⟩)) rfl (by kernel_rfl) (by kernel_rfl) (by kernel_rfl) (fun _ _ _ h => h) (Or.inl ⟨by kernel_rfl, ?_⟩) hHeld ?_
        · intro w' hSw; go_simp
        try simp only [Act.put, List.setIfInBounds_toArray, List.set_cons_zero, List.set_cons_succ, List.getElem_toArray, List.getElem_cons_succ, List.getElem_cons_zero]
        refine wpAnyH_take (i := 5) (v := .int .i64 b) rfl (by kernel_rfl) (by kernel_rfl) (by kernel_rfl) (fun _ _ _ h => h) (Or.inl ⟨by kernel_rfl, ?_⟩) hHeld ?_
        · intro w' hSw; obtain ⟨z0, z1, -⟩ := (rb.below hSw).two; have lq := (rb.below hSw).lt; go_simp
        try simp only [Act.put, List.setIfInBounds_toArray, List.set_cons_zero, List.set_cons_succ, List.getElem_toArray, List.getElem_cons_succ, List.getElem_cons_zero]
        refine wpAnyH_take (i := 6) (v := .int .i64 G) rfl (by kernel_rfl) (by kernel_rfl) (by kernel_rfl) (fun _ _ _ h => h) (Or.inl ⟨by kernel_rfl, ?_⟩) hHeld ?_
        · intro w' hSw; go_simp
        try simp only [Act.put, List.setIfInBounds_toArray, List.set_cons_zero, List.set_cons_succ, List.getElem_toArray, List.getElem_cons_succ, List.getElem_cons_zero]
        refine wpAnyH_take (i := 7) (v := .int .i64 β) rfl (by kernel_rfl) (by kernel_rfl) (by kernel_rfl) (fun _ _ _ h => h) (Or.inl ⟨by kernel_rfl, ?_⟩) hHeld ?_
        · intro w' hSw; go_simp
        try simp only [Act.put, List.setIfInBounds_toArray, List.set_cons_zero, List.set_cons_succ, List.getElem_toArray, List.getElem_cons_succ, List.getElem_cons_zero]
        refine wpAnyH_ready (rs := [8]) (by kernel_rfl) (by simp) ?_
        refine AllReadyH.cons rfl (fun KK hK' => ?_) AllReadyH.nil
        go_simp
        clear hHeld
        refine hK'.out _ _ (bu) (fun hHeld => ?_)
        clear hK' KK
        try simp only [List.setIfInBounds_toArray, List.set_cons_zero, List.set_cons_succ]
        refine wpAnyH_ready (rs := [9]) (by kernel_rfl) (by simp) ?_
        refine AllReadyH.cons rfl (fun KK hK' => ?_) AllReadyH.nil
        go_simp
        clear hHeld
        refine hK'.out _ _ (bu) (fun hHeld => ?_)
        clear hK' KK
        try simp only [List.setIfInBounds_toArray, List.set_cons_zero, List.set_cons_succ]
        refine wpAnyH_done (by kernel_rfl) ?_ _
        clear hHeld
        clear bu
        go_wp2
        exact bodyPost_ret (v := .tuple #[.int .i64 α, .int .i64 β]) (by simp [results, Try.results18, go_sem]) rfl ⟨⟨_, _, rfl, HA⟩, BB⟩
      · go_simp
        obtain ⟨V1, hV, rb, bb, -⟩ := boxed u0 74 #[.int .i64 0, .int .i64 0]
        rw [hV]
        obtain ⟨q, hpp⟩ : ∃ p, u0.heap.size = p := ⟨_, rfl⟩
        have hp : u0.heap.size ≤ q := by rw [← hpp]; exact bu.size
        rw [hpp] at rb ⊢
        clear hV hpp
        replace bu : Kb u0 V1 := bu.trans (bb.mono bu.size)
        have FR1 := FR.below bb
        clear bb
        clear hHeld
        refine hK'.out _ _ bu (fun hHeld => ?_)
        clear hK' KK
        try simp only [List.setIfInBounds_toArray, List.set_cons_zero, List.set_cons_succ]
        refine wpAnyH_ready (rs := [5]) (by kernel_rfl) (by simp) ?_
        refine AllReadyH.cons rfl (fun KK hK' => ?_) AllReadyH.nil
        go_simp
        refine (greatest_any ho FR1 (by omega) NB0 DB0).mono ?_
        rintro e u1 ⟨⟨a, b, rfl, hMx⟩, bb⟩
        replace bu : Kb u0 u1 := bu.trans (bb.mono bu.size)
        replace rb := rb.below bb
        clear bb FR1
        try go_wp2_with fail
        clear hHeld
        refine hK'.out _ _ bu (fun hHeld => ?_)
        clear hK' KK
        try simp only [List.setIfInBounds_toArray, List.set_cons_zero, List.set_cons_succ]
        refine wpAnyH_ready (rs := [7]) (by kernel_rfl) (by simp) ?_
        refine AllReadyH.cons rfl (fun KK hK' => ?_) AllReadyH.nil
        obtain ⟨y0, y1, y2, y3⟩ := rb.two
        go_simp
        have rb' := put2c rb (.int .i64 a) (.int .i64 b)
        generalize hV : World.setCell _ _ _ = V9
        rw [hV] at rb'
        replace bu : Kb u0 V9 := by rw [← hV]; exact bu.trans ((Below.setCell (Below.refl _ _) hp _).setCell hp _)
        clear hV rb y0 y1 y2 y3
        have rb := rb'
        clear rb'
        clear hHeld
        refine hK'.out _ _ bu (fun hHeld => ?_)
        clear hK' KK
        try simp only [List.setIfInBounds_toArray, List.set_cons_zero, List.set_cons_succ]
        refine wpAnyH_done (by kernel_rfl) ?_ _
        clear hHeld
        replace BB := BB.trans (Below.mono bu BB.size)
        have HA := FN.out.1 a b hMx
        have ain : (-10000000 ≤ a ∧ a ≤ 10000000) ∧ (0 < b ∧ b ≤ 5000) := by
          obtain ⟨j, hj, rfl, rfl⟩ := hMx.1
          exact NB j (by omega)
        have gpos : 0 < Int.gcd a b := Nat.pos_of_ne_zero (fun e => by have := (Int.gcd_eq_zero_iff.1 e).2; omega)
        have gp : ¬ ((Int.gcd a b : Nat) : Int) = 0 := by omega
        have t1 := tdiv_small a ((Int.gcd a b : Nat) : Int)
        have t2 := tdiv_small b ((Int.gcd a b : Nat) : Int)
        clear bu hp hMx FN NB NB0 DB0 FR
        obtain ⟨y0, y1, -⟩ := rb.two
        have lq := rb.lt
        go_wp2_with fail
        refine (implGcd_any a b _ (by omega) (by omega)).mono ?_
        rintro e w6 ⟨rfl, b6⟩
        obtain ⟨G, hG⟩ : ∃ G, ((Int.gcd a b : Nat) : Int) = G := ⟨_, rfl⟩
        rw [hG] at HA gp t1 t2 ⊢
        obtain ⟨α, hα⟩ : ∃ z, a.tdiv G = z := ⟨_, rfl⟩
        obtain ⟨β, hβ⟩ : ∃ z, b.tdiv G = z := ⟨_, rfl⟩
        rw [hα] at HA t1
        rw [hβ] at HA t2
        have wa : IntKind.i64.wrap α = α := IntWalk.i64_in _ (by omega)
        have wb : IntKind.i64.wrap β = β := IntWalk.i64_in _ (by omega)
        replace rb := rb.below b6
        replace BB := BB.trans (b6.mono BB.size)
        clear hG gpos t1 t2 y0 y1 lq b6
        go_wp2
        obtain ⟨r0, hu0, bb⟩ : ∃ uu, w6.drew = uu ∧ Below w6.heap.size w6 uu := ⟨_, rfl, (Below.refl _ _).drew⟩
        replace rb := rb.below bb
        replace BB := BB.trans (bb.mono BB.size)
        clear bb
        refine wp_region_held_drew (S := Kb r0) (by kernel_rfl) (by rw [hu0]; exact Below.refl _ _) (fun hHeld => ?_)
        rw [hu0] at hHeld ⊢
        clear hu0
        have bu : Kb r0 r0 := Below.refl _ _
        change wpAnyH _ _ _ _ _ 10 #[false, false, false, false, false, false, false, false, false, false] _ _
        refine wpAnyH_take (i := 0) (v := .pointer (some ⟨q, 0, none⟩)) rfl (by kernel_rfl) (by kernel_rfl) (by kernel_rfl) (fun _ _ _ h => h) (Or.inl ⟨by kernel_rfl, ?_⟩) hHeld ?_
        · intro w' hSw; go_simp
        try simp only [Act.put, List.setIfInBounds_toArray, List.set_cons_zero, List.set_cons_succ, List.getElem_toArray, List.getElem_cons_zero]
        refine wpAnyH_take (i := 1) (v := .int .i64 a) rfl (by kernel_rfl) (by kernel_rfl) (by kernel_rfl) (fun _ _ _ h => h) (Or.inl ⟨by kernel_rfl, ?_⟩) hHeld ?_
        · intro w' hSw; obtain ⟨z0, z1, -⟩ := (rb.below hSw).two; have lq := (rb.below hSw).lt; go_simp
        try simp only [Act.put, List.setIfInBounds_toArray, List.set_cons_zero, List.set_cons_succ, List.getElem_toArray, List.getElem_cons_succ, List.getElem_cons_zero]
        refine wpAnyH_take (i := 2) (v := .int .i64 G) rfl (by kernel_rfl) (by kernel_rfl) (by kernel_rfl) (fun _ _ _ h => h) (Or.inl ⟨by kernel_rfl, ?_⟩) hHeld ?_
        · intro w' hSw; go_simp
        try simp only [Act.put, List.setIfInBounds_toArray, List.set_cons_zero, List.set_cons_succ, List.getElem_toArray, List.getElem_cons_succ, List.getElem_cons_zero]
        refine wpAnyH_take (i := 3) (v := .int .i64 α) rfl (by kernel_rfl) (by kernel_rfl) (by kernel_rfl) (fun _ _ _ h => h) (Or.inl ⟨by kernel_rfl, ?_⟩) hHeld ?_
        · intro w' hSw; go_simp
        try simp only [Act.put, List.setIfInBounds_toArray, List.set_cons_zero, List.set_cons_succ, List.getElem_toArray, List.getElem_cons_succ, List.getElem_cons_zero]
        refine wpAnyH_take (i := 4) (v := .pointer (some ⟨q, 1, none⟩)) rfl (by kernel_rfl) (by kernel_rfl) (by kernel_rfl) (fun _ _ _ h => h) (Or.inl ⟨by kernel_rfl, ?_⟩) hHeld ?_
        · intro w' hSw; go_simp
        try simp only [Act.put, List.setIfInBounds_toArray, List.set_cons_zero, List.set_cons_succ, List.getElem_toArray, List.getElem_cons_succ, List.getElem_cons_zero]
        refine wpAnyH_take (i := 5) (v := .int .i64 b) rfl (by kernel_rfl) (by kernel_rfl) (by kernel_rfl) (fun _ _ _ h => h) (Or.inl ⟨by kernel_rfl, ?_⟩) hHeld ?_
        · intro w' hSw; obtain ⟨z0, z1, -⟩ := (rb.below hSw).two; have lq := (rb.below hSw).lt; go_simp
        try simp only [Act.put, List.setIfInBounds_toArray, List.set_cons_zero, List.set_cons_succ, List.getElem_toArray, List.getElem_cons_succ, List.getElem_cons_zero]
        refine wpAnyH_take (i := 6) (v := .int .i64 G) rfl (by kernel_rfl) (by kernel_rfl) (by kernel_rfl) (fun _ _ _ h => h) (Or.inl ⟨by kernel_rfl, ?_⟩) hHeld ?_
        · intro w' hSw; go_simp
        try simp only [Act.put, List.setIfInBounds_toArray, List.set_cons_zero, List.set_cons_succ, List.getElem_toArray, List.getElem_cons_succ, List.getElem_cons_zero]
        refine wpAnyH_take (i := 7) (v := .int .i64 β) rfl (by kernel_rfl) (by kernel_rfl) (by kernel_rfl) (fun _ _ _ h => h) (Or.inl ⟨by kernel_rfl, ?_⟩) hHeld ?_
        · intro w' hSw; go_simp
        try simp only [Act.put, List.setIfInBounds_toArray, List.set_cons_zero, List.set_cons_succ, List.getElem_toArray, List.getElem_cons_succ, List.getElem_cons_zero]
        refine wpAnyH_ready (rs := [8]) (by kernel_rfl) (by simp) ?_
        refine AllReadyH.cons rfl (fun KK hK' => ?_) AllReadyH.nil
        go_simp
        clear hHeld
        refine hK'.out _ _ (bu) (fun hHeld => ?_)
        clear hK' KK
        try simp only [List.setIfInBounds_toArray, List.set_cons_zero, List.set_cons_succ]
        refine wpAnyH_ready (rs := [9]) (by kernel_rfl) (by simp) ?_
        refine AllReadyH.cons rfl (fun KK hK' => ?_) AllReadyH.nil
        go_simp
        clear hHeld
        refine hK'.out _ _ (bu) (fun hHeld => ?_)
        clear hK' KK
        try simp only [List.setIfInBounds_toArray, List.set_cons_zero, List.set_cons_succ]
        refine wpAnyH_done (by kernel_rfl) ?_ _
        clear hHeld
        clear bu
        go_wp2
        exact bodyPost_ret (v := .tuple #[.int .i64 α, .int .i64 β]) (by simp [results, Try.results18, go_sem]) rfl ⟨⟨_, _, rfl, HA⟩, BB⟩
end Go.Proofs.Ytealbihplfpgeaa
