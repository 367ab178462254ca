/-
  A data's text by the program: walked.
-/
import Derived.Test.YtdhfoekfejcceaaS16f
namespace Go.Proofs.Ytdhfoekfejcceaa
open Go.RowKit

/-- What a single item's line is read from. -/
def RdI (r1 q : Nat) (x z : ByteArray) (w : World) : Prop := (w.cell? ⟨r1, 0, none⟩ = some (.string x) ∧ w.cell? ⟨r1, 1, none⟩ = some (.slice (some ⟨q, 0, none⟩) 1 1) ∧ w.cell? ⟨q, 0, none⟩ = some (.string z)) ∧ r1 < w.heap.size ∧ q < w.heap.size
theorem RdI.below {r1 q : Nat} {x z : ByteArray} {w w' : World} (h : RdI r1 q x z w) (hb : Below w.heap.size w w') : RdI r1 q x z w' := by
  obtain ⟨⟨h1, h2, h3⟩, h4, h5⟩ := h
  exact ⟨⟨(hb.cell (p := ⟨r1, 0, none⟩) h4).trans h1, (hb.cell (p := ⟨r1, 1, none⟩) h4).trans h2, (hb.cell (p := ⟨q, 0, none⟩) h5).trans h3⟩, Nat.lt_of_lt_of_le h4 hb.size, Nat.lt_of_lt_of_le h5 hb.size⟩
theorem cell_of_block {w w' : World} {g i : Nat} (h : w'.heap[g]? = w.heap[g]?) : w'.cell? ⟨g, i, none⟩ = w.cell? ⟨g, i, none⟩ := by
  simp only [World.cell?, h]
theorem RdI.grown {r1 q : Nat} {x z : ByteArray} {w w' : World} {row : Option Nat} (h : RdI r1 q x z w) (hg : w.grownBy w' row) (h1 : some r1 ≠ row) (h2 : some q ≠ row) : RdI r1 q x z w' := by
  obtain ⟨⟨k1, k2, k3⟩, k4, k5⟩ := h
  exact ⟨⟨(cell_of_block (hg.block r1 k4 h1)).trans k1, (cell_of_block (hg.block r1 k4 h1)).trans k2, (cell_of_block (hg.block q k5 h2)).trans k3⟩, Nat.lt_of_lt_of_le k4 hg.size, Nat.lt_of_lt_of_le k5 hg.size⟩
/-- The loops' list. -/
def LcP (gl g N F M : Nat) (lp : Nat → Int) (w : World) : Prop := gl < w.heap.size ∧ ∀ j, j < M → w.cell? ⟨gl, j, none⟩ = some (lvV g N F lp j)
theorem LcP.below {gl g N F M : Nat} {lp : Nat → Int} {w w' : World} (h : LcP gl g N F M lp w) (hb : Below w.heap.size w w') : LcP gl g N F M lp w' :=
  ⟨Nat.lt_of_lt_of_le h.1 hb.size, fun j hj => (hb.cell (p := ⟨gl, j, none⟩) h.1).trans (h.2 j hj)⟩
theorem LcP.grown {gl g N F M : Nat} {lp : Nat → Int} {w w' : World} {row : Option Nat} (h : LcP gl g N F M lp w) (hg : w.grownBy w' row) (h1 : 0 < M → some gl ≠ row) : LcP gl g N F M lp w' :=
  ⟨Nat.lt_of_lt_of_le h.1 hg.size, fun j hj => (cell_of_block (hg.block gl h.1 (h1 (by omega)))).trans (h.2 j hj)⟩
theorem LcP.apart {gl g N F M : Nat} {lp : Nat → Int} {w : World} (h : LcP gl g N F M lp w) {gs : Nat} {x : ByteArray} (hc : w.cell? ⟨gs, 0, none⟩ = some (.string x)) : 0 < M → some gl ≠ some gs := fun hM e => by
  cases e
  have := (h.2 0 hM).symm.trans hc
  simp [lvV] at this
noncomputable def sgT (nm : Nat → ByteArray) (f : Nat → Nat → ByteArray) (i : Nat) : ByteArray := ⟨#[95]⟩ ++ nm i ++ ⟨#[32]⟩ ++ wd (f i 0)
noncomputable def sgL (nm : Nat → ByteArray) (f : Nat → Nat → ByteArray) (k : Nat) : List ByteArray := (List.range k).map (sgT nm f)
noncomputable def lsL (nm : Nat → ByteArray) (f : Nat → Nat → ByteArray) (rw : Nat → Int) (F : Nat) (lp : Nat → Int) : Nat → List ByteArray
  | 0 => []
  | j + 1 => lsL nm f rw F lp j ++ lpL nm f (atL F lp j) (lp j).toNat (rw (atL F lp j)).toNat
/-- All lines of a data. -/
noncomputable def shL (s : ByteArray) (nm : Nat → ByteArray) (f : Nat → Nat → ByteArray) (rw : Nat → Int) (F : Nat) (lp : Nat → Int) (k j : Nat) : List ByteArray := (DATA ++ s) :: sgL nm f k ++ lsL nm f rw F lp j
noncomputable def shw (s : ByteArray) (nm : Nat → ByteArray) (f : Nat → Nat → ByteArray) (rw : Nat → Int) (F : Nat) (lp : Nat → Int) (M : Nat) : ByteArray := ⟨(Lib.join ((shL s nm f rw F lp F M).map (·.data.toList)) [10]).toArray⟩ ++ ⟨#[10]⟩
theorem sgL_add (nm : Nat → ByteArray) (f : Nat → Nat → ByteArray) (k : Nat) : sgL nm f (k + 1) = sgL nm f k ++ [sgT nm f k] := by simp [sgL, List.range_succ]
theorem sgL_len (nm : Nat → ByteArray) (f : Nat → Nat → ByteArray) (k : Nat) : (sgL nm f k).length = k := by simp [sgL]
theorem lpL_len (nm : Nat → ByteArray) (f : Nat → Nat → ByteArray) (x L R : Nat) : (lpL nm f x L R).length = 1 + L + R := by simp [lpL, nmL_len, rwL_len]; omega
theorem lsL_len {nm : Nat → ByteArray} {f : Nat → Nat → ByteArray} {rw : Nat → Int} {F : Nat} {lp : Nat → Int} : ∀ {j : Nat}, (∀ i, i < j → (lp i).toNat ≤ 200 ∧ (rw (atL F lp i)).toNat ≤ 4000) → (lsL nm f rw F lp j).length ≤ j * 4201
  | 0, _ => Nat.le_refl _
  | j + 1, h => by
    have h1 := lsL_len (nm := nm) (f := f) (rw := rw) (F := F) (lp := lp) (j := j) (fun i hi => h i (by omega))
    have h2 := h j (by omega)
    show (lsL nm f rw F lp j ++ lpL nm f (atL F lp j) (lp j).toNat (rw (atL F lp j)).toNat).length ≤ _
    rw [List.length_append, lpL_len]
    omega
theorem tot_one {n : Nat → Nat} {x : Nat} (h : tot n (x + 1) ≤ 4000) : n x ≤ 4000 := by
  have : tot n (x + 1) = tot n x + n x := rfl
  omega
theorem DOk.rows {s : ByteArray} {N M F : Nat} {nm : Nat → ByteArray} {n : Nat → Nat} {rw : Nat → Int} {f : Nat → Nat → ByteArray} {lp : Nat → Int} (h : DOk s N M nm n rw f lp) (hF : Fst F N rw) {j : Nat} (hj : j < M) : atL F lp j + (lp j).toNat ≤ N ∧ 0 < (lp j).toNat ∧ (lp j).toNat ≤ 200 ∧ (rw (atL F lp j)).toNat ≤ 4000 ∧ rw (atL F lp j) = ((rw (atL F lp j)).toNat : Int) ∧ ∀ k, k < (lp j).toNat → n (atL F lp j + k) = (rw (atL F lp j)).toNat ∧ rw (atL F lp j + k) = rw (atL F lp j) := by
  obtain ⟨h1, h2, h3⟩ := (h.fst hF).2.1 j hj
  have hN := h.2.1
  have h4 := h3 (atL F lp j) (Nat.le_refl _) (by omega)
  have h5 := tot_one (h.2.2.1 (atL F lp j) (by omega)).2.1
  refine ⟨by omega, by omega, by omega, by omega, by omega, fun k hk => ?_⟩
  have h6 := h3 (atL F lp j + k) (by omega) (by omega)
  exact ⟨by omega, h6.2.1⟩
theorem newsT {w : World} {g : Nat} {l : List ByteArray} (h : ∀ (j : Nat) x, l[j]? = some x → w.cell? ⟨g, 0 + j, none⟩ = some (.string x)) : ∀ (j : Nat) (u : Value), (l.map Value.string)[j]? = some u → w.cell? ((⟨g, 0, none⟩ : Addr).add j) = some u := by
  intro j u hu
  rw [List.getElem?_map] at hu
  cases e : l[j]? with
  | none => rw [e] at hu; cases hu
  | some x =>
    rw [e] at hu
    cases hu
    rw [Addr.add_lit]
    exact h j x e
theorem cellsT (l : List ByteArray) : ∀ u ∈ l.map Value.string, u.oneCell' = true := by
  intro u hu
  obtain ⟨x, -, rfl⟩ := List.mem_map.1 hu
  rfl
set_option maxRecDepth 100000 in
set_option maxHeartbeats 3200000 in
theorem implShow_any {w : World} {g N h M F : Nat} {s : ByteArray} {vb : Nat → Nat} {nm : Nat → ByteArray} {n : Nat → Nat} {rw : Nat → Int} {f : Nat → Nat → ByteArray} {lp : Nat → Int} (D : DaO w g N h M vb nm n rw f lp) (hN : N ≤ 1048576) (hn : ∀ i, i < N → n i ≤ 1048576) (hM : M ≤ 1048576) (hl64 : ∀ j, j < M → -9223372036854775808 ≤ lp j ∧ lp j ≤ 9223372036854775807) (b : Bool) (hb : Hid (b = true ↔ DOk s N M nm n rw f lp)) (hF : Fst F N rw) (T : ByteArray) (hT0 : Hid (b = false → T = ⟨#[]⟩)) (hT1 : Hid (b = true → T = shw s nm f rw F lp M)) (hJ : Hid (b = true → (Lib.join ((shL s nm f rw F lp F M).map (·.data.toList)) [10]).length ≤ 1000000000000)) :
    Calls Try.prog 12 #[dV s g N h M] w fun e w' => e = .returned (.string T) ∧ Below w.heap.size w w' := by
  have HB : Hid (b = true ↔ DOk s N M nm n rw f lp) := hb
  clear hb
  have HE : dV s g N h M = .agg #[.string s, .slice (some ⟨g, 0, none⟩) N N, .slice (some ⟨h, 0, none⟩) M M] := rfl
  obtain ⟨W1, hW1, a1, b1, -⟩ := boxed w 30 #[.string s, .slice (some ⟨g, 0, none⟩) N N, .slice (some ⟨h, 0, none⟩) M M]
  obtain ⟨q1, hq1⟩ : ∃ q, w.heap.size = q := ⟨_, rfl⟩
  rw [hq1] at a1
  have D1 := D.below b1
  have HD : Hid (DaO w g N h M vb nm n rw f lp) := D
  clear D
  have hN' : (N : Int) ≤ 1048576 := by omega
  obtain ⟨c0, c1, c2, -⟩ := a1.open3
  rw [HE]
  go_enter Try.func12, Try.ntmps12
  go_wp2_with fail
  rw [← HE]
  refine (implOk_any D1 hN hn hM hl64 b HB).mono ?_
  rintro e w2 ⟨rfl, b2⟩
  rw [HE]
  replace a1 := a1.below b2
  have B := b1.trans (b2.mono b1.size)
  clear c0 c1 c2 hW1 hq1 b1 b2 D1
  obtain ⟨c0, c1, c2, -⟩ := a1.open3
  cases b
  · obtain rfl := hT0.out rfl
    clear HB hT0 hT1 hJ
    go_wp2
    go_ret
    exact ⟨rfl, B⟩
  obtain rfl := hT1.out rfl
  have OK : Hid (DOk s N M nm n rw f lp) := HB.out.1 rfl
  have HJ : Hid ((Lib.join ((shL s nm f rw F lp F M).map (·.data.toList)) [10]).length ≤ 1000000000000) := hJ.out rfl
  clear HB hT0 hT1 hJ
  have HP : Hid (true = true ↔ PtOk N M F rw lp) := ⟨fun _ => ((ok_iff hF).1 OK.out).2.2, fun _ => rfl⟩
  have hs40 : s.size ≤ 40 := OK.out.1.1.2
  have ho1 : ¬ 9223372036854775807 < 5 + s.size := by omega
  have HF : Hid (Fst F N rw) := hF
  have hFN : F ≤ N := hF.1
  have hN2 : N ≤ 200 := OK.out.2.1
  have hM2 : M ≤ 200 := OK.out.m
  clear hF
  obtain ⟨V, hV, A0, bb, -⟩ := boxed w2 9 #[.string ({ data := #[100, 97, 116, 97, 95] } ++ s)]
  obtain ⟨gh, hgh⟩ : ∃ g, w2.heap.size = g := ⟨_, rfl⟩
  rw [hgh] at A0
  have hwg : w.heap.size ≤ gh := by have := B.size; omega
  have B2 := B.trans (bb.mono B.size)
  have G : Gt w V w.heap.size (.slice (some ⟨gh, 0, none⟩) 1 1) [DATA ++ s] := ⟨⟨rfl, .inr ⟨gh, 1, #[.string (DATA ++ s)], rfl, hwg, A0, Nat.le_refl _, by decide, rfl, rfl⟩⟩, (fun h => by cases h), B2, Nat.le_refl _, B2.size⟩
  have HS : Hid (DATA ++ s = { data := #[100, 97, 116, 97, 95] } ++ s) := rfl
  replace a1 := a1.below bb
  have PA := partsOf_any (s := s) (HD.out.below B2) hN hM hl64 HF.out true HP
  clear bb A0 B HP
  have hb2 : ∀ w, (Instr.buildSlice 35 1 #[(0, .string ({ data := #[100, 97, 116, 97, 95] } ++ s))]).run Try.prog w = .ok (.slice (some ⟨w.heap.size, 0, none⟩) 1 1) (w.alloc (.cells #[.string ({ data := #[100, 97, 116, 97, 95] } ++ s)] 9)) := fun _ => by kernel_rfl
  obtain ⟨e0, e1, e2, -⟩ := a1.open3
  go_wp2_with fail
  rw [← HE]
  refine PA.mono ?_
  rintro e w3 ⟨v1, v2, rfl, hv, b3⟩
  obtain ⟨rfl, gl, cl, rfl, gll, HC⟩ := hv rfl
  replace G := G.below b3
  have G0 : Gt w w3 w.heap.size (.slice (some ⟨gh, 0, none⟩) 1 1) (shL s nm f rw F lp 0 0) := by
    rw [show shL s nm f rw F lp 0 0 = [DATA ++ s] by simp [shL, sgL, lsL]]
    exact G
  have B3 := B2.trans (b3.mono B2.size)
  have L0 : LcP gl g N F M lp w3 := ⟨gll, HC⟩
  clear PA hv HC c0 c1 c2 e0 e1 e2 a1 b3 B2 G hV hgh hb2 hwg
  obtain ⟨i0, hj0, hz0, hz1, hz2⟩ := info_parts infoStr
  go_wp2
  have hF' : (F : Int) ≤ 200 := by omega
  have hM' : (M : Int) ≤ 200 := by omega
  clear gll
  go_loopw [3, 26] (fun t u wr => ∃ k : Nat, k ≤ F ∧ u = .int .i64 (k : Int) ∧ Gt w wr w.heap.size t (shL s nm f rw F lp k 0) ∧ LcP gl g N F M lp wr) (fun _ u _ => F - (intOf u).toNat)
  case atStart => exact ⟨0, Nat.zero_le _, rfl, G0, L0⟩
  case round =>
    clear G0 L0
    obtain ⟨k, hk, rfl, G, LC⟩ := hrel
    obtain ⟨gs, cs, rfl, qc, gsl, gsB, qcap⟩ := G.open
    have hgl := LC.apart (qc 0 (DATA ++ s) rfl)
    by_cases hlt : k < F
    · have hlt' : (k : Int) < (F : Int) := by omega
      have D := HD.out.below G.b
      obtain ⟨d0, d1, d2⟩ := D.it.at (show k < N by omega)
      have hn1 : n k = 1 := (OK.out.fst HF.out).1 k hlt
      rw [hn1] at d1
      have hvb : vb k < w.heap.size := (HD.out.it.own k (by omega)).2.lt
      have hst := (D.it.own k (by omega)).2.strs 0 (by omega)
      have hvl := (OK.out.2.2.1 k (by omega)).2.2.2 0 (by omega)
      have hnk : (nm k).size ≤ 40 := (OK.out.2.2.1 k (by omega)).1.1.2
      obtain ⟨V1, hV1, m1, bb1, -⟩ := boxed wr 46 #[.string (nm k), .slice (some ⟨vb k, 0, none⟩) 1 1, .int .i64 (rw k)]
      obtain ⟨r1, hr1⟩ : ∃ r, wr.heap.size = r := ⟨_, rfl⟩
      rw [hr1] at m1
      have hrg : some r1 ≠ some gs := fun e => by cases e; omega
      have hvg : some (vb k) ≠ some gs := fun e => by cases e; omega
      obtain ⟨x0, x1, x2, -⟩ := m1.open3
      have WR := fun w => written_any (f k 0) w hvl.1 (fun i hi => (hvl.2 i hi).2)
      have hwd := wd_size (f k 0)
      have hv200 := hvl.1
      have rd : RdI r1 (vb k) (nm k) (f k 0) V1 := ⟨⟨x0, x1, (bb1.cell (p := ⟨vb k, 0, none⟩) (Nat.lt_of_lt_of_le hvb G.b.size)).trans (by simpa using hst)⟩, m1.lt, Nat.lt_of_lt_of_le hvb (Nat.le_trans G.b.size bb1.size)⟩
      replace G := G.below bb1
      replace LC := LC.below bb1
      have hlen : (shL s nm f rw F lp k 0).length ≤ 300 := by simp [shL, sgL_len, lsL]; omega
      have HX : Hid (shL s nm f rw F lp k 0 ++ [sgT nm f k] = shL s nm f rw F lp (k + 1) 0) := show shL s nm f rw F lp k 0 ++ [sgT nm f k] = shL s nm f rw F lp (k + 1) 0 by simp [shL, sgL_add, lsL]
      obtain ⟨X, hX⟩ : ∃ X, nm k = X := ⟨_, rfl⟩
      obtain ⟨Z, hZ⟩ : ∃ Z, f k 0 = Z := ⟨_, rfl⟩
      obtain ⟨Y, hY⟩ : ∃ Y, wd Z = Y := ⟨_, rfl⟩
      obtain ⟨Q, hQ⟩ : ∃ Q, vb k = Q := ⟨_, rfl⟩
      have HTx : Hid (sgT nm f k = { data := #[95] } ++ X ++ { data := #[32] } ++ Y) := show sgT nm f k = _ by rw [← hX, ← hY, ← hZ]; rfl
      rw [hZ, hY] at WR hwd
      rw [hZ] at hv200
      rw [hX] at d0 hnk hV1
      rw [hQ] at d1 hvg hV1
      rw [hX, hZ, hQ] at rd
      have ho1 : ¬ 9223372036854775807 < 1 + X.size := by omega
      have ho2 : ¬ 9223372036854775807 < 1 + X.size + 1 := by omega
      have ho3 : ¬ 9223372036854775807 < 1 + X.size + 1 + Y.size := by omega
      obtain ⟨l, hl⟩ : ∃ l, shL s nm f rw F lp k 0 = l := ⟨_, rfl⟩
      rw [hl] at G hlen HX ⊢
      clear hX hZ hY hQ hl hst hvl hvb D m1 x0 x1 x2 hn1 bb1 qc qcap
      go_wp2_with fail
      clear d0 d1 d2 hV1 hr1
      obtain ⟨u0, hu0, bb⟩ : ∃ uu, V1.drew = uu ∧ Below V1.heap.size V1 uu := ⟨_, rfl, (Below.refl _ _).drew⟩
      replace G := G.below bb
      replace rd := rd.below bb
      replace LC := LC.below bb
      clear bb
      refine wp_region_held_drew (S := RdI r1 Q X Z) (by kernel_rfl) (by rw [hu0]; exact rd) (fun hHeld => ?_)
      rw [hu0] at hHeld ⊢
      clear hu0
      change wpAnyH _ _ _ _ _ 14 #[false, false, false, false, false, false, false, false, false, false, false, false, false, false] _ _
      refine wpAnyH_take (i := 0) (v := .slice ((some ⟨gs, 0, none⟩)) l.length cs) rfl (by kernel_rfl) (by kernel_rfl) (by kernel_rfl) (fun _ _ _ h => h) (Or.inl ⟨by kernel_rfl, ?_⟩) hHeld ?_
      · intro w' hSw; go_simp
      try simp only [Act.put, List.setIfInBounds_toArray, List.set_cons_zero, List.set_cons_succ, List.getElem_toArray, List.getElem_cons_zero]
      refine wpAnyH_take (i := 1) (v := .pointer (some ⟨r1, 0, none⟩)) rfl (by kernel_rfl) (by kernel_rfl) (by kernel_rfl) (fun _ _ _ h => h) (Or.inl ⟨by kernel_rfl, ?_⟩) hHeld ?_
      · intro w' hSw; go_simp
      try simp only [Act.put, List.setIfInBounds_toArray, List.set_cons_zero, List.set_cons_succ, List.getElem_toArray, List.getElem_cons_succ, List.getElem_cons_zero]
      refine wpAnyH_take (i := 2) (v := .string X) rfl (by kernel_rfl) (by kernel_rfl) (by kernel_rfl) (fun _ _ _ h => h) (Or.inl ⟨by kernel_rfl, ?_⟩) hHeld ?_
      · intro w' hSw;  obtain ⟨⟨z0, z1, z2⟩, -⟩ := hSw; go_simp
      try simp only [Act.put, List.setIfInBounds_toArray, List.set_cons_zero, List.set_cons_succ, List.getElem_toArray, List.getElem_cons_succ, List.getElem_cons_zero]
      refine wpAnyH_take (i := 3) (v := .string ({ data := #[95] } ++ X)) rfl (by kernel_rfl) (by kernel_rfl) (by kernel_rfl) (fun _ _ _ h => h) (Or.inl ⟨by kernel_rfl, ?_⟩) hHeld ?_
      · intro w' hSw; go_simp
      try simp only [Act.put, List.setIfInBounds_toArray, List.set_cons_zero, List.set_cons_succ, List.getElem_toArray, List.getElem_cons_succ, List.getElem_cons_zero]
      refine wpAnyH_take (i := 4) (v := .string ({ data := #[95] } ++ X ++ { data := #[32] })) rfl (by kernel_rfl) (by kernel_rfl) (by kernel_rfl) (fun _ _ _ h => h) (Or.inl ⟨by kernel_rfl, ?_⟩) hHeld ?_
      · intro w' hSw; go_simp
      try simp only [Act.put, List.setIfInBounds_toArray, List.set_cons_zero, List.set_cons_succ, List.getElem_toArray, List.getElem_cons_succ, List.getElem_cons_zero]
      refine wpAnyH_take (i := 5) (v := .pointer (some ⟨r1, 1, none⟩)) rfl (by kernel_rfl) (by kernel_rfl) (by kernel_rfl) (fun _ _ _ h => h) (Or.inl ⟨by kernel_rfl, ?_⟩) hHeld ?_
      · intro w' hSw; go_simp
      try simp only [Act.put, List.setIfInBounds_toArray, List.set_cons_zero, List.set_cons_succ, List.getElem_toArray, List.getElem_cons_succ, List.getElem_cons_zero]
      refine wpAnyH_take (i := 6) (v := .slice ((some ⟨Q, 0, none⟩)) 1 1) rfl (by kernel_rfl) (by kernel_rfl) (by kernel_rfl) (fun _ _ _ h => h) (Or.inl ⟨by kernel_rfl, ?_⟩) hHeld ?_
      · intro w' hSw;  obtain ⟨⟨z0, z1, z2⟩, -⟩ := hSw; go_simp
      try simp only [Act.put, List.setIfInBounds_toArray, List.set_cons_zero, List.set_cons_succ, List.getElem_toArray, List.getElem_cons_succ, List.getElem_cons_zero]
      refine wpAnyH_take (i := 7) (v := .pointer (some ⟨Q, 0, none⟩)) rfl (by kernel_rfl) (by kernel_rfl) (by kernel_rfl) (fun _ _ _ h => h) (Or.inl ⟨by kernel_rfl, ?_⟩) hHeld ?_
      · intro w' hSw; go_simp
      try simp only [Act.put, List.setIfInBounds_toArray, List.set_cons_zero, List.set_cons_succ, List.getElem_toArray, List.getElem_cons_succ, List.getElem_cons_zero]
      refine wpAnyH_take (i := 8) (v := .string Z) rfl (by kernel_rfl) (by kernel_rfl) (by kernel_rfl) (fun _ _ _ h => h) (Or.inl ⟨by kernel_rfl, ?_⟩) hHeld ?_
      · intro w' hSw;  obtain ⟨⟨z0, z1, z2⟩, -⟩ := hSw; go_simp
      try simp only [Act.put, List.setIfInBounds_toArray, List.set_cons_zero, List.set_cons_succ, List.getElem_toArray, List.getElem_cons_succ, List.getElem_cons_zero]
      refine wpAnyH_ready (rs := [9]) (by kernel_rfl) (by simp) ?_
      refine AllReadyH.cons rfl (fun KK hK' => ?_) AllReadyH.nil
      go_simp
      refine (WR _).mono ?_
      rintro e u1 ⟨rfl, rfl⟩
      clear WR
      try go_wp2_with fail
      clear hHeld
      refine hK'.out _ _ (rd) (fun hHeld => ?_)
      clear hK' KK
      try simp only [List.setIfInBounds_toArray, List.set_cons_zero, List.set_cons_succ]
      refine wpAnyH_take (i := 10) (v := .string ({ data := #[95] } ++ X ++ { data := #[32] } ++ Y)) rfl (by kernel_rfl) (by kernel_rfl) (by kernel_rfl) (fun _ _ _ h => h) (Or.inl ⟨by kernel_rfl, ?_⟩) hHeld ?_
      · intro w' hSw; go_simp
      try simp only [Act.put, List.setIfInBounds_toArray, List.set_cons_zero, List.set_cons_succ, List.getElem_toArray, List.getElem_cons_succ, List.getElem_cons_zero]
      refine wpAnyH_ready (rs := [11]) (by kernel_rfl) (by simp) ?_
      refine AllReadyH.cons rfl (fun KK hK' => ?_) AllReadyH.nil
      go_simp
      obtain ⟨u2, hVu2, A9, bb, -⟩ := boxed u0 9 #[.string ({ data := #[95] } ++ X ++ { data := #[32] } ++ Y)]
      obtain ⟨g9, hg9⟩ : ∃ g, u0.heap.size = g := ⟨_, rfl⟩
      rw [hg9] at A9
      try rw [hVu2]
      try rw [hg9]
      replace rd := rd.below bb
      replace LC := LC.below bb
      replace G := G.below bb
      clear bb hVu2 hg9
      clear hHeld
      refine hK'.out _ _ (rd) (fun hHeld => ?_)
      clear hK' KK
      try simp only [List.setIfInBounds_toArray, List.set_cons_zero, List.set_cons_succ]
      refine wpAnyH_ready (rs := [12]) (by kernel_rfl) (by simp) ?_
      refine AllReadyH.cons rfl (fun KK hK' => ?_) AllReadyH.nil
      have hown := G.own
      have hkk := G.o3
      refine step_append_at _ (by rfl) _ _ _ (by rfl) w.heap.size 9 i0 _ 1 16 Try.underlying35 hj0 hz0 hz1 hz2 rfl (by omega) (.slice (some ⟨gs, 0, none⟩) l.length cs) l.length (l.map Value.string) (by rfl) hown ⟨g9, 0, none⟩ 1 1 [.string ({ data := #[95] } ++ X ++ { data := #[32] } ++ Y)] (by rfl) (by rfl) (news1s A9) (by simp [Value.oneCell']) (by unfold maxLen; omega) (by omega) hkk ?_
      intro v2 u3 hown2 hgrow2 hne2 hat2
      obtain ⟨gn, cn, rfl⟩ : ∃ g6 c6, v2 = .slice (some ⟨g6, 0, none⟩) (l.length + 1) c6 := by
        rcases hown2.2 with ⟨e1, -⟩ | ⟨g6, c6, cur6, e1, -⟩
        · exact absurd (hne2.1 e1).1 (fun h => by cases h)
        · exact ⟨g6, c6, e1⟩
      have G3 := G.grow (x := sgT nm f k) (by rw [HTx.out]; exact hown2) hgrow2 (fun h => by cases h)
      replace rd := rd.grown hgrow2 hrg hvg
      replace LC := LC.grown hgrow2 hgl
      clear hown hown2 hgrow2 hne2 hat2 A9 hkk G
      clear hHeld
      refine hK'.out _ _ (rd) (fun hHeld => ?_)
      clear hK' KK
      try simp only [List.setIfInBounds_toArray, List.set_cons_zero, List.set_cons_succ]
      refine wpAnyH_take (i := 13) (v := .slice ((some ⟨gn, 0, none⟩)) ((l.length + 1)) cn) rfl (by kernel_rfl) (by kernel_rfl) (by kernel_rfl) (fun _ _ _ h => h) (Or.inl ⟨by kernel_rfl, ?_⟩) hHeld ?_
      · intro w' hSw; go_simp
      try simp only [Act.put, List.setIfInBounds_toArray, List.set_cons_zero, List.set_cons_succ, List.getElem_toArray, List.getElem_cons_succ, List.getElem_cons_zero]
      refine wpAnyH_done (by kernel_rfl) ?_ _
      clear hHeld
      rw [HX.out] at G3
      clear rd
      go_wp2
      exact ⟨⟨k + 1, by omega, by go_num, G3, LC⟩, by simp [intOf]; omega⟩
    · have hlt' : ¬ (k : Int) < (F : Int) := by omega
      obtain rfl : k = F := by omega
      have HG : Hid (Gt w wr w.heap.size (.slice (some ⟨gs, 0, none⟩) (shL s nm f rw k lp k 0).length cs) (shL s nm f rw k lp k 0)) := G
      clear qc qcap G hlt
      obtain ⟨l, hl⟩ : ∃ l, shL s nm f rw k lp k 0 = l := ⟨_, rfl⟩
      have HL : Hid (shL s nm f rw k lp k 0 = l) := hl
      rw [hl] at HG ⊢
      clear hl
      go_wp2
      go_loopw [3, 46] (fun t u wr => ∃ j : Nat, j ≤ M ∧ u = .int .i64 (j : Int) ∧ Gt w wr w.heap.size t (shL s nm f rw k lp k j) ∧ LcP gl g N k M lp wr) (fun _ u _ => M - (intOf u).toNat)
      case atStart => exact ⟨0, Nat.zero_le _, rfl, by rw [HL.out]; exact HG.out, LC⟩
      case round =>
        clear LC HG HL hgl gsl gsB
        obtain ⟨j, hj, rfl, G, LC⟩ := hrel
        obtain ⟨gs, cs, rfl, qc, gsl, gsB, qcap⟩ := G.open
        have hgl := LC.apart (qc 0 (DATA ++ s) rfl)
        by_cases hlt : j < M
        · have hlt' : (j : Int) < (M : Int) := by omega
          have c0 := LC.2 j hlt
          obtain ⟨y1, y2, y3, y4, y5, y6⟩ := OK.out.rows HF.out hlt
          have LA := linesOf_any (C := N - atL k lp j) (HD.out.below G.b).it rfl y1 y2 hN2 y5 y4 (fun i hi => (y6 i hi).1) (fun i hi => (OK.out.2.2.1 (atL k lp j + i) (by omega)).1.1.2) (fun i r hi hr => (OK.out.2.2.1 (atL k lp j + i) (by omega)).2.2.2 r (by rw [(y6 i hi).1]; exact hr))
          have hlen : (shL s nm f rw k lp k j).length ≤ 1000000 := by
            have h1 := lsL_len (nm := nm) (f := f) (rw := rw) (F := k) (lp := lp) (j := j) (fun i hi => by have := OK.out.rows HF.out (show i < M by omega); exact ⟨this.2.2.1, this.2.2.2.1⟩)
            simp only [shL, List.length_append, List.length_cons, sgL_len]
            omega
          have hlen2 : (lpL nm f (atL k lp j) (lp j).toNat (rw (atL k lp j)).toNat).length ≤ 5000 := by rw [lpL_len]; omega
          have HX : Hid (shL s nm f rw k lp k j ++ lpL nm f (atL k lp j) (lp j).toNat (rw (atL k lp j)).toNat = shL s nm f rw k lp k (j + 1)) := show _ = _ by simp only [shL, lsL, List.append_assoc]
          rw [show lvV g N k lp j = .slice (some ⟨g, atL k lp j * 3, none⟩) (lp j).toNat (N - atL k lp j) from rfl] at c0
          obtain ⟨l, hl⟩ : ∃ l, shL s nm f rw k lp k j = l := ⟨_, rfl⟩
          obtain ⟨l2, hl2⟩ : ∃ l, lpL nm f (atL k lp j) (lp j).toNat (rw (atL k lp j)).toNat = l := ⟨_, rfl⟩
          rw [hl, hl2] at HX
          rw [hl] at G hlen ⊢
          rw [hl2] at LA hlen2
          clear hl hl2 y1 y2 y3 y4 y5 y6 qc qcap
          obtain ⟨o3, ho3⟩ : ∃ o, atL k lp j * 3 = o := ⟨_, rfl⟩
          obtain ⟨L3, hL3⟩ : ∃ L, (lp j).toNat = L := ⟨_, rfl⟩
          obtain ⟨N3, hN3⟩ : ∃ L, N - atL k lp j = L := ⟨_, rfl⟩
          rw [ho3, hL3, hN3] at c0 LA
          clear ho3 hL3 hN3
          go_wp2_with fail
          refine LA.mono ?_
          rintro e w4 ⟨v4, rfl, GL⟩
          obtain ⟨g9, c9, rfl, q9, g9l, g9B, -⟩ := GL.open
          have LC4 := LC.below GL.b
          have G4 := G.below GL.b
          have hkk := G4.o3
          clear LA c0 LC G
          go_wp2_with (at_builtin; refine wpList_append_own _ rfl _ _ _ rfl w.heap.size 9 i0 _ 1 16 Try.underlying35 hj0 hz0 hz1 hz2 rfl (by omega) (.slice (some ⟨gs, 0, none⟩) l.length cs) l.length (l.map Value.string) rfl G4.own ⟨g9, 0, none⟩ l2.length c9 (l2.map Value.string) rfl (by simp) (newsT q9) (cellsT l2) (by unfold maxLen; omega) (by omega) hkk ?_; intro v2 w16 hown2 hgrow2 hne2)
          have G5 := G4.more hown2 hgrow2 (fun h => by have := (hne2.1 h).1; cases this)
          have LC5 := LC4.grown hgrow2 hgl
          rw [HX.out] at G5
          exact ⟨⟨j + 1, by omega, by go_num, G5, LC5⟩, by simp [intOf]; omega⟩
        · have hlt' : ¬ (j : Int) < (M : Int) := by omega
          obtain rfl : j = M := by omega
          have hlen : (shL s nm f rw k lp k j).length ≤ 1000000 := by
            have h1 := lsL_len (nm := nm) (f := f) (rw := rw) (F := k) (lp := lp) (j := j) (fun i hi => by have := OK.out.rows HF.out hi; exact ⟨this.2.2.1, this.2.2.2.1⟩)
            simp only [shL, List.length_append, List.length_cons, sgL_len]
            omega
          have hJ2 := HJ.out
          have JA := join_any gs 0 cs (shL s nm f rw k lp k j) ⟨#[10]⟩ wr qc gsl (by omega) qcap (Nat.le_trans hJ2 (by decide))
          obtain ⟨y, hy⟩ : ∃ y : ByteArray, ⟨(Lib.join ((shL s nm f rw k lp k j).map (·.data.toList)) (⟨#[10]⟩ : ByteArray).data.toList).toArray⟩ = y := ⟨_, rfl⟩
          have hys : y.size ≤ 1000000000000 := by rw [← hy]; exact (by simpa [ByteArray.size] using hJ2)
          have ho9 : ¬ 9223372036854775807 < y.size + 1 := by omega
          have HW : Hid (shw s nm f rw k lp j = y ++ { data := #[10] }) := show shw s nm f rw k lp j = _ by rw [← hy]; rfl
          rw [hy] at JA
          obtain ⟨l, hl⟩ : ∃ l, shL s nm f rw k lp k j = l := ⟨_, rfl⟩
          rw [hl] at JA ⊢
          have B := G.b
          clear hl hy hJ2 qc qcap LC hgl hlen G HJ
          go_wp2_with fail
          refine JA.mono ?_
          rintro e w4 ⟨rfl, b4⟩
          clear JA
          have B4 := B.trans (b4.mono B.size)
          go_wp2
          go_ret
          exact ⟨by rw [HW.out]; rfl, B4⟩
end Go.Proofs.Ytdhfoekfejcceaa
