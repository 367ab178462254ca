/-
  The crossings that are corners, by the program: walked.
-/
import Derived.Test.YtealbihplfpgeaaHf
namespace Go.Proofs.Ytealbihplfpgeaa
open Go.RowKit

theorem Gat.keep {w0 w w' : World} {B : Nat} {t t' : TypeId} {e : Nat} {v : Value} {m : Nat} {l : List Int} (s : Gat w0 w B t e v m l) (hg : w.grownBy w' v.ownBlock) (ht : t' ≠ t) {q : Nat} {vs : Array Value} (h : At t' w q vs) : At t' w' q vs := by
  refine (hg.block q h.lt (fun e => ?_)).trans h
  rcases s.own.2 with ⟨h1, _⟩ | ⟨g, c, cur, h1, -, hh, -⟩
  · exact s.nn h1
  · rw [h1] at e
    have e2 : q = g := by simpa [Value.ownBlock] using e
    rw [e2] at h
    have := h.symm.trans hh
    simp at this
    exact ht this.2
theorem tells_of2 (P : Prop) : ∃ b : Bool, Tells b P := by
  by_cases h : P
  · exact ⟨true, fun _ => h, fun _ => rfl⟩
  · exact ⟨false, fun e => Bool.noConfusion e, fun e => absurd e h⟩
/-- Where the lines of i and k meet, number by number. -/
def kG (f : Nat → Int) (i k : Nat) : Int := gd3 (mX (f (i * 3 + 1)) (f (i * 3 + 2)) (f (k * 3 + 1)) (f (k * 3 + 2))) (mY (f (i * 3)) (f (i * 3 + 2)) (f (k * 3)) (f (k * 3 + 2))) (Lf f i k)
def cX (f : Nat → Int) (i k : Nat) : Int := (mX (f (i * 3 + 1)) (f (i * 3 + 2)) (f (k * 3 + 1)) (f (k * 3 + 2))).tdiv (kG f i k)
def cY (f : Nat → Int) (i k : Nat) : Int := (mY (f (i * 3)) (f (i * 3 + 2)) (f (k * 3)) (f (k * 3 + 2))).tdiv (kG f i k)
def cD (f : Nat → Int) (i k : Nat) : Int := (Lf f i k).tdiv (kG f i k)
theorem cn_at {f : Nat → Int} {i k : Nat} (hl : 0 < Lf f i k) : CN (f (i * 3)) (f (i * 3 + 1)) (f (i * 3 + 2)) (f (k * 3)) (f (k * 3 + 1)) (f (k * 3 + 2)) (kG f i k) (cX f i k) (cY f i k) (cD f i k) := by
  obtain ⟨kk, x, y, d, q⟩ := cn_of (a := f (i * 3)) (b := f (i * 3 + 1)) (g := f (i * 3 + 2)) (c := f (k * 3)) (c' := f (k * 3 + 1)) (h := f (k * 3 + 2)) hl
  have e : kk = kG f i k := q.kE
  rw [e] at q
  have e1 : cX f i k = x := tdiv_of q.xE q.pos
  have e2 : cY f i k = y := tdiv_of q.yE q.pos
  have e3 : cD f i k = d := tdiv_of q.dE q.pos
  rw [e1, e2, e3]
  exact q
theorem out_dt (f : Nat → Int) (i k m : Nat) : outT (f (m * 3)) (f (m * 3 + 1)) (f (m * 3 + 2)) (mX (f (i * 3 + 1)) (f (i * 3 + 2)) (f (k * 3 + 1)) (f (k * 3 + 2))) (mY (f (i * 3)) (f (i * 3 + 2)) (f (k * 3)) (f (k * 3 + 2))) (Lf f i k) = -Dt f i k m := by
  unfold outT mX mY Dt Lf cr; grind
theorem out_c {f : Nat → Int} {i k : Nat} (hl : 0 < Lf f i k) (m : Nat) : outT (f (m * 3)) (f (m * 3 + 1)) (f (m * 3 + 2)) (cX f i k) (cY f i k) (cD f i k) * kG f i k = -Dt f i k m := by
  have q := cn_at hl
  have h := out_dt f i k m
  have e3 : Lf f i k = kG f i k * cD f i k := q.dE
  rw [q.xE, q.yE] at h
  rw [← h]
  unfold outT
  conv => rhs; rw [e3]
  grind
section Shape
variable {n : Nat} {f : Nat → Int}
theorem in_vx {i k : Nat} (hl : 0 < Lf f i k) : InTo f (cX f i k) (cY f i k) (cD f i k) n ↔ Vx f n i k := by
  have kp := (cn_at hl).pos
  constructor
  · intro h
    refine ⟨hl, fun m hm => ?_⟩
    have h1 := h m hm
    have h2 := out_c hl m
    have := mul_zn h1 (Int.le_of_lt kp)
    omega
  · intro h m hm
    have h1 := h.2 m hm
    have h2 := out_c hl m
    exact np_left (b := kG f i k) (by omega) kp
theorem SOk.c_in (S : SOk n f) {i k : Nat} (hi : i < n) (hk : k < n) (hl : 0 < Lf f i k) : (-100000 ≤ cX f i k ∧ cX f i k ≤ 100000) ∧ (-100000 ≤ cY f i k ∧ cY f i k ≤ 100000) ∧ (-5000 ≤ cD f i k ∧ cD f i k ≤ 5000) := by
  have ri := Rt.in (S.right i hi)
  have rk := Rt.in (S.right k hk)
  exact (cn_at hl).in (m_in ri.2.1 (by omega) rk.2.1 (by omega)) (m_in' ri.1 (by omega) rk.1 (by omega)) (S.L_in hi hk).2
/-- The corners, a pair of facets each: of one row, of all rows up to i. -/
noncomputable def rowP (f : Nat → Int) (n i k : Nat) : List (Nat × Nat) := ((List.range k).filter (fun k => @decide (Vx f n i k) (Classical.propDecidable _))).map (fun k => (i, k))
noncomputable def allP (f : Nat → Int) (n : Nat) : Nat → List (Nat × Nat)
  | 0 => []
  | i + 1 => allP f n i ++ rowP f n i n
def tri (f : Nat → Int) (p : Nat × Nat) : List Int := [cX f p.1 p.2, cY f p.1 p.2, cD f p.1 p.2]
def tris (f : Nat → Int) (l : List (Nat × Nat)) : List Int := l.flatMap (tri f)
theorem tris_len (f : Nat → Int) (l : List (Nat × Nat)) : (tris f l).length = l.length * 3 := by
  induction l with
  | nil => rfl
  | cons p l ih => simp only [tris, List.flatMap_cons, List.length_append, List.length_cons] at ih ⊢; rw [ih]; simp [tri]; omega
theorem tris_app (f : Nat → Int) (l l' : List (Nat × Nat)) : tris f (l ++ l') = tris f l ++ tris f l' := by simp [tris]
theorem rowP_yes {i k : Nat} (h : Vx f n i k) : rowP f n i (k + 1) = rowP f n i k ++ [(i, k)] := by simp [rowP, List.range_succ, h]
theorem rowP_no {i k : Nat} (h : ¬ Vx f n i k) : rowP f n i (k + 1) = rowP f n i k := by simp [rowP, List.range_succ, h]
theorem rowP_le (i k : Nat) : (rowP f n i k).length ≤ k := by
  have := List.length_filter_le (fun k => @decide (Vx f n i k) (Classical.propDecidable _)) (List.range k)
  simpa [rowP] using this
theorem allP_le : ∀ i, (allP f n i).length ≤ i * n
  | 0 => Nat.zero_le _
  | i + 1 => by
    have h1 := allP_le i
    have h2 := rowP_le (f := f) (n := n) i n
    simp only [allP, List.length_append]
    rw [Nat.add_mul]
    omega
theorem mem_rowP {i k : Nat} {p : Nat × Nat} : p ∈ rowP f n i k ↔ p.1 = i ∧ p.2 < k ∧ Vx f n i p.2 := by
  obtain ⟨a, b⟩ := p
  simp only [rowP, List.mem_map, List.mem_filter, List.mem_range, decide_eq_true_eq, Prod.mk.injEq]
  constructor
  · rintro ⟨x, ⟨h1, h2⟩, rfl, rfl⟩; exact ⟨rfl, h1, h2⟩
  · rintro ⟨rfl, h1, h2⟩; exact ⟨b, ⟨h1, h2⟩, rfl, rfl⟩
theorem mem_allP {p : Nat × Nat} : ∀ {i : Nat}, p ∈ allP f n i ↔ p.1 < i ∧ p.2 < n ∧ Vx f n p.1 p.2
  | 0 => by simp [allP]
  | i + 1 => by
    simp only [allP, List.mem_append, mem_allP (i := i), mem_rowP]
    constructor
    · rintro (⟨h1, h2, h3⟩ | ⟨h1, h2, h3⟩)
      · exact ⟨by omega, h2, h3⟩
      · exact ⟨by omega, h2, by rw [h1]; exact h3⟩
    · rintro ⟨h1, h2, h3⟩
      by_cases e : p.1 = i
      · exact .inr ⟨e, h2, by rw [← e]; exact h3⟩
      · exact .inl ⟨by omega, h2, h3⟩
end Shape
set_option maxRecDepth 100000 in
set_option maxHeartbeats 3200000 in
theorem crossings_any {w : World} {g n c : Nat} {f : Nat → Int} (S : SOk n f) (h : Trips w g n f) :
    Calls Try.prog 36 #[.slice (some ⟨g, 0, none⟩) n c] w fun e w' => ∃ v, e = .returned v ∧ Gat w w' w.heap.size 33 3 v (allP f n n).length (tris f (allP f n n)) := by
  have hn := S.hi
  have hn' : (n : Int) ≤ 40 := by omega
  have hnn : ∀ i, i ≤ n → (allP f n i).length ≤ 1600 := fun i hi => by
    have h1 := allP_le (f := f) (n := n) i
    have h2 := Nat.mul_le_mul (Nat.le_trans hi hn) hn
    omega
  obtain ⟨i0, hi0, hz0, hz1, hz2⟩ := info_parts infoCorner
  obtain ⟨V, hV, A0, B, -⟩ := boxed w 33 #[]
  have R : Gat w V w.heap.size 33 3 (.slice (some ⟨w.heap.size, 0, none⟩) 0 0) 0 [] := Gat.start A0 B
  have hbs : ∀ w, (Instr.buildSlice 30 0 #[]).run Try.prog w = .ok (.slice (some ⟨w.heap.size, 0, none⟩) 0 0) (w.alloc (.cells #[] 33)) := fun _ => by kernel_rfl
  have lg := h.1
  go_enter Try.func36, Try.ntmps36
  go_wp2
  clear hV A0 B
  go_loopw [3, 12] (fun s t wr => ∃ (i m : Nat) (l : List (Nat × Nat)), i ≤ n ∧ allP f n i = l ∧ l.length = m ∧ t = .int .i64 (i : Int) ∧ Gat w wr w.heap.size 33 3 s m (tris f l)) (fun _ t _ => n - (intOf t).toNat)
  case atStart => exact ⟨0, 0, [], Nat.zero_le _, rfl, rfl, rfl, R⟩
  case round =>
    clear R
    obtain ⟨i, m, l, hi', hl, hm, rfl, R⟩ := hrel
    by_cases hi : i < n
    · have hilt : (i : Int) < (n : Int) := by omega
      have ri := Rt.in (S.right i hi)
      have L := h.below R.b
      have lg2 := L.1
      obtain ⟨c0, c1, c2⟩ := L.open i hi
      obtain ⟨V1, hV1, A1, b1, -⟩ := boxed wr 35 #[.int .i64 (f (i * 3)), .int .i64 (f (i * 3 + 1)), .int .i64 (f (i * 3 + 2))]
      obtain ⟨q, hq⟩ : ∃ q, wr.heap.size = q := ⟨_, rfl⟩
      rw [hq] at A1
      replace R := R.below b1
      have hl0 : allP f n i ++ rowP f n i 0 = l := by rw [hl]; simp [rowP]
      clear L b1
      go_wp2
      clear c0 c1 c2 lg2 hV1
      go_loopw [3, 18] (fun s t wr => ∃ (k m : Nat) (l : List (Nat × Nat)), k ≤ n ∧ allP f n i ++ rowP f n i k = l ∧ l.length = m ∧ t = .int .i64 (k : Int) ∧ At 35 wr q #[.int .i64 (f (i * 3)), .int .i64 (f (i * 3 + 1)), .int .i64 (f (i * 3 + 2))] ∧ Gat w wr w.heap.size 33 3 s m (tris f l)) (fun _ t _ => n - (intOf t).toNat)
      case atStart => exact ⟨0, m, l, Nat.zero_le _, hl0, hm, rfl, A1, R⟩
      case round =>
        clear R A1 hl0 hm hl l m
        obtain ⟨k, m, l, hk', hl, hm, rfl, A1, R⟩ := hrel
        have hmb : m ≤ 1640 := by
          have h1 := hnn i (by omega)
          have h2 := rowP_le (f := f) (n := n) i k
          rw [← hm, ← hl, List.length_append]
          omega
        by_cases hk : k < n
        · have hklt : (k : Int) < (n : Int) := by omega
          have rk := Rt.in (S.right k hk)
          have L := h.below R.b
          have lg2 := L.1
          obtain ⟨c0, c1, c2⟩ := L.open k hk
          obtain ⟨V2, hV2, A2, b2, -⟩ := boxed wr 35 #[.int .i64 (f (k * 3)), .int .i64 (f (k * 3 + 1)), .int .i64 (f (k * 3 + 2))]
          obtain ⟨q2, hq2⟩ : ∃ q, wr.heap.size = q := ⟨_, rfl⟩
          rw [hq2] at A2
          replace A1 := A1.below b2
          replace R := R.below b2
          obtain ⟨x0, x1, x2, -⟩ := A1.open3
          obtain ⟨y0, y1, y2, -⟩ := A2.open3
          clear L b2
          obtain ⟨C, hC⟩ : ∃ C, Lf f i k = C := ⟨_, rfl⟩
          go_wp2_with fail
          refine (turnTo_any _ _ _ _ _ _ _ ri.1 ri.2.1 rk.1 rk.2.1).mono ?_
          rintro e w2 ⟨rfl, b3⟩
          rw [show cr (f (i * 3)) (f (i * 3 + 1)) (f (k * 3)) (f (k * 3 + 1)) = C from hC]
          replace A1 := A1.below b3
          replace A2 := A2.below b3
          replace R := R.below b3
          clear c0 c1 c2 lg2 x0 x1 x2 y0 y1 y2 hV2 b3
          by_cases hc : C ≤ 0
          · have H := rowP_no (f := f) (n := n) (i := i) (k := k) (fun h => by have := h.1; omega)
            rw [← H] at hl
            clear H
            go_wp2
            exact ⟨⟨k + 1, m, l, by omega, hl, hm, by go_num, A1, R⟩, by simp [intOf]; omega⟩
          · have hcp : 0 < Lf f i k := by omega
            have q5 := cn_at hcp
            have cin := S.c_in hi hk hcp
            obtain ⟨x0, x1, x2, -⟩ := A1.open3
            obtain ⟨y0, y1, y2, -⟩ := A2.open3
            obtain ⟨bb, hbb⟩ := tells_of2 (Vx f n i k)
            have hbi : Tells bb (InTo f (cX f i k) (cY f i k) (cD f i k) n) := hbb.trans (in_vx hcp).symm
            have hA : bb = true → rowP f n i (k + 1) = rowP f n i k ++ [(i, k)] := fun e => rowP_yes (hbb.1 e)
            have hB : bb = false → rowP f n i (k + 1) = rowP f n i k := fun e => rowP_no (fun h => by rw [hbb.2 h] at e; cases e)
            have htri : tris f [(i, k)] = [cX f i k, cY f i k, cD f i k] := by simp [tris, tri]
            obtain ⟨X, hX⟩ : ∃ X, cX f i k = X := ⟨_, rfl⟩
            obtain ⟨Y, hY⟩ : ∃ X, cY f i k = X := ⟨_, rfl⟩
            obtain ⟨D, hD⟩ : ∃ X, cD f i k = X := ⟨_, rfl⟩
            rw [hX, hY, hD] at q5 hbi htri
            rw [hX, hY, hD] at cin
            have hcc : ¬ C ≤ 0 := hc
            clear hbb hcp hX hY hD hC
            go_wp2_with fail
            refine (crossing_any _ _ _ _ _ _ _ X Y D _ ri.1 ri.2.1 (by omega) rk.1 rk.2.1 (by omega) q5).mono ?_
            rintro e w3 ⟨rfl, b4⟩
            replace A1 := A1.below b4
            replace R := R.below b4
            clear b4 A2 q5 x0 x1 x2 y0 y1 y2
            obtain ⟨V4, hV4, A4, b5, -⟩ := boxed w3 33 #[.int .i64 X, .int .i64 Y, .int .i64 D]
            obtain ⟨q4, hq4⟩ : ∃ q, w3.heap.size = q := ⟨_, rfl⟩
            rw [hq4] at A4
            replace A1 := A1.below b5
            replace R := R.below b5
            obtain ⟨z0, z1, z2, -⟩ := A4.open3
            have L4 := h.below R.b
            have lq4 := A4.lt
            clear b5
            go_wp2_with fail
            refine (isIn_any L4 (by omega) S.right cin.1 cin.2.1 cin.2.2 bb hbi).mono ?_
            rintro e w4 ⟨rfl, b6⟩
            replace A1 := A1.below b6
            replace A4 := A4.below b6
            replace R := R.below b6
            clear hV4 z0 z1 z2 lq4 L4 b6 hbi
            cases bb
            · have H := hB rfl
              rw [← H] at hl
              clear hA hB H
              go_wp2
              exact ⟨⟨k + 1, m, l, by omega, hl, hm, by go_num, A1, R⟩, by simp [intOf]; omega⟩
            · have H := hA rfl
              clear hA hB
              obtain ⟨z0, z1, z2, -⟩ := A4.open3
              have lq4 := A4.lt
              obtain ⟨V9, hV9, A9, b10, -⟩ := boxed w4 33 #[.int .i64 X, .int .i64 Y, .int .i64 D]
              have R9 := R.below b10
              replace A1 := A1.below b10
              obtain ⟨g9, hg9⟩ : ∃ g, w4.heap.size = g := ⟨_, rfl⟩
              rw [hg9] at A9
              have hb2 : ∀ w, (Instr.buildSlice 30 1 #[(0, .agg #[.int .i64 X, .int .i64 Y, .int .i64 D])]).run Try.prog w = .ok (.slice (some ⟨w.heap.size, 0, none⟩) 1 1) (w.alloc (.cells #[.int .i64 X, .int .i64 Y, .int .i64 D] 33)) := fun _ => by kernel_rfl
              clear b10
              go_wp2_with (at_builtin; refine wpList_append_own _ rfl _ _ _ rfl w.heap.size 33 i0 _ 3 24 Try.underlying30 hi0 hz0 hz1 hz2 rfl (by omega) u3 m (lCells (tris f l)) rfl R9.own ⟨g9, 0, none⟩ 1 1 (lCells [X, Y, D]) rfl rfl (news3 A9) (lCells_one _) (by unfold maxLen; omega) (by omega) R9.o3 ?_; intro v2 w5 hown2 hgrow2 hne2)
              have R2 := R9.grow hown2 hgrow2 (fun h => R9.nn (hne2.1 h).1)
              have A1' := R9.keep hgrow2 (by decide) A1
              refine ⟨⟨k + 1, m + 1, l ++ [(i, k)], by omega, ?_, by simp [hm], by go_num, A1', ?_⟩, by simp [intOf]; omega⟩
              · rw [H, ← hl, List.append_assoc]
              · rw [tris_app, htri]; exact R2
        · have hklt : ¬ (k : Int) < (n : Int) := by omega
          obtain rfl : k = n := by omega
          go_wp2
          exact ⟨⟨i + 1, m, l, by omega, hl, hm, by go_num, R⟩, by simp [intOf]; omega⟩
    · have hilt : ¬ (i : Int) < (n : Int) := by omega
      obtain rfl : i = n := by omega
      go_wp2
      refine bodyPost_ret (v := u3) (by simp [results, Try.results36, go_sem]) rfl ⟨_, rfl, ?_⟩
      first
        | exact R
        | (rw [hl, hm]; exact R)
end Go.Proofs.Ytealbihplfpgeaa
