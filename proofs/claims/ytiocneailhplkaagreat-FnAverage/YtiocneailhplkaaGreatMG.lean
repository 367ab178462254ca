/-
  Operators held against each other by the program; the operator that does nothing; walked.
-/
import Derived.Test.YtiocneailhplkaaGreatOpJ
import Derived.ChangeKeysEq
import Derived.Test.YtiocneailhplkaaGreatME
import Derived.Test.YtiocneailhplkaaGreatMF
import Derived.Maps.AppendAt
namespace Go.Proofs.YtiocneailhplkaaGreat
open Go.RowKit

theorem items_eq (w : World) (xs ys : Array Value) (f g : Nat → Int) (d : Nat) : ∀ is : List Nat, (∀ i ∈ is, (Go.part 2 xs (i * 1)).run Tryz.prog w = .ok (.int .i64 (f i)) w) → (∀ i ∈ is, (Go.part 2 ys (i * 1)).run Tryz.prog w = .ok (.int .i64 (g i)) w) →
    (Op.eqItems (d + 1) 2 1 xs ys is).run Tryz.prog w = .ok (is.all fun i => f i == g i) w
  | [], _, _ => by simp [Op.eqItems]
  | i :: is, h1, h2 => by
    have ih := items_eq w xs ys f g d is (fun j hj => h1 j (List.mem_cons_of_mem _ hj)) (fun j hj => h2 j (List.mem_cons_of_mem _ hj))
    simp only [Op.eqItems, Sem.run_bind, h1 i List.mem_cons_self, h2 i List.mem_cons_self, Result.andThen_ok, run_equalIn_int w d 2 .i64 .i64 _ _ Tryz.underlying2]
    cases hb : (f i == g i)
    · simp [hb]
    · simp [hb, ih]
theorem pa9 (f : Nat → Int) (w : World) (i : Nat) (hi : i < 9) : (Go.part 2 (matA f) (i * 1)).run Tryz.prog w = .ok (.int .i64 (f i)) w := by
  rcases (by omega : i = 0 ∨ i = 1 ∨ i = 2 ∨ i = 3 ∨ i = 4 ∨ i = 5 ∨ i = 6 ∨ i = 7 ∨ i = 8) with rfl | rfl | rfl | rfl | rfl | rfl | rfl | rfl | rfl <;> kernel_rfl
theorem pa3 (f : Nat → Int) (w : World) (i : Nat) (hi : i < 3) : (Go.part 2 (vA f) (i * 1)).run Tryz.prog w = .ok (.int .i64 (f i)) w := by
  rcases (by omega : i = 0 ∨ i = 1 ∨ i = 2) with rfl | rfl | rfl <;> kernel_rfl
theorem partM (f h : Nat → Int) (w : World) : (Go.part 88 (opA f h) 0).run Tryz.prog w = .ok (.agg (matA f)) w := by kernel_rfl
theorem partV (f h : Nat → Int) (w : World) : (Go.part 66 (opA f h) 9).run Tryz.prog w = .ok (.agg (vA h)) w := by kernel_rfl
theorem cells2 : Tryz.prog.cellsOf 2 = 1 := by kernel_rfl
/-- Are the two operators the same? -/
def sameB (f h f' h' : Nat → Int) : Bool := ((List.range 9).all fun i => f i == f' i) && ((List.range 3).all fun i => h i == h' i)
theorem eq57 (f h f' h' : Nat → Int) (w : World) : (binOp .eql 90 (.agg (opA f h)) (.agg (opA f' h'))).run Tryz.prog w = .ok (.bool (sameB f h f' h')) w := by
  obtain ⟨i0, hi0, -⟩ := info_parts Tryz.info2
  have hS : Tryz.prog.underlying 90 = some (.struct (Tryz.prog.fieldsOf 90)) := by kernel_rfl
  have hp : Tryz.prog.stoodInHeld 90 = false := by kernel_rfl
  have u53 : Tryz.prog.underlying 88 = some (.array 9 2) := by kernel_rfl
  have u55 : Tryz.prog.underlying 66 = some (.array 3 2) := by kernel_rfl
  rw [run_eql_struct, show (10000 : Nat) = 9999 + 1 from rfl, run_equalIn_agg w 9999 90 _ _ hS hp]
  have e9 : (Op.equalIn 9999 88 (.agg (matA f)) (.agg (matA f'))).run Tryz.prog w = .ok ((List.range 9).all fun i => f i == f' i) w := by
    rw [show (9999 : Nat) = 9998 + 1 from rfl, run_equalIn_array w 9998 _ _ u53 hi0, cells2, show (9998 : Nat) = 9997 + 1 from rfl]
    exact items_eq w _ _ f f' _ _ (fun i hi => pa9 f w i (List.mem_range.1 hi)) (fun i hi => pa9 f' w i (List.mem_range.1 hi))
  have e3 : (Op.equalIn 9999 66 (.agg (vA h)) (.agg (vA h'))).run Tryz.prog w = .ok ((List.range 3).all fun i => h i == h' i) w := by
    rw [show (9999 : Nat) = 9998 + 1 from rfl, run_equalIn_array w 9998 _ _ u55 hi0, cells2, show (9998 : Nat) = 9997 + 1 from rfl]
    exact items_eq w _ _ h h' _ _ (fun i hi => pa3 h w i (List.mem_range.1 hi)) (fun i hi => pa3 h' w i (List.mem_range.1 hi))
  simp only [Program.fieldsOf, Tryz.underlying90]
  simp only [Op.eqFields]
  unfold sameB
  rw [if_pos (show "turn" ≠ "_" by decide), if_pos (show "shift" ≠ "_" by decide)]
  simp only [Sem.run_bind, partM, Result.andThen_ok, e9]
  cases hb : ((List.range 9).all fun i => f i == f' i)
  · simp
  · simp only [Bool.not_true, Bool.false_eq_true, if_false, Sem.run_bind, partV, Result.andThen_ok, e3, Bool.true_and]
    cases hc : ((List.range 3).all fun i => h i == h' i)
    · simp
    · simp
/-- The numbers of the operator that does nothing. -/
def oneF (i : Nat) : Int := if i = 0 ∨ i = 4 ∨ i = 8 then 1 else 0
theorem one12 : opA oneF (fun _ => 0) = #[.int .i64 1, .int .i64 0, .int .i64 0, .int .i64 0, .int .i64 1, .int .i64 0, .int .i64 0, .int .i64 0, .int .i64 1, .int .i64 0, .int .i64 0, .int .i64 0] := rfl
theorem nothing_any (w : World) : Calls Tryz.prog 82 #[] w fun e w' => e = .returned (.agg (opA oneF (fun _ => 0))) ∧ Below w.heap.size w w' := by
  obtain ⟨W1, hW1, a1, bW, -⟩ := boxed w 90 (opA (fun _ => 0) (fun _ => 0))
  rw [zero12] at hW1
  obtain ⟨⟨d0, d1, d2, d3, d4, d5, d6, d7, d8⟩, d9, d10, d11⟩ := a1.open12
  obtain ⟨y0, y1, y2, y3, y4, y5, y6, y7, y8, y9, y10, y11⟩ := a1.fro12
  have hF := put12_at a1 oneF (fun _ => 0)
  have hB := put12_below bW (Nat.le_refl w.heap.size) oneF (fun _ => 0)
  simp only [put12, opA, show oneF 0 = 1 from rfl, show oneF 1 = 0 from rfl, show oneF 2 = 0 from rfl, show oneF 3 = 0 from rfl, show oneF 4 = 1 from rfl, show oneF 5 = 0 from rfl, show oneF 6 = 0 from rfl, show oneF 7 = 0 from rfl, show oneF 8 = 1 from rfl] at hF hB
  have p0 := hF.cell 0 rfl
  have p1 := hF.cell 1 rfl
  have p2 := hF.cell 2 rfl
  have p3 := hF.cell 3 rfl
  have p4 := hF.cell 4 rfl
  have p5 := hF.cell 5 rfl
  have p6 := hF.cell 6 rfl
  have p7 := hF.cell 7 rfl
  have p8 := hF.cell 8 rfl
  have p9 := hF.cell 9 rfl
  have p10 := hF.cell 10 rfl
  have p11 := hF.cell 11 rfl
  go_enter Tryz.func82, Tryz.ntmps82
  go_wp2
  exact bodyPost_ret (v := .agg (opA oneF (fun _ => 0))) (by rw [one12]; simp [results, Tryz.results82, go_sem, p0, p1, p2, p3, p4, p5, p6, p7, p8, p9, p10, p11]) rfl ⟨rfl, hB⟩
end Go.Proofs.YtiocneailhplkaaGreat
/-
  Small facts on operators that a region tells, as the law on ways back takes them. No function of the program.
-/
namespace Go.Proofs.YtiocneailhplkaaGreat
open Go.RowKit

theorem OpAt.srcs {w : World} {lo hi : Nat} {a b : Option Addr} {n c k d n' k' : Nat} {f h : Nat → Int} (ho : OpAt w lo hi (.agg #[.slice a n' c, .slice b k' d]) n f k h) : Src w a n f ∧ Src w b k h := by
  obtain ⟨v1, v2, e, m1, m2, -⟩ := ho
  obtain ⟨a1, c1, rfl, s1⟩ := m1.src
  obtain ⟨a2, c2, rfl, s2⟩ := m2.src
  simp only [Value.agg.injEq, Array.mk.injEq, List.cons.injEq, Value.slice.injEq] at e
  obtain ⟨⟨rfl, -, -⟩, ⟨rfl, -, -⟩, -⟩ := e
  exact ⟨s1, s2⟩
/-- Behind a region that tells an operator and a bool into new variables. -/
def RegAt (V : World) (n : Nat) (f : Nat → Int) (k : Nat) (h : Nat → Int) (p : Bool) (s t : Value) (wc : World) : Prop :=
  ∃ q lo hi d1 e1 d2 e2, s = .pointer (some ⟨q, 0, none⟩) ∧ t = .bool p ∧ (V.heap.size ≤ q ∧ V.heap.size ≤ lo ∧ hi ≤ wc.heap.size ∧ (q < lo ∨ hi ≤ q)) ∧ At 57 wc q #[.slice d1 n e1, .slice d2 k e2] ∧ OpAt wc lo hi (.agg #[.slice d1 n e1, .slice d2 k e2]) n f k h ∧ Below V.heap.size V wc
theorem OpAt.store' {w : World} {lo hi q : Nat} {o : Value} {n k : Nat} {f h : Nat → Int} (ho : OpAt w lo hi o n f k h) (hq : q < lo ∨ hi ≤ q) (v1 v2 : Value) : OpAt ((w.setCell ⟨q, 0, none⟩ v1).setCell ⟨q, 1, none⟩ v2) lo hi o n f k h :=
  ho.turn (turn_set2 w q v1 v2) (by omega)
theorem regAt_mk {V u : World} {n k q lo hi c1 c2 : Nat} {f h : Nat → Int} {p : Bool} {d1 d2 : Option Addr} (hz : V.heap.size ≤ q ∧ V.heap.size ≤ lo ∧ hi ≤ u.heap.size ∧ (q < lo ∨ hi ≤ q)) (A : At 57 u q #[.slice none 0 0, .slice none 0 0]) (O : OpAt u lo hi (.agg #[.slice d1 n c1, .slice d2 k c2]) n f k h) (Z : Below V.heap.size V u) :
    RegAt V n f k h p (.pointer (some ⟨q, 0, none⟩)) (.bool p) ((u.setCell ⟨q, 0, none⟩ (.slice d1 n c1)).setCell ⟨q, 1, none⟩ (.slice d2 k c2)) :=
  ⟨q, lo, hi, d1, c1, d2, c2, rfl, rfl, ⟨hz.1, hz.2.1, by rw [size_set2]; exact hz.2.2.1, hz.2.2.2⟩, nil2_at A _ _, O.store' hz.2.2.2 _ _, (Z.setCell (show V.heap.size ≤ q from hz.1) _).setCell (show V.heap.size ≤ q from hz.1) _⟩
def One2 (q : Nat) (x0 x1 : Value) (w' : World) : Prop := w'.cell? ⟨q, 0, none⟩ = some x0 ∧ w'.cell? ⟨q, 1, none⟩ = some x1
theorem one2_mk {t : TypeId} {w' : World} {q : Nat} {x0 x1 : Value} (a : At t w' q #[x0, x1]) : One2 q x0 x1 w' := ⟨a.open2.1, a.open2.2.1⟩
end Go.Proofs.YtiocneailhplkaaGreat
/-
  Operators copied, and the one that does nothing, by the specification, walked.
-/
namespace Go.Proofs.YtiocneailhplkaaGreat
open Go.RowKit

theorem one9 : matA oneF = #[.int .i64 1, .int .i64 0, .int .i64 0, .int .i64 0, .int .i64 1, .int .i64 0, .int .i64 0, .int .i64 0, .int .i64 1] := rfl
theorem l3One_any (w : World) : Calls Tryz.prog 57 #[] w fun e w' => ∃ g1 g2, e = .returned (.agg #[.slice (some ⟨g1, 0, none⟩) 9 9, .slice (some ⟨g2, 0, none⟩) 3 3]) ∧ OpAt w' w.heap.size w'.heap.size (.agg #[.slice (some ⟨g1, 0, none⟩) 9 9, .slice (some ⟨g2, 0, none⟩) 3 3]) 9 oneF 3 (fun _ => 0) ∧ Below w.heap.size w w' := by
  obtain ⟨W1, hW1, a1, B, -⟩ := boxed w 57 #[.slice none 0 0, .slice none 0 0]
  obtain ⟨W2, hW2, a2, B2, -⟩ := boxed W1 2 (matA oneF)
  obtain ⟨W3, hW3, a3, B3, -⟩ := boxed W2 2 (vA fun _ => 0)
  rw [one9] at hW2
  rw [vzero] at hW3
  have s1 := a1.lt
  have s2 := a2.lt
  have s3 := a3.lt
  replace a1 := (a1.below B2).below B3
  replace a2 := a2.below B3
  replace B := (B.trans (B2.mono B.size)).trans (B3.mono (by omega))
  obtain ⟨c0, c1, f0, f1⟩ := a1.open2
  go_enter Tryz.func57, Tryz.ntmps57
  go_wp2
  have a8 := nil2_at a1 (.slice (some ⟨W1.heap.size, 0, none⟩) 9 9) (.slice (some ⟨W2.heap.size, 0, none⟩) 3 3)
  obtain ⟨p0, p1, -⟩ := a8.open2
  have q9 := ((made9 a2).setOther (q := w.heap.size) (i := 0) (by omega) (.slice (some ⟨W1.heap.size, 0, none⟩) 9 9)).setOther (q := w.heap.size) (i := 1) (by omega) (.slice (some ⟨W2.heap.size, 0, none⟩) 3 3)
  have q3 := ((made3 a3).setOther (q := w.heap.size) (i := 0) (by omega) (.slice (some ⟨W1.heap.size, 0, none⟩) 9 9)).setOther (q := w.heap.size) (i := 1) (by omega) (.slice (some ⟨W2.heap.size, 0, none⟩) 3 3)
  refine bodyPost_ret (v := .agg #[.slice (some ⟨W1.heap.size, 0, none⟩) 9 9, .slice (some ⟨W2.heap.size, 0, none⟩) 3 3]) (by simp [results, Tryz.results57, go_sem, p0, p1]) rfl ⟨_, _, rfl, ⟨_, _, rfl, arr_of_made q9 (Nat.le_refl _) (by omega), arr_of_made q3 (Nat.le_refl _) (by omega), ?_⟩, (B.setCell (Nat.le_refl w.heap.size) _).setCell (Nat.le_refl w.heap.size) _⟩
  intro x h1 h2
  simp only [Value.ownBlock, Option.some.injEq] at h1 h2
  omega
theorem step_append_at {P : Program} (w : World) {ops : Array Oper} {o : Oper} {a : Act} {K : Act → World → Prop} {Q : Exit → Act → World → Prop} {E : Prop} (hgd : o.guard = none) (s x : Operand) (t : TypeId)
    (ho : o.op = .call { callee := .builtin .append, args := #[s, x], argTypes := #[t, t] })
    (base : Nat) (e : TypeId) (i : TypeInfo) (z : Value) (size bytes : Nat) (ht : P.underlying t = some (.slice e)) (hi : P.info? e = some i) (hz : i.zero = some z)
    (hsize : i.size = size) (hby : i.bytes = bytes) (hzs : z.cells.size = size) (hsz : 0 < size)
    (v : Value) (n : Nat) (xs : List Value) (hs : a.eval s = v) (hown : w.ownsRow base e size v n xs)
    (ad : Addr) (m c : Nat) (news : List Value) (hx : a.eval x = .slice (some ad) m c) (hl : news.length = m * size) (hnews : ∀ j u, news[j]? = some u → w.cell? (ad.add j) = some u) (h1 : ∀ u ∈ news, u.oneCell' = true)
    (h63 : n + m ≤ maxLen) (hbytes : (n + m) * bytes ≤ 140737488355328) (hbase : base ≤ w.heap.size)
    (h : ∀ v' w', w'.ownsRow base e size v' (n + m) (xs ++ news) → w.grownBy w' v.ownBlock → (v' = .slice none 0 0 ↔ v = .slice none 0 0 ∧ m = 0) → (v'.ownBlock = v.ownBlock ∨ v'.ownBlock = some w.heap.size) → K (a.put o.dst v') w') :
    if Region.wanted o (yielded ops a.tmps) = true then Oper.wp P o a w K Q else E := by
  have hw : Region.wanted o (yielded ops a.tmps) = true := by simp [Region.wanted, hgd]
  rw [if_pos hw]
  obtain ⟨v', w', hr, h2, h3, h4, h5⟩ := run_append_own_at (P := P) w base t o.type e i z size bytes ht hi hz hsize hby hzs hsz v n xs hown ad m c news hl hnews h1 h63 hbytes hbase
  unfold Oper.wp execOp
  simp only [ho, resolve, invoke, builtin, Sem.run_bind, Sem.run_pure, Result.andThen_ok, List.map_toArray, List.map_cons, List.map_nil, hs, hx, hr]
  exact h v' w' h2 h3 h4 h5
theorem made_of' {w : World} {base n g c : Nat} {f : Nat → Int} (h : w.ownsRow base 2 1 (.slice (some ⟨g, 0, none⟩) n c) n (iCells f n)) : base ≤ g ∧ n ≤ c ∧ Made w g c n f := by
  obtain ⟨g', c', e, h1, h2, h3⟩ := made_of h (ne_nil _ _ _)
  simp only [Value.slice.injEq, Option.some.injEq, Addr.mk.injEq] at e
  obtain ⟨⟨rfl, -, -⟩, -, rfl⟩ := e
  exact ⟨h1, h2, h3⟩
theorem own_far {w w' : World} {B : Nat} {e : TypeId} {k : Nat} {v : Value} {n : Nat} {xs : List Value} {row : Option Nat} (h : w.ownsRow B e k v n xs) (hg : w.grownBy w' row) (hne : v.ownBlock ≠ row) : w'.ownsRow B e k v n xs := by
  refine ⟨h.1, h.2.imp id ?_⟩
  rintro ⟨g, cap, cur, rfl, h1, h2, h3⟩
  exact ⟨g, cap, cur, rfl, h1, (hg.block g (Array.getElem?_eq_some_iff.1 h2).1 (fun e => hne e)).trans h2, h3⟩
set_option maxRecDepth 100000 in
set_option maxHeartbeats 1600000 in
theorem l3Copy_any {w : World} {b1 o1 b2 o2 n k : Nat} {f h : Nat → Int} (c1 c2 : Nat) (i1 : Ints w b1 o1 n f) (i2 : Ints w b2 o2 k h) (l1 : b1 < w.heap.size) (l2 : b2 < w.heap.size) (hn : n ≤ 1048576) (hk : k ≤ 1048576) :
    Calls Tryz.prog 75 #[.agg #[.slice (some ⟨b1, o1, none⟩) n c1, .slice (some ⟨b2, o2, none⟩) k c2]] w fun e w' => ∃ o, e = .returned o ∧ OpAt w' w.heap.size w'.heap.size o n f k h ∧ Below w.heap.size w w' := by
  obtain ⟨W1, hW1, a1, B, -⟩ := boxed w 57 #[.slice (some ⟨b1, o1, none⟩) n c1, .slice (some ⟨b2, o2, none⟩) k c2]
  obtain ⟨W2, hW2, a2, B2, -⟩ := boxed W1 57 #[.slice none 0 0, .slice none 0 0]
  have s1 := a1.lt
  have s2 := a2.lt
  replace a1 := a1.below B2
  replace B := B.trans (B2.mono B.size)
  obtain ⟨i0, hi0, hz0, hz1, hz2⟩ := info_parts Tryz.info2
  go_enter Tryz.func75, Tryz.ntmps75
  go_wp2
  clear hW1 hW2 B2
  obtain ⟨u0, hu0, A1, A2, Z, z0⟩ : ∃ u0, W2.drew = u0 ∧ At 57 u0 w.heap.size #[.slice (some ⟨b1, o1, none⟩) n c1, .slice (some ⟨b2, o2, none⟩) k c2] ∧ At 57 u0 W1.heap.size #[.slice none 0 0, .slice none 0 0] ∧ Below w.heap.size w u0 ∧ W2.heap.size ≤ u0.heap.size := ⟨_, rfl, a1, a2, B.drew, Nat.le_refl _⟩
  refine wp_region_held_drew (S := One2 w.heap.size (.slice (some ⟨b1, o1, none⟩) n c1) (.slice (some ⟨b2, o2, none⟩) k c2)) (by kernel_rfl) (by rw [hu0]; exact one2_mk A1) (fun hHeld => ?_)
  rw [hu0] at hHeld ⊢
  clear hu0 a1 a2 B
  change wpAnyH _ _ _ _ _ 10 #[false, false, false, false, false, false, false, false, false, false] _ _
  refine wpAnyH_take (i := 1) (v := .pointer (some ⟨w.heap.size, 0, none⟩)) rfl (by kernel_rfl) (by kernel_rfl) (by kernel_rfl) (fun _ _ _ h => h) (Or.inl ⟨by kernel_rfl, ?_⟩) hHeld ?_
  · intro w' hSw; go_simp
  try simp only [Act.put, List.setIfInBounds_toArray, List.set_cons_zero, List.set_cons_succ]
  refine wpAnyH_take (i := 2) (v := .slice (some ⟨b1, o1, none⟩) n c1) rfl (by kernel_rfl) (by kernel_rfl) (by kernel_rfl) (fun _ _ _ h => h) (Or.inl ⟨by kernel_rfl, ?_⟩) hHeld ?_
  · intro w' hSw; obtain ⟨z0, z1⟩ := hSw; go_simp
  try simp only [Act.put, List.setIfInBounds_toArray, List.set_cons_zero, List.set_cons_succ]
  refine wpAnyH_take (i := 5) (v := .pointer (some ⟨w.heap.size, 1, none⟩)) rfl (by kernel_rfl) (by kernel_rfl) (by kernel_rfl) (fun _ _ _ h => h) (Or.inl ⟨by kernel_rfl, ?_⟩) hHeld ?_
  · intro w' hSw; go_simp
  try simp only [Act.put, List.setIfInBounds_toArray, List.set_cons_zero, List.set_cons_succ]
  refine wpAnyH_take (i := 6) (v := .slice (some ⟨b2, o2, none⟩) k c2) rfl (by kernel_rfl) (by kernel_rfl) (by kernel_rfl) (fun _ _ _ h => h) (Or.inl ⟨by kernel_rfl, ?_⟩) hHeld ?_
  · intro w' hSw; obtain ⟨z0, z1⟩ := hSw; go_simp
  try simp only [Act.put, List.setIfInBounds_toArray, List.set_cons_zero, List.set_cons_succ]
  refine wpAnyH_ready (rs := [0, 4]) (by kernel_rfl) (by simp) ?_
  refine AllReadyH.cons rfl (fun K hK => ?_) ?_
  · go_simp
    obtain ⟨u1, h6, P0, b', z6⟩ := boxed u0 2 #[]
    rw [h6]
    clear h6
    replace A1 := A1.below b'
    replace A2 := A2.below b'
    replace Z := Z.trans (b'.mono Z.size)
    obtain ⟨p0, hp0⟩ : ∃ q, u0.heap.size = q := ⟨_, rfl⟩
    have O0 : u1.ownsRow p0 2 1 (.slice (some ⟨p0, 0, none⟩) 0 0) 0 [] := ⟨rfl, .inr ⟨p0, 0, #[], rfl, Nat.le_refl _, hp0 ▸ P0, Nat.le_refl _, Nat.zero_le _, rfl, rfl⟩⟩
    have zz0 : p0 < u1.heap.size ∧ u0.heap.size ≤ p0 := by omega
    try rw [hp0]
    clear hp0 P0 b' z6
    clear hHeld
    refine hK.out _ _ (one2_mk A1) (fun hHeld => ?_)
    clear hK K
    try simp only [List.setIfInBounds_toArray, List.set_cons_zero]
    refine wpAnyH_ready (rs := [3, 4]) (by kernel_rfl) (by simp) ?_
    refine AllReadyH.cons rfl (fun K hK => ?_) ?_
    · refine step_append_at _ (by rfl) _ _ _ (by rfl) p0 2 i0 _ 1 8 Tryz.underlying24 hi0 hz0 hz1 hz2 rfl (by omega) (.slice (some ⟨p0, 0, none⟩) 0 0) 0 [] (by rfl) O0 ⟨b1, o1, none⟩ n c1 (iCells f n) (by rfl) (by rw [iCells_len]; omega) (ints_news (i1.below l1 Z)) (iCells_one _ _) (by unfold maxLen; omega) (by omega) (by omega) ?_
      intro v3 u2 hown hgrow hne hat
      have Q3 : u2.ownsRow p0 2 1 v3 n (iCells f n) := by simpa using hown
      have hv3 : v3 ≠ .slice none 0 0 := fun h => ne_nil _ _ _ (hne.1 h).1
      have Bg : Below W2.heap.size u1 u2 := Below.grown (Below.refl _ _) hgrow (by omega) (fun x hx => by have := ownBlock_ge O0 hx; omega)
      replace A1 := A1.belowN Bg (by omega)
      replace A2 := A2.belowN Bg (by omega)
      replace Z := Z.trans (Bg.mono (by omega))
      obtain ⟨g3, e3, rfl, hg3, hc3, hm3⟩ := made_of Q3 hv3
      have hl3 := hm3.lt
      have hw3 : g3 = p0 ∨ g3 = u1.heap.size := by simpa only [Value.ownBlock, Option.some.injEq] using hat
      clear hat hm3 hv3
      have zz1 := hgrow.size
      clear hown hgrow hne Bg
      clear hHeld
      refine hK.out _ _ (one2_mk A1) (fun hHeld => ?_)
      clear hK K
      try simp only [Act.put, List.setIfInBounds_toArray, List.set_cons_zero, List.set_cons_succ]
      refine wpAnyH_ready (rs := [4]) (by kernel_rfl) (by simp) ?_
      refine AllReadyH.cons rfl (fun K hK => ?_) AllReadyH.nil
      go_simp
      obtain ⟨u3, h6, P4, b', z6⟩ := boxed u2 2 #[]
      rw [h6]
      clear h6
      replace A1 := A1.below b'
      replace A2 := A2.below b'
      replace Z := Z.trans (b'.mono Z.size)
      replace Q3 := own_below Q3 b'
      obtain ⟨p4, hp4⟩ : ∃ q, u2.heap.size = q := ⟨_, rfl⟩
      have O4 : u3.ownsRow p4 2 1 (.slice (some ⟨p4, 0, none⟩) 0 0) 0 [] := ⟨rfl, .inr ⟨p4, 0, #[], rfl, Nat.le_refl _, hp4 ▸ P4, Nat.le_refl _, Nat.zero_le _, rfl, rfl⟩⟩
      have zz2 : p4 < u3.heap.size ∧ u2.heap.size ≤ p4 := by omega
      try rw [hp4]
      clear hp4 P4 b' z6
      clear hHeld
      refine hK.out _ _ (one2_mk A1) (fun hHeld => ?_)
      clear hK K
      try simp only [List.setIfInBounds_toArray, List.set_cons_zero, List.set_cons_succ]
      refine wpAnyH_ready (rs := [7]) (by kernel_rfl) (by simp) ?_
      refine AllReadyH.cons rfl (fun K hK => ?_) AllReadyH.nil
      refine step_append_at _ (by rfl) _ _ _ (by rfl) p4 2 i0 _ 1 8 Tryz.underlying24 hi0 hz0 hz1 hz2 rfl (by omega) (.slice (some ⟨p4, 0, none⟩) 0 0) 0 [] (by rfl) O4 ⟨b2, o2, none⟩ k c2 (iCells h k) (by rfl) (by rw [iCells_len]; omega) (ints_news (i2.below l2 Z)) (iCells_one _ _) (by unfold maxLen; omega) (by omega) (by omega) ?_
      intro v7 u4 hown hgrow hne hat
      have Q7 : u4.ownsRow p4 2 1 v7 k (iCells h k) := by simpa using hown
      have hv7 : v7 ≠ .slice none 0 0 := fun h => ne_nil _ _ _ (hne.1 h).1
      have Bg : Below W2.heap.size u3 u4 := Below.grown (Below.refl _ _) hgrow (by omega) (fun x hx => by have := ownBlock_ge O4 hx; omega)
      replace A1 := A1.belowN Bg (by omega)
      replace A2 := A2.belowN Bg (by omega)
      replace Z := Z.trans (Bg.mono (by omega))
      replace Q3 := own_far Q3 hgrow (by simp only [Value.ownBlock, ne_eq, Option.some.injEq]; omega)
      obtain ⟨g7, e7, rfl, hg7, hc7, hm7⟩ := made_of Q7 hv7
      have hl7 := hm7.lt
      have hw7 : g7 = p4 ∨ g7 = u3.heap.size := by simpa only [Value.ownBlock, Option.some.injEq] using hat
      clear hat hm7 hv7
      have zz3 := hgrow.size
      clear hown hgrow hne Bg
      clear hHeld
      refine hK.out _ _ (one2_mk A1) (fun hHeld => ?_)
      clear hK K
      try simp only [Act.put, List.setIfInBounds_toArray, List.set_cons_zero, List.set_cons_succ]
      refine wpAnyH_take (i := 8) (v := .agg #[.slice (some ⟨g3, 0, none⟩) n e3, .slice (some ⟨g7, 0, none⟩) k e7]) rfl (by kernel_rfl) (by kernel_rfl) (by kernel_rfl) (fun _ _ _ h => h) (Or.inl ⟨by kernel_rfl, ?_⟩) hHeld ?_
      · intro w' hSw; go_simp
      try simp only [Act.put, List.setIfInBounds_toArray, List.set_cons_zero, List.set_cons_succ]
      refine wpAnyH_ready (rs := [9]) (by kernel_rfl) (by simp) ?_
      refine AllReadyH.cons rfl (fun K hK => ?_) AllReadyH.nil
      obtain ⟨x0, x1, y0, y1⟩ := A2.open2
      go_simp
      clear x0 x1 y0 y1 hHeld
      have A1' := (A1.setOther (p := W1.heap.size) (i := 0) (by omega) (.slice (some ⟨g3, 0, none⟩) n e3)).setOther (p := W1.heap.size) (i := 1) (by omega) (.slice (some ⟨g7, 0, none⟩) k e7)
      refine hK.out _ _ (one2_mk A1') (fun hHeld => ?_)
      clear hK K hHeld
      try simp only [List.setIfInBounds_toArray, List.set_cons_zero, List.set_cons_succ]
      refine wpAnyH_done (by kernel_rfl) ?_ _
      obtain ⟨j3, k3, m3⟩ := made_of' Q3
      obtain ⟨j7, k7, m7⟩ := made_of' Q7
      have q3 := (m3.setOther (q := W1.heap.size) (i := 0) (by omega) (.slice (some ⟨g3, 0, none⟩) n e3)).setOther (q := W1.heap.size) (i := 1) (by omega) (.slice (some ⟨g7, 0, none⟩) k e7)
      have q7 := (m7.setOther (q := W1.heap.size) (i := 0) (by omega) (.slice (some ⟨g3, 0, none⟩) n e3)).setOther (q := W1.heap.size) (i := 1) (by omega) (.slice (some ⟨g7, 0, none⟩) k e7)
      have a8 := nil2_at A2 (.slice (some ⟨g3, 0, none⟩) n e3) (.slice (some ⟨g7, 0, none⟩) k e7)
      obtain ⟨r0, r1, -⟩ := a8.open2
      go_wp2
      refine bodyPost_ret (v := .agg #[.slice (some ⟨g3, 0, none⟩) n e3, .slice (some ⟨g7, 0, none⟩) k e7]) (by simp [results, Tryz.results75, go_sem, r0, r1]) rfl ⟨_, rfl, ⟨_, _, rfl, arr_of_made q3 k3 (by omega) (own_room Q3), arr_of_made q7 k7 (by omega) (own_room Q7), ?_⟩, (Z.setCell (show w.heap.size ≤ W1.heap.size by omega) _).setCell (show w.heap.size ≤ W1.heap.size by omega) _⟩
      intro x h1 h2
      simp only [Value.ownBlock, Option.some.injEq] at h1 h2
      omega
    refine AllReadyH.cons rfl (fun K hK => ?_) AllReadyH.nil
    go_simp
    obtain ⟨u2, h6, P4, b', z6⟩ := boxed u1 2 #[]
    rw [h6]
    clear h6
    replace A1 := A1.below b'
    replace A2 := A2.below b'
    replace Z := Z.trans (b'.mono Z.size)
    replace O0 := own_below O0 b'
    obtain ⟨p4, hp4⟩ : ∃ q, u1.heap.size = q := ⟨_, rfl⟩
    have O4 : u2.ownsRow p4 2 1 (.slice (some ⟨p4, 0, none⟩) 0 0) 0 [] := ⟨rfl, .inr ⟨p4, 0, #[], rfl, Nat.le_refl _, hp4 ▸ P4, Nat.le_refl _, Nat.zero_le _, rfl, rfl⟩⟩
    have zz1 : p4 < u2.heap.size ∧ u1.heap.size ≤ p4 := by omega
    try rw [hp4]
    clear hp4 P4 b' z6
    clear hHeld
    refine hK.out _ _ (one2_mk A1) (fun hHeld => ?_)
    clear hK K
    try simp only [List.setIfInBounds_toArray, List.set_cons_zero, List.set_cons_succ]
    refine wpAnyH_ready (rs := [3]) (by kernel_rfl) (by simp) ?_
    refine AllReadyH.cons rfl (fun K hK => ?_) AllReadyH.nil
    refine step_append_at _ (by rfl) _ _ _ (by rfl) p0 2 i0 _ 1 8 Tryz.underlying24 hi0 hz0 hz1 hz2 rfl (by omega) (.slice (some ⟨p0, 0, none⟩) 0 0) 0 [] (by rfl) O0 ⟨b1, o1, none⟩ n c1 (iCells f n) (by rfl) (by rw [iCells_len]; omega) (ints_news (i1.below l1 Z)) (iCells_one _ _) (by unfold maxLen; omega) (by omega) (by omega) ?_
    intro v3 u3 hown hgrow hne hat
    have Q3 : u3.ownsRow p0 2 1 v3 n (iCells f n) := by simpa using hown
    have hv3 : v3 ≠ .slice none 0 0 := fun h => ne_nil _ _ _ (hne.1 h).1
    have Bg : Below W2.heap.size u2 u3 := Below.grown (Below.refl _ _) hgrow (by omega) (fun x hx => by have := ownBlock_ge O0 hx; omega)
    replace A1 := A1.belowN Bg (by omega)
    replace A2 := A2.belowN Bg (by omega)
    replace Z := Z.trans (Bg.mono (by omega))
    replace O4 := own_far O4 hgrow (by simp only [Value.ownBlock, ne_eq, Option.some.injEq]; omega)
    obtain ⟨g3, e3, rfl, hg3, hc3, hm3⟩ := made_of Q3 hv3
    have hl3 := hm3.lt
    have hw3 : g3 = p0 ∨ g3 = u2.heap.size := by simpa only [Value.ownBlock, Option.some.injEq] using hat
    clear hat hm3 hv3
    have zz2 := hgrow.size
    clear hown hgrow hne Bg
    clear hHeld
    refine hK.out _ _ (one2_mk A1) (fun hHeld => ?_)
    clear hK K
    try simp only [Act.put, List.setIfInBounds_toArray, List.set_cons_zero, List.set_cons_succ]
    refine wpAnyH_ready (rs := [7]) (by kernel_rfl) (by simp) ?_
    refine AllReadyH.cons rfl (fun K hK => ?_) AllReadyH.nil
    refine step_append_at _ (by rfl) _ _ _ (by rfl) p4 2 i0 _ 1 8 Tryz.underlying24 hi0 hz0 hz1 hz2 rfl (by omega) (.slice (some ⟨p4, 0, none⟩) 0 0) 0 [] (by rfl) O4 ⟨b2, o2, none⟩ k c2 (iCells h k) (by rfl) (by rw [iCells_len]; omega) (ints_news (i2.below l2 Z)) (iCells_one _ _) (by unfold maxLen; omega) (by omega) (by omega) ?_
    intro v7 u4 hown hgrow hne hat
    have Q7 : u4.ownsRow p4 2 1 v7 k (iCells h k) := by simpa using hown
    have hv7 : v7 ≠ .slice none 0 0 := fun h => ne_nil _ _ _ (hne.1 h).1
    have Bg : Below W2.heap.size u3 u4 := Below.grown (Below.refl _ _) hgrow (by omega) (fun x hx => by have := ownBlock_ge O4 hx; omega)
    replace A1 := A1.belowN Bg (by omega)
    replace A2 := A2.belowN Bg (by omega)
    replace Z := Z.trans (Bg.mono (by omega))
    replace Q3 := own_far Q3 hgrow (by simp only [Value.ownBlock, ne_eq, Option.some.injEq]; omega)
    obtain ⟨g7, e7, rfl, hg7, hc7, hm7⟩ := made_of Q7 hv7
    have hl7 := hm7.lt
    have hw7 : g7 = p4 ∨ g7 = u3.heap.size := by simpa only [Value.ownBlock, Option.some.injEq] using hat
    clear hat hm7 hv7
    have zz3 := hgrow.size
    clear hown hgrow hne Bg
    clear hHeld
    refine hK.out _ _ (one2_mk A1) (fun hHeld => ?_)
    clear hK K
    try simp only [Act.put, List.setIfInBounds_toArray, List.set_cons_zero, List.set_cons_succ]
    refine wpAnyH_take (i := 8) (v := .agg #[.slice (some ⟨g3, 0, none⟩) n e3, .slice (some ⟨g7, 0, none⟩) k e7]) rfl (by kernel_rfl) (by kernel_rfl) (by kernel_rfl) (fun _ _ _ h => h) (Or.inl ⟨by kernel_rfl, ?_⟩) hHeld ?_
    · intro w' hSw; go_simp
    try simp only [Act.put, List.setIfInBounds_toArray, List.set_cons_zero, List.set_cons_succ]
    refine wpAnyH_ready (rs := [9]) (by kernel_rfl) (by simp) ?_
    refine AllReadyH.cons rfl (fun K hK => ?_) AllReadyH.nil
    obtain ⟨x0, x1, y0, y1⟩ := A2.open2
    go_simp
    clear x0 x1 y0 y1 hHeld
    have A1' := (A1.setOther (p := W1.heap.size) (i := 0) (by omega) (.slice (some ⟨g3, 0, none⟩) n e3)).setOther (p := W1.heap.size) (i := 1) (by omega) (.slice (some ⟨g7, 0, none⟩) k e7)
    refine hK.out _ _ (one2_mk A1') (fun hHeld => ?_)
    clear hK K hHeld
    try simp only [List.setIfInBounds_toArray, List.set_cons_zero, List.set_cons_succ]
    refine wpAnyH_done (by kernel_rfl) ?_ _
    obtain ⟨j3, k3, m3⟩ := made_of' Q3
    obtain ⟨j7, k7, m7⟩ := made_of' Q7
    have q3 := (m3.setOther (q := W1.heap.size) (i := 0) (by omega) (.slice (some ⟨g3, 0, none⟩) n e3)).setOther (q := W1.heap.size) (i := 1) (by omega) (.slice (some ⟨g7, 0, none⟩) k e7)
    have q7 := (m7.setOther (q := W1.heap.size) (i := 0) (by omega) (.slice (some ⟨g3, 0, none⟩) n e3)).setOther (q := W1.heap.size) (i := 1) (by omega) (.slice (some ⟨g7, 0, none⟩) k e7)
    have a8 := nil2_at A2 (.slice (some ⟨g3, 0, none⟩) n e3) (.slice (some ⟨g7, 0, none⟩) k e7)
    obtain ⟨r0, r1, -⟩ := a8.open2
    go_wp2
    refine bodyPost_ret (v := .agg #[.slice (some ⟨g3, 0, none⟩) n e3, .slice (some ⟨g7, 0, none⟩) k e7]) (by simp [results, Tryz.results75, go_sem, r0, r1]) rfl ⟨_, rfl, ⟨_, _, rfl, arr_of_made q3 k3 (by omega) (own_room Q3), arr_of_made q7 k7 (by omega) (own_room Q7), ?_⟩, (Z.setCell (show w.heap.size ≤ W1.heap.size by omega) _).setCell (show w.heap.size ≤ W1.heap.size by omega) _⟩
    intro x h1 h2
    simp only [Value.ownBlock, Option.some.injEq] at h1 h2
    omega
  refine AllReadyH.cons rfl (fun K hK => ?_) AllReadyH.nil
  go_simp
  obtain ⟨u1, h6, P4, b', z6⟩ := boxed u0 2 #[]
  rw [h6]
  clear h6
  replace A1 := A1.below b'
  replace A2 := A2.below b'
  replace Z := Z.trans (b'.mono Z.size)
  obtain ⟨p4, hp4⟩ : ∃ q, u0.heap.size = q := ⟨_, rfl⟩
  have O4 : u1.ownsRow p4 2 1 (.slice (some ⟨p4, 0, none⟩) 0 0) 0 [] := ⟨rfl, .inr ⟨p4, 0, #[], rfl, Nat.le_refl _, hp4 ▸ P4, Nat.le_refl _, Nat.zero_le _, rfl, rfl⟩⟩
  have zz0 : p4 < u1.heap.size ∧ u0.heap.size ≤ p4 := by omega
  try rw [hp4]
  clear hp4 P4 b' z6
  clear hHeld
  refine hK.out _ _ (one2_mk A1) (fun hHeld => ?_)
  clear hK K
  try simp only [List.setIfInBounds_toArray, List.set_cons_zero, List.set_cons_succ]
  refine wpAnyH_ready (rs := [0]) (by kernel_rfl) (by simp) ?_
  refine AllReadyH.cons rfl (fun K hK => ?_) AllReadyH.nil
  go_simp
  obtain ⟨u2, h6, P0, b', z6⟩ := boxed u1 2 #[]
  rw [h6]
  clear h6
  replace A1 := A1.below b'
  replace A2 := A2.below b'
  replace Z := Z.trans (b'.mono Z.size)
  replace O4 := own_below O4 b'
  obtain ⟨p0, hp0⟩ : ∃ q, u1.heap.size = q := ⟨_, rfl⟩
  have O0 : u2.ownsRow p0 2 1 (.slice (some ⟨p0, 0, none⟩) 0 0) 0 [] := ⟨rfl, .inr ⟨p0, 0, #[], rfl, Nat.le_refl _, hp0 ▸ P0, Nat.le_refl _, Nat.zero_le _, rfl, rfl⟩⟩
  have zz1 : p0 < u2.heap.size ∧ u1.heap.size ≤ p0 := by omega
  try rw [hp0]
  clear hp0 P0 b' z6
  clear hHeld
  refine hK.out _ _ (one2_mk A1) (fun hHeld => ?_)
  clear hK K
  try simp only [List.setIfInBounds_toArray, List.set_cons_zero]
  refine wpAnyH_ready (rs := [3]) (by kernel_rfl) (by simp) ?_
  refine AllReadyH.cons rfl (fun K hK => ?_) AllReadyH.nil
  refine step_append_at _ (by rfl) _ _ _ (by rfl) p0 2 i0 _ 1 8 Tryz.underlying24 hi0 hz0 hz1 hz2 rfl (by omega) (.slice (some ⟨p0, 0, none⟩) 0 0) 0 [] (by rfl) O0 ⟨b1, o1, none⟩ n c1 (iCells f n) (by rfl) (by rw [iCells_len]; omega) (ints_news (i1.below l1 Z)) (iCells_one _ _) (by unfold maxLen; omega) (by omega) (by omega) ?_
  intro v3 u3 hown hgrow hne hat
  have Q3 : u3.ownsRow p0 2 1 v3 n (iCells f n) := by simpa using hown
  have hv3 : v3 ≠ .slice none 0 0 := fun h => ne_nil _ _ _ (hne.1 h).1
  have Bg : Below W2.heap.size u2 u3 := Below.grown (Below.refl _ _) hgrow (by omega) (fun x hx => by have := ownBlock_ge O0 hx; omega)
  replace A1 := A1.belowN Bg (by omega)
  replace A2 := A2.belowN Bg (by omega)
  replace Z := Z.trans (Bg.mono (by omega))
  replace O4 := own_far O4 hgrow (by simp only [Value.ownBlock, ne_eq, Option.some.injEq]; omega)
  obtain ⟨g3, e3, rfl, hg3, hc3, hm3⟩ := made_of Q3 hv3
  have hl3 := hm3.lt
  have hw3 : g3 = p0 ∨ g3 = u2.heap.size := by simpa only [Value.ownBlock, Option.some.injEq] using hat
  clear hat hm3 hv3
  have zz2 := hgrow.size
  clear hown hgrow hne Bg
  clear hHeld
  refine hK.out _ _ (one2_mk A1) (fun hHeld => ?_)
  clear hK K
  try simp only [Act.put, List.setIfInBounds_toArray, List.set_cons_zero, List.set_cons_succ]
  refine wpAnyH_ready (rs := [7]) (by kernel_rfl) (by simp) ?_
  refine AllReadyH.cons rfl (fun K hK => ?_) AllReadyH.nil
  refine step_append_at _ (by rfl) _ _ _ (by rfl) p4 2 i0 _ 1 8 Tryz.underlying24 hi0 hz0 hz1 hz2 rfl (by omega) (.slice (some ⟨p4, 0, none⟩) 0 0) 0 [] (by rfl) O4 ⟨b2, o2, none⟩ k c2 (iCells h k) (by rfl) (by rw [iCells_len]; omega) (ints_news (i2.below l2 Z)) (iCells_one _ _) (by unfold maxLen; omega) (by omega) (by omega) ?_
  intro v7 u4 hown hgrow hne hat
  have Q7 : u4.ownsRow p4 2 1 v7 k (iCells h k) := by simpa using hown
  have hv7 : v7 ≠ .slice none 0 0 := fun h => ne_nil _ _ _ (hne.1 h).1
  have Bg : Below W2.heap.size u3 u4 := Below.grown (Below.refl _ _) hgrow (by omega) (fun x hx => by have := ownBlock_ge O4 hx; omega)
  replace A1 := A1.belowN Bg (by omega)
  replace A2 := A2.belowN Bg (by omega)
  replace Z := Z.trans (Bg.mono (by omega))
  replace Q3 := own_far Q3 hgrow (by simp only [Value.ownBlock, ne_eq, Option.some.injEq]; omega)
  obtain ⟨g7, e7, rfl, hg7, hc7, hm7⟩ := made_of Q7 hv7
  have hl7 := hm7.lt
  have hw7 : g7 = p4 ∨ g7 = u3.heap.size := by simpa only [Value.ownBlock, Option.some.injEq] using hat
  clear hat hm7 hv7
  have zz3 := hgrow.size
  clear hown hgrow hne Bg
  clear hHeld
  refine hK.out _ _ (one2_mk A1) (fun hHeld => ?_)
  clear hK K
  try simp only [Act.put, List.setIfInBounds_toArray, List.set_cons_zero, List.set_cons_succ]
  refine wpAnyH_take (i := 8) (v := .agg #[.slice (some ⟨g3, 0, none⟩) n e3, .slice (some ⟨g7, 0, none⟩) k e7]) rfl (by kernel_rfl) (by kernel_rfl) (by kernel_rfl) (fun _ _ _ h => h) (Or.inl ⟨by kernel_rfl, ?_⟩) hHeld ?_
  · intro w' hSw; go_simp
  try simp only [Act.put, List.setIfInBounds_toArray, List.set_cons_zero, List.set_cons_succ]
  refine wpAnyH_ready (rs := [9]) (by kernel_rfl) (by simp) ?_
  refine AllReadyH.cons rfl (fun K hK => ?_) AllReadyH.nil
  obtain ⟨x0, x1, y0, y1⟩ := A2.open2
  go_simp
  clear x0 x1 y0 y1 hHeld
  have A1' := (A1.setOther (p := W1.heap.size) (i := 0) (by omega) (.slice (some ⟨g3, 0, none⟩) n e3)).setOther (p := W1.heap.size) (i := 1) (by omega) (.slice (some ⟨g7, 0, none⟩) k e7)
  refine hK.out _ _ (one2_mk A1') (fun hHeld => ?_)
  clear hK K hHeld
  try simp only [List.setIfInBounds_toArray, List.set_cons_zero, List.set_cons_succ]
  refine wpAnyH_done (by kernel_rfl) ?_ _
  obtain ⟨j3, k3, m3⟩ := made_of' Q3
  obtain ⟨j7, k7, m7⟩ := made_of' Q7
  have q3 := (m3.setOther (q := W1.heap.size) (i := 0) (by omega) (.slice (some ⟨g3, 0, none⟩) n e3)).setOther (q := W1.heap.size) (i := 1) (by omega) (.slice (some ⟨g7, 0, none⟩) k e7)
  have q7 := (m7.setOther (q := W1.heap.size) (i := 0) (by omega) (.slice (some ⟨g3, 0, none⟩) n e3)).setOther (q := W1.heap.size) (i := 1) (by omega) (.slice (some ⟨g7, 0, none⟩) k e7)
  have a8 := nil2_at A2 (.slice (some ⟨g3, 0, none⟩) n e3) (.slice (some ⟨g7, 0, none⟩) k e7)
  obtain ⟨r0, r1, -⟩ := a8.open2
  go_wp2
  refine bodyPost_ret (v := .agg #[.slice (some ⟨g3, 0, none⟩) n e3, .slice (some ⟨g7, 0, none⟩) k e7]) (by simp [results, Tryz.results75, go_sem, r0, r1]) rfl ⟨_, rfl, ⟨_, _, rfl, arr_of_made q3 k3 (by omega) (own_room Q3), arr_of_made q7 k7 (by omega) (own_room Q7), ?_⟩, (Z.setCell (show w.heap.size ≤ W1.heap.size by omega) _).setCell (show w.heap.size ≤ W1.heap.size by omega) _⟩
  intro x h1 h2
  simp only [Value.ownBlock, Option.some.injEq] at h1 h2
  omega
end Go.Proofs.YtiocneailhplkaaGreat
