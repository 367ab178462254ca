/-
  A sample put into the list at its place: slices.Insert, walked.
-/
import Derived.Test.YtnjnffemidaopaaAm
import Derived.Test.YtnjnffemidaopaaL17b
import Derived.Laws.Externs
namespace Go.Proofs.Ytnjnffemidaopaa
open Go.RowKit

theorem three_recs {w : World} {gx : Nat} {x y z : Int} (h : At 37 w gx #[.int .i64 x, .int .i64 y, .int .i64 z]) : Recs 3 w gx 1 (three x y z) := by
  refine ⟨h.lt, fun i hi => ?_⟩
  rcases (by omega : i = 0 ∨ i = 1 ∨ i = 2) with rfl | rfl | rfl
  · exact h.cell 0 rfl
  · exact h.cell 1 rfl
  · exact h.cell 2 rfl
theorem sizeSample : (Try.prog.info? 37).map (·.size) = some 3 := by kernel_rfl
theorem cat_ins {f : Nat → Int} {n : Nat} {x y z : Int} : ∀ i, i < (n + 1) * 3 → cat f (n * 3) (three x y z) i = ins f n x y z i := by
  intro i hi
  unfold cat ins three
  by_cases a : i < n * 3
  · rw [if_pos a, if_pos a]
  · rw [if_neg a, if_neg a]
    rcases (by omega : i = n * 3 ∨ i = n * 3 + 1 ∨ i = n * 3 + 2) with rfl | rfl | rfl <;> simp
theorem step_copyR {P : Program} {ops : Array Oper} {o : Oper} {a : Act} {w : World} {K : Act → World → Prop} {Q : Exit → Act → World → Prop} {E : Prop} (hgd : o.guard = none) (d s : Operand) (t u : TypeId)
    (ho : o.op = .call { callee := .builtin .copy, args := #[d, s], argTypes := #[t, u] }) (vd vs : Value) (hd : a.eval d = vd) (hs : a.eval s = vs) {r : Value} {w' : World} (hr : (Builtin.copy_ #[t, u] o.type #[vd, vs]).run P w = .ok r w')
    (h : K (a.put o.dst r) w') : if Region.wanted o (yielded ops a.tmps) = true then Oper.wp P o a w K Q else E := by
  have hw : Region.wanted o (yielded ops a.tmps) = true := by simp [Region.wanted, hgd]
  rw [if_pos hw]
  unfold Oper.wp execOp
  simp only [ho, resolve, invoke, builtin, Sem.run_bind, Sem.run_pure, Result.andThen_ok, List.map_toArray, List.map_cons, List.map_nil, hd, hs, hr]
  exact h
def AnyW (_ : World) : Prop := True
theorem zeroRow (f : Nat → Int) (p k r : Nat) (i : Nat) : ((iCells f (p * 3)).toArray ++ Builtin.zeroCells (Value.agg #[.int .i64 0, .int .i64 0, .int .i64 0]).cells k ++ Builtin.zeroCells (Value.agg #[.int .i64 0, .int .i64 0, .int .i64 0]).cells r).size = (p + k + r) * 3 ∧ (i < p * 3 → ((iCells f (p * 3)).toArray ++ Builtin.zeroCells (Value.agg #[.int .i64 0, .int .i64 0, .int .i64 0]).cells k ++ Builtin.zeroCells (Value.agg #[.int .i64 0, .int .i64 0, .int .i64 0]).cells r)[i]? = some (.int .i64 (f i))) := by
  have hc : (Value.agg #[.int .i64 0, .int .i64 0, .int .i64 0]).cells.size = 3 := by simp [Value.cells]
  constructor
  · simp [iCells_len, size_zeroCells, hc]
    omega
  · intro hp
    rw [Array.append_assoc, Array.getElem?_append_left (by simp [iCells_len]; omega)]
    simpa using iCells_at f hp
set_option maxRecDepth 100000 in
set_option maxHeartbeats 3200000 in
theorem insert_any {w : World} {B hi : Nat} {v : Value} {n p gx : Nat} {f : Nat → Int} {x y z : Int} (A : ArK 3 37 w B hi v n f) (hB : B ≤ w.heap.size) (hn : n < 100) (hp : p ≤ n) (X : At 37 w gx #[.int .i64 x, .int .i64 y, .int .i64 z]) (hx : v.ownBlock ≠ some gx) :
    Calls Try.prog 89 #[v, .int .i64 (p : Int), .slice (some ⟨gx, 0, none⟩) 1 1] w fun e w' => ∃ v', e = .returned v' ∧ ArK 3 37 w' B w'.heap.size v' (n + 1) (ins f p x y z) ∧ v' ≠ .slice none 0 0 ∧ Only v w w' := by
  have R := three_recs X
  by_cases hpn : p = n
  · subst hpn
    have hpp : ((p : Int) == (p : Int)) = true := by simp
    have A0 := A
    rcases A with ⟨rfl, rfl⟩ | ⟨g, c, rfl, h1, h2, h3, h4, h5⟩
    · go_enter Try.func89, Try.ntmps89
      go_wp2_with (at_builtin; refine Hid.out (?_ : Hid _))
      refine (?_ : wpList _ _ _ _ _ _)
      refine wpListK_append Try.underlying24 infoSample rfl (by omega) (by omega) w rfl _ _ rfl (v := .slice none 0 0) rfl A0 (ad := some ⟨gx, 0, none⟩) (m := 1) (c := 1) rfl (.inr ⟨gx, rfl, R⟩) (fun h => by cases h) (by omega) hB ?_
      intro v' w' hA hO hN
      have hv' : v' ≠ .slice none 0 0 := by
        rintro rfl
        rcases hA with ⟨-, h⟩ | ⟨g, c, h, -⟩
        · omega
        · cases h
      go_wp2
      go_ret
      exact ⟨_, rfl, hA.same cat_ins, hv', hO⟩
    · by_cases e : p = c
      · subst e
        go_enter Try.func89, Try.ntmps89
        go_wp2_with (at_builtin; refine Hid.out (?_ : Hid _))
        refine (?_ : wpList _ _ _ _ _ _)
        refine wpListK_append Try.underlying24 infoSample rfl (by omega) (by omega) w rfl _ _ rfl (v := .slice (some ⟨g, 0, none⟩) p p) rfl A0 (ad := some ⟨gx, 0, none⟩) (m := 1) (c := 1) rfl (.inr ⟨gx, rfl, R⟩) (fun h => by cases h) (by omega) hB ?_
        intro v' w' hA hO hN
        go_wp2
        go_ret
        exact ⟨_, rfl, hA.same cat_ins, hN (fun h => by cases h), hO⟩
      · have hpc : (p : Int) < (c : Int) := by omega
        have hpc2 : p ≠ c := e
        have hpc3 : ¬ c - p = 0 := by omega
        clear e
        go_enter Try.func89, Try.ntmps89
        go_wp2_with (at_builtin; refine Hid.out (?_ : Hid _))
        refine (?_ : wpList _ _ _ _ _ _)
        refine wpListK_append Try.underlying24 infoSample rfl (by omega) (by omega) w rfl _ _ rfl (v := .slice (some ⟨g, 0, none⟩) p c) rfl A0 (ad := some ⟨gx, 0, none⟩) (m := 1) (c := 1) rfl (.inr ⟨gx, rfl, R⟩) (fun h => by cases h) (by omega) hB ?_
        intro v' w' hA hO hN
        go_wp2
        go_ret
        exact ⟨_, rfl, hA.same cat_ins, hN (fun h => by cases h), hO⟩
  have hlt : p < n := by omega
  rcases A with ⟨rfl, rfl⟩ | ⟨g, c, rfl, h1, h2, h3, h4, cur, k1, k2, k3⟩
  · omega
  have hne : ((p : Int) == (n : Int)) = false := by simp; omega
  have hgx : g ≠ gx := fun e => hx (by rw [e]; rfl)
  have hxl := X.lt
  have hgl := k1.lt
  by_cases hroom : n + 1 ≤ c
  · have hr' : ¬ (c : Int) < (n : Int) + 1 := by omega
    have hov : (callFunc 95 #[.slice (some ⟨gx, 0, none⟩) 1 1, .slice (some ⟨g, (p + 1) * 3, none⟩) (n - p) (c - (p + 1))]).run Try.prog w = .ok (.value (.bool false)) w := by
      rw [run_callFunc_extern Try.func95 (by kernel_rfl) (by kernel_rfl) (by kernel_rfl) (e := Extern.SlicesOverlaps.overlaps #[24, 24] #[4]) (by kernel_rfl),
        Lib.run_overlaps_apart w 24 4 37 Try.underlying24 3 (fun w => by kernel_rfl) ⟨gx, 0, none⟩ ⟨g, (p + 1) * 3, none⟩ 1 1 _ _ (fun e => hgx e.symm) 37 37 3 (c * 3) (by simp [World.shape?, show w.heap[gx]? = _ from X]) (by simp [World.shape?, show w.heap[g]? = _ from k1, k2]) (by omega) (X.frozen 0) (X.frozen 3)]
      rfl
    obtain ⟨C1, r1, a1, z1, c1⟩ := run_copyK (sl := 24) Try.underlying24 sizeSample (w := w.drew) (g := g) (o := (p + 1) * 3) (b := g) (o2 := p * 3) (cnt := n - p) (dLen := n - p) (dCap := c - (p + 1)) (sLen := n + 1 - p) (sCap := c - p) (h := fun j => f (p * 3 + j)) k1 (by simp [Nat.min_def]; omega) (fun j hj => k1.cell _ (k3 _ (by omega))) (by omega) 3
    have hpi : (p : Int) < (n : Int) := by omega
    have hni : (n : Int) ≤ 100 := by omega
    have hci : (n : Int) + 1 ≤ (c : Int) := by omega
    have hcp1 : ¬ c = p + 1 := by omega
    have hwp : IntKind.i64.wrap ((p : Int) + 1) = (p : Int) + 1 := by rw [IntKind.wrap_i64]; omega
    have hp0 : (0 : Int) ≤ (p : Int) + 1 := by omega
    have hle : (p : Int) ≤ (n : Int) + 1 := by omega
    have hle2 : (p : Int) ≤ (n : Int) := by omega
    have hcp : ¬ c = p := by omega
    go_enter Try.func89, Try.ntmps89
    have k1d : At 37 w.drew g cur := k1
    have Xd : At 37 w.drew gx #[.int .i64 x, .int .i64 y, .int .i64 z] := X
    go_wp2_with fail
    refine wp_region_held_drew (S := AnyW) (by kernel_rfl) trivial (fun hHeld => ?_)
    change wpAnyH _ _ _ _ _ 9 #[false, false, false, false, false, false, false, false, false] _ _
    refine wpAnyH_take (i := 0) (v := .slice (some ⟨g, 0, none⟩) (n + 1) c) rfl (by kernel_rfl) (by kernel_rfl) (by kernel_rfl) (fun _ _ _ h => h) (Or.inl ⟨by kernel_rfl, ?_⟩) hHeld ?_
    · intro w' hSw; go_simp
    try simp only [Act.put, List.setIfInBounds_toArray, List.set_cons_zero, List.set_cons_succ, List.getElem_toArray, List.getElem_cons_zero]
    refine wpAnyH_take (i := 1) (v := .int .i64 ((p : Int))) rfl (by kernel_rfl) (by kernel_rfl) (by kernel_rfl) (fun _ _ _ h => h) (Or.inl ⟨by kernel_rfl, ?_⟩) hHeld ?_
    · intro w' hSw; go_simp
    try simp only [Act.put, List.setIfInBounds_toArray, List.set_cons_zero, List.set_cons_succ, List.getElem_toArray, List.getElem_cons_succ, List.getElem_cons_zero]
    refine wpAnyH_take (i := 2) (v := .int .i64 (1)) rfl (by kernel_rfl) (by kernel_rfl) (by kernel_rfl) (fun _ _ _ h => h) (Or.inl ⟨by kernel_rfl, ?_⟩) hHeld ?_
    · intro w' hSw; go_simp
    try simp only [Act.put, List.setIfInBounds_toArray, List.set_cons_zero, List.set_cons_succ, List.getElem_toArray, List.getElem_cons_succ, List.getElem_cons_zero]
    refine wpAnyH_take (i := 3) (v := .int .i64 ((p : Int) + 1)) rfl (by kernel_rfl) (by kernel_rfl) (by kernel_rfl) (fun _ _ _ h => h) (Or.inl ⟨by kernel_rfl, ?_⟩) hHeld ?_
    · intro w' hSw; go_simp
    try simp only [Act.put, List.setIfInBounds_toArray, List.set_cons_zero, List.set_cons_succ, List.getElem_toArray, List.getElem_cons_succ, List.getElem_cons_zero]
    refine wpAnyH_take (i := 4) (v := .slice (some ⟨g, (p + 1) * 3, none⟩) (n - p) (c - (p + 1))) rfl (by kernel_rfl) (by kernel_rfl) (by kernel_rfl) (fun _ _ _ h => h) (Or.inl ⟨by kernel_rfl, ?_⟩) hHeld ?_
    · intro w' hSw; go_simp
    try simp only [Act.put, List.setIfInBounds_toArray, List.set_cons_zero, List.set_cons_succ, List.getElem_toArray, List.getElem_cons_succ, List.getElem_cons_zero]
    refine wpAnyH_take (i := 5) (v := .slice (some ⟨g, 0, none⟩) (n + 1) c) rfl (by kernel_rfl) (by kernel_rfl) (by kernel_rfl) (fun _ _ _ h => h) (Or.inl ⟨by kernel_rfl, ?_⟩) hHeld ?_
    · intro w' hSw; go_simp
    try simp only [Act.put, List.setIfInBounds_toArray, List.set_cons_zero, List.set_cons_succ, List.getElem_toArray, List.getElem_cons_succ, List.getElem_cons_zero]
    refine wpAnyH_take (i := 6) (v := .int .i64 ((p : Int))) rfl (by kernel_rfl) (by kernel_rfl) (by kernel_rfl) (fun _ _ _ h => h) (Or.inl ⟨by kernel_rfl, ?_⟩) hHeld ?_
    · intro w' hSw; go_simp
    try simp only [Act.put, List.setIfInBounds_toArray, List.set_cons_zero, List.set_cons_succ, List.getElem_toArray, List.getElem_cons_succ, List.getElem_cons_zero]
    refine wpAnyH_take (i := 7) (v := .slice (some ⟨g, p * 3, none⟩) (n + 1 - p) (c - p)) rfl (by kernel_rfl) (by kernel_rfl) (by kernel_rfl) (fun _ _ _ h => h) (Or.inl ⟨by kernel_rfl, ?_⟩) hHeld ?_
    · intro w' hSw; go_simp
    try simp only [Act.put, List.setIfInBounds_toArray, List.set_cons_zero, List.set_cons_succ, List.getElem_toArray, List.getElem_cons_succ, List.getElem_cons_zero]
    refine wpAnyH_ready (rs := [8]) (by kernel_rfl) (by simp) ?_
    refine AllReadyH.cons rfl (fun KK hK' => ?_) AllReadyH.nil
    refine step_copyR rfl _ _ _ _ rfl _ _ rfl rfl r1 ?_
    clear hHeld
    refine hK'.out _ _ (trivial) (fun hHeld => ?_)
    clear hK' KK
    try simp only [List.setIfInBounds_toArray, List.set_cons_zero, List.set_cons_succ]
    refine wpAnyH_done (by kernel_rfl) ?_ _
    clear hHeld
    clear r1
    obtain ⟨W1, hW1, K1⟩ : ∃ W, w.drew.setRow g C1 = W ∧ Kept g w W := ⟨_, rfl, (Kept.of_below (Below.refl _ _).drew).trans (kept_setRow _ _ _)⟩
    rw [hW1] at a1 ⊢
    clear hW1
    have X1 := three_recs (show At 37 W1 gx #[.int .i64 x, .int .i64 y, .int .i64 z] from (K1.block gx hxl (fun e => hgx e.symm)).trans X)
    obtain ⟨C2, r2, a2, z2, c2⟩ := run_copyK (sl := 24) Try.underlying24 sizeSample (w := W1) (g := g) (o := p * 3) (b := gx) (o2 := 0) (cnt := 1) (dLen := n + 1 - p) (dCap := c - p) (sLen := 1) (sCap := 1) (h := three x y z) a1 (by simp [Nat.min_def]; omega) (fun j hj => by rw [Nat.zero_add]; exact X1.2 j hj) (by omega) 3
    go_wp2
    go_ret
    have F : LaidK 3 37 (W1.setRow g C2) g c (n + 1) (ins f p x y z) := by
      refine LaidK.ins a2 (by omega) (fun i hi => ?_)
      rw [c2 i (by omega)]
      by_cases e1 : p * 3 ≤ i ∧ i < p * 3 + 1 * 3
      · rw [if_pos e1, if_pos (by omega)]
      · rw [if_neg e1, if_neg (by omega), c1 i (by omega)]
        by_cases e2 : i < p * 3
        · rw [if_neg (by omega), if_pos e2, k3 i (by omega)]
        · rw [if_pos (by omega), if_neg e2]
          congr 3
          omega
    have KK2 : Kept g w (W1.setRow g C2) := K1.trans (kept_setRow _ _ _)
    exact ⟨_, rfl, ArK.own F h1 hroom h4, (fun h => by cases h), .of_kept KK2⟩
  · have hr' : (c : Int) < (n : Int) + 1 := by omega
    obtain ⟨i0, hi0, hz0, hz1, hz2⟩ := info_parts infoSample
    have hkk : (n : Int) + 1 - (p : Int) = ((n + 1 - p : Nat) : Int) := by omega
    have hold : (Builtin.firstCells i0.size p (.slice (some ⟨g, 0, none⟩) p c)).run Try.prog w.drew = .ok (iCells f (p * 3)).toArray w.drew := by
      rw [hz1]
      exact run_firstCells_some w.drew 3 p ⟨g, 0, none⟩ p c (iCells f (p * 3)) (iCells_len _ _) (recs_news (w := w.drew) (K := 3) (m := p) ⟨k1.lt, fun i hi => k1.cell i (k3 i (by omega))⟩)
    have hrz := Lib.run_append_grow_zeros w 24 3 24 37 i0 _ .i64 .i64 Try.underlying24 Try.underlying3 hi0 hz0 (some ⟨g, 0, none⟩) p c (iCells f (p * 3)) hold (n + 1 - p) (by omega) (by omega) (by omega) (by omega) (by rw [hz2]; omega) (by rw [hz2]; exact growslice_fits (by omega) (by omega))
    rw [show p + (n + 1 - p) = n + 1 by omega] at hrz
    have hge := grownCap_ge w (n + 1) c 37
    have hgm := grownCap_le_maxLen w (n + 1) c 37 (by unfold maxLen; omega)
    obtain ⟨G, hG⟩ : ∃ G, grownCap w (n + 1) c 37 = G := ⟨_, rfl⟩
    rw [hG] at hrz hge hgm
    obtain ⟨hrs, hrc⟩ : ((iCells f (p * 3)).toArray ++ Builtin.zeroCells (Value.agg #[.int .i64 0, .int .i64 0, .int .i64 0]).cells (n + 1 - p) ++ Builtin.zeroCells (Value.agg #[.int .i64 0, .int .i64 0, .int .i64 0]).cells (G - (n + 1))).size = G * 3 ∧ ∀ i, i < p * 3 → ((iCells f (p * 3)).toArray ++ Builtin.zeroCells (Value.agg #[.int .i64 0, .int .i64 0, .int .i64 0]).cells (n + 1 - p) ++ Builtin.zeroCells (Value.agg #[.int .i64 0, .int .i64 0, .int .i64 0]).cells (G - (n + 1)))[i]? = some (.int .i64 (f i)) := ⟨by have := (zeroRow f p (n + 1 - p) (G - (n + 1)) 0).1; omega, fun i hi => (zeroRow f p (n + 1 - p) (G - (n + 1)) i).2 hi⟩
    obtain ⟨ROW, hROW⟩ : ∃ ROW, (iCells f (p * 3)).toArray ++ Builtin.zeroCells (Value.agg #[.int .i64 0, .int .i64 0, .int .i64 0]).cells (n + 1 - p) ++ Builtin.zeroCells (Value.agg #[.int .i64 0, .int .i64 0, .int .i64 0]).cells (G - (n + 1)) = ROW := ⟨_, rfl⟩
    rw [hROW] at hrz hrs hrc
    clear hROW hold hG
    obtain ⟨W1, hW1, n1, bb, -⟩ := boxed w.drew 37 ROW
    rw [hW1] at hrz
    clear hW1
    have B1 : Below w.heap.size w W1 := (Below.refl _ _).drew.trans bb
    clear bb
    obtain ⟨q, hq⟩ : ∃ q, w.heap.size = q := ⟨_, rfl⟩
    have n1' : At 37 W1 q ROW := by rw [← hq]; exact n1
    rw [hq] at hrz
    clear n1
    have X1 := three_recs (X.below B1)
    obtain ⟨C1, r1, a1, z1, c1⟩ := run_copyK (sl := 24) Try.underlying24 sizeSample (w := W1) (g := q) (o := p * 3) (b := gx) (o2 := 0) (cnt := 1) (dLen := n + 1 - p) (dCap := G - p) (sLen := 1) (sCap := 1) (h := three x y z) n1' (by simp [Nat.min_def]; omega) (fun j hj => by rw [Nat.zero_add]; exact X1.2 j hj) (by omega) 3
    have hpi : (p : Int) < (n : Int) := by omega
    have hni : (n : Int) ≤ 100 := by omega
    have hci : (n : Int) ≤ (c : Int) := by omega
    have hGi : (n : Int) + 1 ≤ (G : Int) := by omega
    have hwp : IntKind.i64.wrap ((p : Int) + 1) = (p : Int) + 1 := by rw [IntKind.wrap_i64]; omega
    have hp0 : (0 : Int) ≤ (p : Int) + 1 := by omega
    have hle : (p : Int) ≤ (n : Int) + 1 := by omega
    have hle2 : (p : Int) ≤ (n : Int) := by omega
    have hcp : ¬ c = p := by omega
    have hGp : ¬ G = p := by omega
    have hGp1 : ¬ G = p + 1 := by omega
    rw [← hkk] at hrz
    clear hkk
    go_enter Try.func89, Try.ntmps89
    go_wp2_with (at_builtin; refine Hid.out (?_ : Hid _))
    refine (?_ : wpList _ _ _ _ _ _)
    refine Lib.wpList_append_run w rfl _ _ _ _ rfl _ _ rfl rfl _ _ hrz ?_
    clear hrz
    go_wp2_with fail
    clear r1
    obtain ⟨W2, hW2, K2⟩ : ∃ W, W1.setRow q C1 = W ∧ Kept q W1 W := ⟨_, rfl, kept_setRow _ _ _⟩
    rw [hW2] at a1 ⊢
    clear hW2
    have B2 : Below q w W2 := by rw [← hq]; exact K2.below (by omega) B1.size |> fun h => B1.trans h
    have kg : At 37 W2.drew g cur := (B2.block g (by omega)).trans k1
    obtain ⟨C2, r2, a2, z2, c2⟩ := run_copyK (sl := 24) Try.underlying24 sizeSample (w := W2.drew) (g := q) (o := (p + 1) * 3) (b := g) (o2 := p * 3) (cnt := n - p) (dLen := n - p) (dCap := G - (p + 1)) (sLen := n - p) (sCap := c - p) (h := fun j => f (p * 3 + j)) a1 (by simp) (fun j hj => kg.cell _ (k3 _ (by omega))) (by omega) 3
    refine wp_region_held_drew (S := AnyW) (by kernel_rfl) trivial (fun hHeld => ?_)
    change wpAnyH _ _ _ _ _ 9 #[false, false, false, false, false, false, false, false, false] _ _
    refine wpAnyH_take (i := 0) (v := .slice (some ⟨q, 0, none⟩) (n + 1) G) rfl (by kernel_rfl) (by kernel_rfl) (by kernel_rfl) (fun _ _ _ h => h) (Or.inl ⟨by kernel_rfl, ?_⟩) hHeld ?_
    · intro w' hSw; go_simp
    try simp only [Act.put, List.setIfInBounds_toArray, List.set_cons_zero, List.set_cons_succ, List.getElem_toArray, List.getElem_cons_zero]
    refine wpAnyH_take (i := 1) (v := .int .i64 ((p : Int))) rfl (by kernel_rfl) (by kernel_rfl) (by kernel_rfl) (fun _ _ _ h => h) (Or.inl ⟨by kernel_rfl, ?_⟩) hHeld ?_
    · intro w' hSw; go_simp
    try simp only [Act.put, List.setIfInBounds_toArray, List.set_cons_zero, List.set_cons_succ, List.getElem_toArray, List.getElem_cons_succ, List.getElem_cons_zero]
    refine wpAnyH_take (i := 2) (v := .int .i64 (1)) rfl (by kernel_rfl) (by kernel_rfl) (by kernel_rfl) (fun _ _ _ h => h) (Or.inl ⟨by kernel_rfl, ?_⟩) hHeld ?_
    · intro w' hSw; go_simp
    try simp only [Act.put, List.setIfInBounds_toArray, List.set_cons_zero, List.set_cons_succ, List.getElem_toArray, List.getElem_cons_succ, List.getElem_cons_zero]
    refine wpAnyH_take (i := 3) (v := .int .i64 ((p : Int) + 1)) rfl (by kernel_rfl) (by kernel_rfl) (by kernel_rfl) (fun _ _ _ h => h) (Or.inl ⟨by kernel_rfl, ?_⟩) hHeld ?_
    · intro w' hSw; go_simp
    try simp only [Act.put, List.setIfInBounds_toArray, List.set_cons_zero, List.set_cons_succ, List.getElem_toArray, List.getElem_cons_succ, List.getElem_cons_zero]
    refine wpAnyH_take (i := 4) (v := .slice (some ⟨q, (p + 1) * 3, none⟩) (n - p) (G - (p + 1))) rfl (by kernel_rfl) (by kernel_rfl) (by kernel_rfl) (fun _ _ _ h => h) (Or.inl ⟨by kernel_rfl, ?_⟩) hHeld ?_
    · intro w' hSw; go_simp
    try simp only [Act.put, List.setIfInBounds_toArray, List.set_cons_zero, List.set_cons_succ, List.getElem_toArray, List.getElem_cons_succ, List.getElem_cons_zero]
    refine wpAnyH_take (i := 5) (v := .slice (some ⟨g, 0, none⟩) n c) rfl (by kernel_rfl) (by kernel_rfl) (by kernel_rfl) (fun _ _ _ h => h) (Or.inl ⟨by kernel_rfl, ?_⟩) hHeld ?_
    · intro w' hSw; go_simp
    try simp only [Act.put, List.setIfInBounds_toArray, List.set_cons_zero, List.set_cons_succ, List.getElem_toArray, List.getElem_cons_succ, List.getElem_cons_zero]
    refine wpAnyH_take (i := 6) (v := .int .i64 ((p : Int))) rfl (by kernel_rfl) (by kernel_rfl) (by kernel_rfl) (fun _ _ _ h => h) (Or.inl ⟨by kernel_rfl, ?_⟩) hHeld ?_
    · intro w' hSw; go_simp
    try simp only [Act.put, List.setIfInBounds_toArray, List.set_cons_zero, List.set_cons_succ, List.getElem_toArray, List.getElem_cons_succ, List.getElem_cons_zero]
    refine wpAnyH_take (i := 7) (v := .slice (some ⟨g, p * 3, none⟩) (n - p) (c - p)) rfl (by kernel_rfl) (by kernel_rfl) (by kernel_rfl) (fun _ _ _ h => h) (Or.inl ⟨by kernel_rfl, ?_⟩) hHeld ?_
    · intro w' hSw; go_simp
    try simp only [Act.put, List.setIfInBounds_toArray, List.set_cons_zero, List.set_cons_succ, List.getElem_toArray, List.getElem_cons_succ, List.getElem_cons_zero]
    refine wpAnyH_ready (rs := [8]) (by kernel_rfl) (by simp) ?_
    refine AllReadyH.cons rfl (fun KK hK' => ?_) AllReadyH.nil
    refine step_copyR rfl _ _ _ _ rfl _ _ rfl rfl r2 ?_
    clear hHeld
    refine hK'.out _ _ (trivial) (fun hHeld => ?_)
    clear hK' KK
    try simp only [List.setIfInBounds_toArray, List.set_cons_zero, List.set_cons_succ]
    refine wpAnyH_done (by kernel_rfl) ?_ _
    clear hHeld
    clear r2
    go_wp2
    go_ret
    have F : LaidK 3 37 (W2.drew.setRow q C2) q G (n + 1) (ins f p x y z) := by
      refine LaidK.ins a2 (by omega) (fun i hi => ?_)
      rw [c2 i (by omega)]
      by_cases e2 : (p + 1) * 3 ≤ i ∧ i < (p + 1) * 3 + (n - p) * 3
      · rw [if_pos e2, if_neg (by omega), if_neg (by omega)]
        congr 3
        omega
      · rw [if_neg e2, c1 i (by omega)]
        by_cases e1 : p * 3 ≤ i ∧ i < p * 3 + 1 * 3
        · rw [if_pos e1, if_pos (by omega)]
        · rw [if_neg e1, if_neg (by omega), if_pos (by omega), hrc i (by omega)]
    have B3 : Below w.heap.size w (W2.drew.setRow q C2) := by
      have b3 : Below q w W2.drew := B2.drew
      rw [hq]
      exact b3.trans ((kept_setRow W2.drew q C2).below (by omega) (show q ≤ W2.drew.heap.size from a1.lt |> Nat.le_of_lt))
    exact ⟨_, rfl, ArK.own F (by omega) hge hgm, (fun h => by cases h), .of_below B3⟩
end Go.Proofs.Ytnjnffemidaopaa
