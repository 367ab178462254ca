/-
  slices.Equal at operators, laid.
-/
import Derived.Test.YtiocneailhplkaaGreatGr
import Derived.Shelf.SlicesQ.Equal
import Derived.Laws.StructEq
import Derived.ChangeKeysEq
import Derived.Test.YtiocneailhplkaaGreatMG
import Derived.Test.YtiocneailhplkaaGreatMH
import Derived.Test.YtiocneailhplkaaGreatMI
namespace Go.Proofs.YtiocneailhplkaaGreat
open Go.RowKit Go.Shelf Go.Lib

def eqR : Go.Shelf.Ren := ⟨fun | 8 => 63 | n => n, fun | 22 => 60 | 24 => 90 | n => n, fun | n => n⟩
theorem eqL : SlLaysQ.n8 Tryz.prog eqR := {
  mixed := by kernel_rfl,
  f8 := ⟨Tryz.f63.name, by decide, Tryz.func63.trans (congrArg some (by kernel_rfl))⟩,
  t0 := Tryz.underlying0, a0 := Tryz.isAgg0, z0 := Tryz.sizeOf0, v0 := Tryz.zeroValue0,
  t3 := Tryz.underlying3, a3 := Tryz.isAgg3, z3 := Tryz.sizeOf3, v3 := Tryz.zeroValue3,
  t4 := Tryz.underlying4, a4 := Tryz.isAgg4, z4 := Tryz.sizeOf4, v4 := Tryz.zeroValue4,
  t22 := Tryz.underlying60, a22 := Tryz.isAgg60, z22 := Tryz.sizeOf60, v22 := Tryz.zeroValue60 }
theorem run_items (d : Nat) (X Y : Array Value) (f h : Nat → Int) (w : World) : ∀ is : List Nat, (∀ i ∈ is, X[i]? = some (.int .i64 (f i)) ∧ Y[i]? = some (.int .i64 (h i))) →
    ∃ r : Bool, (Op.eqItems (d + 1) 2 (Tryz.prog.cellsOf 2) X Y is).run Tryz.prog w = .ok r w ∧ (r = true ↔ ∀ i ∈ is, f i = h i) := by
  intro is
  have hpl : Tryz.prog.plainKey 2 = true := by kernel_rfl
  have hc : Tryz.prog.cellsOf 2 = 1 := by kernel_rfl
  induction is with
  | nil => intro _; exact ⟨true, by simp [Op.eqItems], by simp⟩
  | cons i is ih =>
    intro hi
    obtain ⟨h1, h2⟩ := hi i (List.mem_cons_self ..)
    obtain ⟨r, hr, hiff⟩ := ih (fun j hj => hi j (List.mem_cons_of_mem _ hj))
    have p1 := run_part_plain (P := Tryz.prog) w hpl (off := i * Tryz.prog.cellsOf 2) (by rw [hc, Nat.mul_one]; exact h1)
    have p2 := run_part_plain (P := Tryz.prog) w hpl (off := i * Tryz.prog.cellsOf 2) (by rw [hc, Nat.mul_one]; exact h2)
    have p3 := run_equalIn_int (P := Tryz.prog) w d 2 .i64 .i64 (f i) (h i) Tryz.underlying2
    simp only [Op.eqItems, Sem.run_bind, p1, p2, p3, Result.andThen_ok]
    by_cases e : f i = h i
    · refine ⟨r, ?_, ?_⟩
      · simpa [e] using hr
      · rw [hiff]; simp [e]
    · exact ⟨false, by simp [e], by simp [e]⟩
theorem run_arr (d : Nat) {t n : Nat} (X Y : Array Value) (f h : Nat → Int) (w : World) (ht : Tryz.prog.underlying t = some (.array n 2)) (hX : ∀ i, i < n → X[i]? = some (.int .i64 (f i)) ∧ Y[i]? = some (.int .i64 (h i))) :
    ∃ r : Bool, (Op.equalIn (d + 2) t (.agg X) (.agg Y)).run Tryz.prog w = .ok r w ∧ (r = true ↔ ∀ i, i < n → f i = h i) := by
  obtain ⟨i, hi⟩ := info_of_underlying Tryz.underlying2
  obtain ⟨r, hr, hiff⟩ := run_items d X Y f h w (List.range n) (fun i hi => hX i (List.mem_range.1 hi))
  refine ⟨r, ?_, ?_⟩
  · rw [run_equalIn_array w (d + 1) X Y ht hi]; exact hr
  · rw [hiff]; simp
set_option maxRecDepth 100000 in
theorem neq65 : NeqAt Tryz.prog 90 (fun x : Nat → Int => .agg (kc x).toArray) (fun x y => decide (lexC 12 x y = 0)) := by
  refine ⟨fun x y w => ?_, GuardAt.agg _ (by kernel_rfl)⟩
  have hS : Tryz.prog.underlying 90 = some (.struct (Tryz.prog.fieldsOf 90)) := by kernel_rfl
  have hp : Tryz.prog.stoodInHeld 90 = false := by kernel_rfl
  obtain ⟨r1, hr1, hi1⟩ := run_arr 9997 #[.int .i64 (x 0), .int .i64 (x 1), .int .i64 (x 2), .int .i64 (x 3), .int .i64 (x 4), .int .i64 (x 5), .int .i64 (x 6), .int .i64 (x 7), .int .i64 (x 8)] #[.int .i64 (y 0), .int .i64 (y 1), .int .i64 (y 2), .int .i64 (y 3), .int .i64 (y 4), .int .i64 (y 5), .int .i64 (y 6), .int .i64 (y 7), .int .i64 (y 8)] x y w (t := 88) (n := 9) (by kernel_rfl) (fun i hi => by
    rcases (by omega : i = 0 ∨ i = 1 ∨ i = 2 ∨ i = 3 ∨ i = 4 ∨ i = 5 ∨ i = 6 ∨ i = 7 ∨ i = 8) with rfl | rfl | rfl | rfl | rfl | rfl | rfl | rfl | rfl <;> exact ⟨rfl, rfl⟩)
  obtain ⟨r2, hr2, hi2⟩ := run_arr 9997 #[.int .i64 (x 9), .int .i64 (x 10), .int .i64 (x 11)] #[.int .i64 (y 9), .int .i64 (y 10), .int .i64 (y 11)] (fun i => x (9 + i)) (fun i => y (9 + i)) w (t := 66) (n := 3) (by kernel_rfl) (fun i hi => by
    rcases (by omega : i = 0 ∨ i = 1 ∨ i = 2) with rfl | rfl | rfl <;> exact ⟨rfl, rfl⟩)
  simp only [kc]
  rw [run_neq_struct, show (10000 : Nat) = 9999 + 1 from rfl, run_equalIn_agg w 9999 90 _ _ hS hp]
  simp only [Program.fieldsOf, Tryz.underlying90]
  go_simp
  have hall : lexC 12 x y = 0 ↔ r1 = true ∧ r2 = true := by
    rw [lexC_zero, hi1, hi2]
    constructor
    · exact fun h => ⟨fun i hi => h i (by omega), fun i hi => h (9 + i) (by omega)⟩
    · rintro ⟨h1, h2⟩ j hj
      by_cases e : j < 9
      · exact h1 j e
      · have := h2 (j - 9) (by omega)
        rwa [show 9 + (j - 9) = j by omega] at this
  simp only [hall]
  cases r1 <;> cases r2 <;> simp
theorem equal_any {w : World} {base base' n m : Nat} {v v' : Value} {F G : Nat → Nat → Int} (h1 : Oprs w base v n F) (h2 : Oprs w base' v' m G) (hn : n ≤ 1000) (hm : m ≤ 1000) :
    Calls Tryz.prog 63 #[v, v'] w fun e w' => Tells e (n = m ∧ ∀ i, i < n → lexC 12 (F i) (G i) = 0) ∧ Below w.heap.size w w' := by
  obtain ⟨g, c, rfl, -⟩ := Que.of_oprs h1
  obtain ⟨g', c', rfl, -⟩ := Que.of_oprs h2
  have lx : ((List.range n).map F).length = n := by simp
  have ly : ((List.range m).map G).length = m := by simp
  have gx : ∀ (H : Nat → Nat → Int) (k j : Nat), j < k → ((List.range k).map H)[j]! = H j := fun H k j hj => by
    rw [List.getElem!_eq_getElem?_getD]; simp [hj]
  have := AnyQ.slices_Equal eqL 12 Tryz.isAgg90 Tryz.sizeOf90 kc (fun _ => rfl) _ neq65 g 0 n c g' 0 m c' ((List.range n).map F) ((List.range m).map G) w (by omega) (by omega) (by omega) (by omega)
    (fun j hj i u hu => by
      rw [lx] at hj
      rw [gx F n j hj] at hu
      have hi : i < 12 := (List.getElem?_eq_some_iff.1 hu).1
      rw [kc_get _ _ hi] at hu
      cases hu
      rw [Nat.zero_add]
      exact h1.get j i hj hi)
    (fun j hj i u hu => by
      rw [ly] at hj
      rw [gx G m j hj] at hu
      have hi : i < 12 := (List.getElem?_eq_some_iff.1 hu).1
      rw [kc_get _ _ hi] at hu
      cases hu
      rw [Nat.zero_add]
      exact h2.get j i hj hi)
  refine Calls.mono this ?_
  rintro e w' ⟨rfl, q, rfl⟩
  refine ⟨⟨_, rfl, ?_⟩, ?_⟩
  · rw [List.take_of_length_le (by omega), List.take_of_length_le (by omega)]
    by_cases e : n = m
    · subst e
      constructor
      · intro h
        refine ⟨rfl, fun i hi => ?_⟩
        apply Decidable.byContradiction
        intro hne
        have := allEq_elem (fun x y : Nat → Int => decide (lexC 12 x y = 0)) ((List.range n).map F) ((List.range n).map G) i (by omega) (by omega) (by rw [gx F n i hi, gx G n i hi]; exact decide_eq_false hne)
        rw [this] at h
        cases h
      · rintro ⟨-, h⟩
        exact allEq_all _ _ _ (by omega) (fun j hj => by rw [lx] at hj; rw [gx F n j hj, gx G n j hj]; exact decide_eq_true (h j hj))
    · have := allEq_len (fun x y : Nat → Int => decide (lexC 12 x y = 0)) ((List.range n).map F) ((List.range m).map G) (by omega)
      rw [this]
      exact ⟨fun h => (by cases h), fun h => absurd h.1 e⟩
  · exact ⟨rfl, rfl, rfl, Nat.le_refl _, fun _ _ => rfl⟩
end Go.Proofs.YtiocneailhplkaaGreat
/-
  The program's least group of generators, walked.
-/
namespace Go.Proofs.YtiocneailhplkaaGreat
open Go.RowKit

theorem Reach.congr {K : List Value} {n : Nat} {U : Nat → Nat → Int} {x y : Nat → Int} (h : Reach K n U x) (e : kV y = kV x) : Reach K n U y := by
  cases h with
  | base h => exact .base (by rw [e]; exact h)
  | step h1 h2 h3 => exact .step h1 h2 (e.trans h3)
theorem Reach.mono {K K' : List Value} {n n' : Nat} {U U' : Nat → Nat → Int} {x : Nat → Int} (h : Reach K n U x) (hK : ∀ y, kV y ∈ K → Reach K' n' U' y) (hU : ∀ i, i < n → i < n' ∧ U i = U' i) : Reach K' n' U' x := by
  induction h with
  | base h => exact hK _ h
  | step h1 h2 h3 ih => exact .step ih (hU _ h2).1 (by rw [← (hU _ h2).2]; exact h3)
theorem Bad.mono {K K' : List Value} {n : Nat} {U : Nat → Nat → Int} (h : Bad K n U) (hK : ∀ y, kV y ∈ K → Reach K' n U y) : Bad K' n U := by
  have up : ∀ x, Reach K n U x → Reach K' n U x := fun x hx => hx.mono hK (fun i hi => ⟨hi, rfl⟩)
  rcases h with ⟨x, h1, h2⟩ | ⟨ls, h1, h2, h3⟩
  · exact .inl ⟨x, up x h1, h2⟩
  · exact .inr ⟨ls, h1, h2, fun x hx => up x (h3 x hx)⟩
theorem kR_one : kR oneK := by decide
theorem one_mul {x : Nat → Int} (hx : kR x) : kV (mulQ oneK x) = kV x := by
  refine kV_inj.2 (lexC_zero.2 (fun j hj => ?_))
  unfold mulQ cat
  by_cases e : j < 9
  · rw [if_pos e]
    have := (mul_one x j e).2
    rw [← this, mulM_at, mulM_at]
    rcases (by omega : j / 3 = 0 ∨ j / 3 = 1 ∨ j / 3 = 2) with h | h | h <;> rw [h] <;> rfl
  · rw [if_neg e]
    unfold behV
    rw [movV_at]
    have h2 := hx.2.1 (j - 9) (by omega)
    unfold kh at h2 ⊢
    rcases (by omega : j = 9 ∨ j = 10 ∨ j = 11) with rfl | rfl | rfl
    · have : oneK (3 * (9 - 9)) = 1 ∧ oneK (3 * (9 - 9) + 1) = 0 ∧ oneK (3 * (9 - 9) + 2) = 0 ∧ oneK (9 + (9 - 9)) = 0 := by decide
      rw [this.1, this.2.1, this.2.2.1, this.2.2.2]
      simp at h2 ⊢
      omega
    · have : oneK (3 * (10 - 9)) = 0 ∧ oneK (3 * (10 - 9) + 1) = 1 ∧ oneK (3 * (10 - 9) + 2) = 0 ∧ oneK (9 + (10 - 9)) = 0 := by decide
      rw [this.1, this.2.1, this.2.2.1, this.2.2.2]
      simp at h2 ⊢
      omega
    · have : oneK (3 * (11 - 9)) = 0 ∧ oneK (3 * (11 - 9) + 1) = 0 ∧ oneK (3 * (11 - 9) + 2) = 1 ∧ oneK (9 + (11 - 9)) = 0 := by decide
      rw [this.1, this.2.1, this.2.2.1, this.2.2.2]
      simp at h2 ⊢
      omega
/-- What has been made of these. -/
structure MadeG (j : Nat) (F : Nat → Nat → Int) (L ks : List (Nat → Int)) : Prop where
  grows : Grows [kV oneK] L.length (nth L) ks
  closed : ∀ x ∈ ks, ∀ i, i < L.length → kV (mulQ x (nth L i)) ∈ ks.map kV
  of : ∀ u ∈ L, ∃ t, t < j ∧ u = F t
  has : ∀ t, t < j → kV (F t) ∈ ks.map kV
/-- They make no group. -/
def NoG (n : Nat) (F : Nat → Nat → Int) : Prop := ∃ L : List (Nat → Int), (∀ u ∈ L, ∃ t, t < n ∧ u = F t) ∧ Bad [kV oneK] L.length (nth L)
theorem nth_snoc {L : List (Nat → Int)} {g : Nat → Int} {i : Nat} (hi : i < L.length) : nth (L ++ [g]) i = nth L i := by simp [nth, List.getD_eq_getElem?_getD, List.getElem?_append_left hi]
theorem nth_last (L : List (Nat → Int)) (g : Nat → Int) : nth (L ++ [g]) L.length = g := by simp [nth, List.getD_eq_getElem?_getD]
theorem kCells_snoc (L : List (Nat → Int)) (g : Nat → Int) : kCells (nth (L ++ [g])) (L.length + 1) = kCells (nth L) L.length ++ kc g := by
  show kCells _ L.length ++ kc _ = _
  rw [nth_last, kCells_congr (fun i hi j _ => by rw [nth_snoc hi])]
theorem nth_mem {L : List (Nat → Int)} {i : Nat} (hi : i < L.length) : nth L i ∈ L := by
  simp [nth, List.getD_eq_getElem?_getD, hi]
/-- One generator more. -/
theorem MadeG.next {j : Nat} {F : Nat → Nat → Int} {L ks ks' : List (Nat → Int)} (h : MadeG j F L ks) (hR : kR (F j)) (hg : Grows (ks.map kV) (L ++ [F j]).length (nth (L ++ [F j])) ks') (hc : ∀ x ∈ ks', ∀ i, i < (L ++ [F j]).length → kV (mulQ x (nth (L ++ [F j]) i)) ∈ ks'.map kV) : MadeG (j + 1) F (L ++ [F j]) ks' := by
  have hK : ∀ y, kV y ∈ ks.map kV → Reach [kV oneK] (L ++ [F j]).length (nth (L ++ [F j])) y := fun y hy => by
    obtain ⟨z, hz, e⟩ := List.mem_map.1 hy
    refine ((h.grows.reach z hz).mono (fun y hy => .base hy) (fun i hi => ⟨by simp; omega, (nth_snoc hi).symm⟩)).congr e.symm
  refine ⟨⟨hg.right, hg.few, fun x hx => (hg.reach x hx).mono hK (fun i hi => ⟨hi, rfl⟩), fun v hv => hg.has v (h.grows.has v hv)⟩, hc, fun u hu => ?_, fun t ht => ?_⟩
  · rcases List.mem_append.1 hu with hu | hu
    · obtain ⟨t, h1, h2⟩ := h.of u hu; exact ⟨t, by omega, h2⟩
    · exact ⟨j, by omega, List.mem_singleton.1 hu⟩
  · by_cases e : t = j
    · subst e
      obtain ⟨o, ho, eo⟩ := List.mem_map.1 (hg.has _ (h.grows.has (kV oneK) (by simp)))
      have := hc o ho L.length (by simp)
      rw [nth_last, mulQ_congr eo, one_mul hR] at this
      exact this
    · exact hg.has _ (h.has t (by omega))
theorem MadeG.bad {n j : Nat} {F : Nat → Nat → Int} {L ks : List (Nat → Int)} (h : MadeG j F L ks) (hj : j < n) (hb : Bad (ks.map kV) (L ++ [F j]).length (nth (L ++ [F j]))) : NoG n F := by
  refine ⟨L ++ [F j], fun u hu => ?_, hb.mono fun y hy => ?_⟩
  · rcases List.mem_append.1 hu with hu | hu
    · obtain ⟨t, h1, h2⟩ := h.of u hu; exact ⟨t, by omega, h2⟩
    · exact ⟨j, hj, List.mem_singleton.1 hu⟩
  · obtain ⟨z, hz, e⟩ := List.mem_map.1 hy
    refine ((h.grows.reach z hz).mono (fun y hy => .base hy) (fun i hi => ⟨by simp; omega, (nth_snoc hi).symm⟩)).congr e.symm
theorem MapV.ne_own {w : World} {b base n : Nat} {v : Value} {ks : List (Nat → Int)} {F : Nat → Nat → Int} (h : MapV w b ks) (a : Oprs w base v n F) : some b ≠ v.ownBlock := by
  intro e
  obtain ⟨es, cl, h1, -⟩ := h
  rcases a.1.2 with ⟨h2, _⟩ | ⟨g, c', cur, e2, _, h2, _⟩
  · exact a.2 h2
  · subst e2
    simp only [Value.ownBlock, Option.some.injEq] at e
    subst e
    rw [h1] at h2
    cases h2
theorem made0 (F : Nat → Nat → Int) : MadeG 0 F [] [oneK] :=
  ⟨⟨fun x hx => by rw [List.mem_singleton.1 hx]; exact kR_one, by simp, fun x hx => .base (by rw [List.mem_singleton.1 hx]; simp), fun v hv => hv⟩, fun x _ i hi => by simp at hi, fun u hu => (by cases hu), fun t ht => by omega⟩
set_option maxRecDepth 100000 in
set_option maxHeartbeats 2000000 in
theorem closureOf_any {w : World} {base g n c : Nat} {F : Nat → Nat → Int} (hF : Oprs w base (.slice (some ⟨g, 0, none⟩) n c) n F) (hR : ∀ i, i < n → kR (F i)) (hn : n ≤ 192) :
    Calls Tryz.prog 64 #[.slice (some ⟨g, 0, none⟩) n c] w fun e w' => ((∃ v m G L ks, e = .returned v ∧ Oprs w' w.heap.size v m G ∧ m = ks.length ∧ (ks.map kV).Nodup ∧ (((List.range m).map G).map kV).Perm (ks.map kV) ∧ (∀ i j, i < j → j < m → ¬ lexC 12 (G j) (G i) < 0) ∧ MadeG n F L ks) ∨ (∃ v G, e = .returned v ∧ Oprs w' w.heap.size v 0 G ∧ NoG n F)) ∧ Below w.heap.size w w' := by
  have hn' : (n : Int) ≤ 192 := by omega
  have hbs : ∀ w, (Instr.buildSlice 60 0 #[]).run Tryz.prog w = .ok (.slice (some ⟨w.heap.size, 0, none⟩) 0 0) (w.alloc (.cells #[] 90)) := fun _ => by kernel_rfl
  obtain ⟨i0, hi0, hz0, hz1, hz2⟩ := info_parts Tryz.info90
  have hmm := makeMap75 w
  obtain ⟨W1, hW1⟩ : ∃ W, w.alloc (.map #[] 0) = W := ⟨_, rfl⟩
  have hM1 : MapV W1 w.heap.size [] := by rw [← hW1]; exact mapV_new w
  have B1 : Below w.heap.size w W1 := by rw [← hW1]; exact below_alloc _ _
  rw [hW1] at hmm
  clear hW1
  obtain ⟨b, hb⟩ : ∃ b, w.heap.size = b := ⟨_, rfl⟩
  rw [hb] at hmm hM1
  go_enter Tryz.func64, Tryz.ntmps64
  go_wp2_with fail
  refine (nothing_any W1).mono ?_
  rintro e w2 ⟨rfl, b2⟩
  have hM2 := hM1.below b2
  obtain ⟨w3, hst, hM3, g3, z3⟩ := hM2.store (k := oneK) (n := 0) (small_R kR_one) (wf_small (by omega)) (by simp) (by simp [maxLen])
  clear z3 hM1 hM2
  have e1 : Value.agg (opA oneF (fun _ => 0)) = kV oneK := rfl
  rw [e1]
  have B3 : Below w.heap.size w w3 := (B1.trans (b2.mono B1.size)).grown g3 (Nat.le_trans B1.size b2.size) (fun k e => by cases e; omega)
  obtain ⟨W4, hW4, a4, b4, z4⟩ := boxed w3 90 #[]
  have hM4 := hM3.below b4
  have B4 : Below w.heap.size w W4 := B3.trans (b4.mono B3.size)
  have o4 : Hid (Oprs W4 w.heap.size (.slice (some ⟨w3.heap.size, 0, none⟩) 0 0) 0 (nth [])) := ⟨⟨rfl, .inr ⟨w3.heap.size, 0, #[], rfl, B3.size, a4, Nat.le_refl _, Nat.zero_le _, rfl, rfl⟩⟩, ne_nil _ _ _⟩
  clear a4 z4 hM3 B1 b2 g3 b4
  go_wp2
  clear hst hmm hW4
  go_loopw [4, 13] (fun v s wr => ∃ j L gu cu ks, j ≤ n ∧ s = .int .i64 (j : Nat) ∧ v = .slice (some ⟨gu, 0, none⟩) L.length cu ∧ Hid (Oprs wr w.heap.size (.slice (some ⟨gu, 0, none⟩) L.length cu) L.length (nth L)) ∧ L.length ≤ j ∧ MapV wr b ks ∧ MadeG j F L ks ∧ Below w.heap.size w wr) (fun _ s _ => n - (intOf s).toNat)
  case atStart => exact ⟨0, [], _, _, [oneK], Nat.zero_le _, rfl, rfl, o4, Nat.le_refl _, hM4, made0 F, B4⟩
  case round =>
    clear o4 hM4 B4 B3
    obtain ⟨j, L, gu, cu, ks, hj, rfl, rfl, hU, hLj, hM, hMd, B⟩ := hrel
    by_cases hlt : j < n
    · have hlt' : (j : Int) < (n : Int) := by omega
      have hF1 := hF.below B
      obtain ⟨e0, e1, e2, e3, e4, e5, e6, e7, e8, e9, e10, e11⟩ := hF1.open j hlt
      obtain ⟨W2, hW2, a2, b2, -⟩ := boxed wr 90 (kc (F j)).toArray
      obtain ⟨p2, hp2⟩ : ∃ p, wr.heap.size = p := ⟨_, rfl⟩
      rw [hp2] at a2
      obtain ⟨f0, f1, f2, f3, f4, f5, f6, f7, f8, f9, f10, f11⟩ := At.openk (x := F j) a2
      have hM2 := hM.below b2
      have hU2 : Hid (Oprs W2 w.heap.size (.slice (some ⟨gu, 0, none⟩) L.length cu) L.length (nth L)) := hU.out.below b2
      have B2 := B.trans (b2.mono B.size)
      clear hM hU B b2
      unfold kc at hW2
      go_wp2_with fail
      refine (have_any hM2 (small_R (hR j hlt))).mono ?_
      rintro e w3 ⟨⟨r, rfl, hr⟩, b3⟩
      clear e0 e1 e2 e3 e4 e5 e6 e7 e8 e9 e10 e11 f0 f1 f2 f3 f4 f5 f6 f7 f8 f9 f10 f11 hW2
      have hM3 := hM2.below b3
      have hU3 : Hid (Oprs w3 w.heap.size (.slice (some ⟨gu, 0, none⟩) L.length cu) L.length (nth L)) := hU2.out.below b3
      have B3 := B2.trans (b3.mono B2.size)
      have a3 := a2.below b3
      clear hM2 hU2 B2 b3 a2
      cases r
      · obtain ⟨W4, hW4, a4, b4, z4⟩ := boxed w3 90 (kc (F j)).toArray
        obtain ⟨p4, hp4⟩ : ∃ p, w3.heap.size = p := ⟨_, rfl⟩
        rw [hp4] at a4
        obtain ⟨f0, f1, f2, f3, f4, f5, f6, f7, f8, f9, f10, f11⟩ := At.openk (x := F j) a3
        have hM4 := hM3.below b4
        have hU4 : Hid (Oprs W4 w.heap.size (.slice (some ⟨gu, 0, none⟩) L.length cu) L.length (nth L)) := hU3.out.below b4
        have B4 := B3.trans (b4.mono B3.size)
        have hm1 : L.length + 1 ≤ maxLen := by unfold maxLen; omega
        have hm2 : (L.length + 1) * 96 ≤ 140737488355328 := by omega
        clear hM3 hU3 B3 b4 a3 z4
        unfold kc at hW4
        go_wp2_with (at_builtin; refine Hid.out (?_ : Hid _))
        refine (?_ : wpList _ _ _ _ _ _)
        refine wpList_append_own_at _ rfl _ _ _ rfl w.heap.size 90 i0 _ 12 96 Tryz.underlying60 hi0 hz0 hz1 hz2 rfl (by omega) (.slice (some ⟨gu, 0, none⟩) L.length cu) L.length (kCells (nth L) L.length) rfl hU4.out.1 ⟨p4, 0, none⟩ 1 1 (kc (F j)) rfl rfl (cell12_new W4 p4 (F j) a4) (kc_one _) hm1 hm2 B4.size ?_
        intro v5 w5 hown5 hgrow5 hne5 _
        have hU5 : Oprs w5 w.heap.size v5 (L ++ [F j]).length (nth (L ++ [F j])) := by
          refine ⟨?_, fun e => by have := (hne5.1 e).2; omega⟩
          rw [List.length_append, List.length_singleton, kCells_snoc]
          exact hown5
        have hM5 : MapV w5 b ks := hM4.of_block (hgrow5.block b hM4.lt (hM4.ne_own hU4.out))
        have B5 : Below w.heap.size w w5 := B4.grown hgrow5 B4.size (fun x hx => ownBlock_ge hU4.out.1 hx)
        obtain ⟨L1, hL1⟩ : ∃ l, L ++ [F j] = l := ⟨_, rfl⟩
        rw [hL1] at hU5
        obtain ⟨g5, c5, rfl, -⟩ := Que.of_oprs hU5
        clear hown5 hgrow5 hne5 hM4 hU4 B4 a4 f0 f1 f2 f3 f4 f5 f6 f7 f8 f9 f10 f11 hW4
        have hLl : L1.length = L.length + 1 := by rw [← hL1]; simp
        have hL2 : L1.length ≤ 192 := by omega
        have hLR : ∀ i, i < L1.length → kR (nth L1 i) := fun i hi => by
          rw [← hL1] at hi ⊢
          rcases List.mem_append.1 (nth_mem hi) with h | h
          · obtain ⟨t, ht, e⟩ := hMd.of _ h; rw [e]; exact hR t (by omega)
          · rw [List.mem_singleton.1 h]; exact hR j hlt
        have hkne : ks ≠ [] := fun e => by have := hMd.grows.has (kV oneK) (by simp); rw [e] at this; cases this
        have hLl' : Hid (L1.length = L.length + 1) := hLl
        have hL1' : Hid (L ++ [F j] = L1) := hL1
        clear hLl hL1
        go_wp2_with fail
        refine (growBy_any hM5 hkne hMd.grows.right hMd.grows.few hU5 hLR hL2).mono ?_
        rintro e w6 ⟨hor, g6⟩
        have B6 : Below w.heap.size w w6 := B5.grown g6 B5.size (fun k e => by cases e; omega)
        rcases hor with ⟨rfl, ks6, hM6, hG6, hC6⟩ | ⟨rfl, hbad⟩
        · have hU6 : Hid (Oprs w6 w.heap.size (.slice (some ⟨g5, 0, none⟩) L1.length c5) L1.length (nth L1)) := ⟨hU5.1.kept g6 (.inr (fun e => hM5.ne_own hU5 e.symm)), hU5.2⟩
          have hMd6 : MadeG (j + 1) F L1 ks6 := by
            have e := hL1'.out
            subst e
            exact hMd.next (hR j hlt) hG6 hC6
          clear hU5 hM5 B5 g6 hG6 hC6
          go_wp2
          exact ⟨⟨j + 1, L1, g5, c5, ks6, by omega, by go_num, rfl, hU6, by have := hLl'.out; omega, hM6, hMd6, B6⟩, by simp [intOf]; omega⟩
        · have hno : NoG n F := by
            have e := hL1'.out
            subst e
            exact hMd.bad hlt hbad
          obtain ⟨W7, hW7, a7, b7, z7⟩ := boxed w6 90 #[]
          have o7 : Hid (Oprs W7 w.heap.size (.slice (some ⟨w6.heap.size, 0, none⟩) 0 0) 0 (nth [])) := ⟨⟨rfl, .inr ⟨w6.heap.size, 0, #[], rfl, B6.size, a7, Nat.le_refl _, Nat.zero_le _, rfl, rfl⟩⟩, ne_nil _ _ _⟩
          clear hU5 hM5 B5 g6 a7 z7
          go_wp2
          go_ret
          have o8 := o7.out
          have B8 := B6.trans (b7.mono B6.size)
          rw [hb] at o8 B8
          first | exact ⟨.inr ⟨_, rfl, _, o8, hno⟩, B8⟩ | exact ⟨.inr ⟨_, rfl, _, o8⟩, B8⟩
      · have hin : kV (F j) ∈ ks.map kV := hr.1 rfl
        have hMd2 : MadeG (j + 1) F L ks := ⟨hMd.grows, hMd.closed, fun u hu => by obtain ⟨t, h1, h2⟩ := hMd.of u hu; exact ⟨t, by omega, h2⟩, fun t ht => by
          by_cases e : t = j
          · rw [e]; exact hin
          · exact hMd.has t (by omega)⟩
        go_wp2
        exact ⟨⟨j + 1, L, gu, cu, ks, by omega, by go_num, rfl, hU3, by omega, hM3, hMd2, B3⟩, by simp [intOf]; omega⟩
    · obtain rfl : j = n := by omega
      have hkne : ks ≠ [] := fun e => by have := hMd.grows.has (kV oneK) (by simp); rw [e] at this; cases this
      have hfew := hMd.grows.few
      go_wp2_with fail
      refine (sorted_any hM (fun k hk => small_R (hMd.grows.right k hk)) hkne (by omega)).mono ?_
      rintro e w5 ⟨v, G, rfl, hG, hp, hs, b5⟩
      go_wp2
      go_ret
      have B8 := B.trans (b5.mono B.size)
      rw [hb] at B8
      refine ⟨.inl ⟨v, rfl, ks.length, G, ⟨ownsRow_base_a hG.1 (by have := B.size; omega), hG.2⟩, L, ks, rfl, hM.nodup, by simpa using hp, hs, hMd⟩, B8⟩
end Go.Proofs.YtiocneailhplkaaGreat
/-
  What a list of right operators makes is the list itself, in order, just if it is a group. No function of the program.
-/
namespace Go.Proofs.YtiocneailhplkaaGreat
open Go.RowKit

theorem kV_ext {x y : Nat → Int} : kV x = kV y ↔ (∀ j, j < 9 → x j = y j) ∧ ∀ i, i < 3 → x (9 + i) = y (9 + i) := by
  rw [kV_inj, lexC_zero]
  constructor
  · exact fun h => ⟨fun j hj => h j (by omega), fun i hi => h (9 + i) (by omega)⟩
  · rintro ⟨h1, h2⟩ j hj
    by_cases e : j < 9
    · exact h1 j e
    · have := h2 (j - 9) (by omega)
      rwa [show 9 + (j - 9) = j by omega] at this
theorem mulM_congr {f f' g g' : Nat → Int} (h1 : ∀ j, j < 9 → f j = f' j) (h2 : ∀ j, j < 9 → g j = g' j) (i : Nat) (hi : i < 9) : mulM f g i = mulM f' g' i := by
  rw [mulM_at, mulM_at, h1 _ (by omega), h1 _ (by omega), h1 _ (by omega), h2 _ (by omega), h2 _ (by omega), h2 _ (by omega)]
theorem behV_congr {f f' h h' k k' : Nat → Int} (h1 : ∀ j, j < 9 → f j = f' j) (h2 : ∀ j, j < 3 → h j = h' j) (h3 : ∀ j, j < 3 → k j = k' j) (i : Nat) (hi : i < 3) : behV f h k i = behV f' h' k' i := by
  unfold behV
  rw [movV_at, movV_at, h1 _ (by omega), h1 _ (by omega), h1 _ (by omega), h3 _ (by omega), h3 _ (by omega), h3 _ (by omega), h2 _ hi]
theorem mulQ_lo (x y : Nat → Int) {j : Nat} (hj : j < 9) : mulQ x y j = mulM x y j := cat_lo _ _ hj
theorem mulQ_hi (x y : Nat → Int) (i : Nat) : mulQ x y (9 + i) = behV x (kh x) (kh y) i := cat_hi _ _ i
theorem mulQ_congr2 {x y y' : Nat → Int} (h : kV y = kV y') : kV (mulQ x y) = kV (mulQ x y') := by
  obtain ⟨h1, h2⟩ := kV_ext.1 h
  refine kV_ext.2 ⟨fun j hj => ?_, fun i hi => ?_⟩
  · rw [mulQ_lo _ _ hj, mulQ_lo _ _ hj]; exact mulM_congr (fun _ _ => rfl) h1 j hj
  · rw [mulQ_hi, mulQ_hi]; exact behV_congr (fun _ _ => rfl) (fun _ _ => rfl) h2 i hi
theorem mulQ_assoc (x z u : Nat → Int) : kV (mulQ (mulQ x z) u) = kV (mulQ x (mulQ z u)) := by
  refine kV_ext.2 ⟨fun j hj => ?_, fun i hi => ?_⟩
  · rw [mulQ_lo _ _ hj, mulQ_lo _ _ hj, mulM_congr (fun _ h => mulQ_lo x z h) (fun _ _ => rfl) j hj, mulM_assoc _ _ _ j hj]
    exact (mulM_congr (fun _ _ => rfl) (fun _ h => mulQ_lo z u h) j hj).symm
  · rw [mulQ_hi, mulQ_hi, behV_congr (f := mulQ x z) (f' := mulM x z) (h := kh (mulQ x z)) (h' := behV x (kh x) (kh z)) (k := kh u) (k' := kh u) (fun _ h => mulQ_lo x z h) (fun j _ => mulQ_hi x z j) (fun _ _ => rfl) i hi, behV_assoc _ _ _ _ _ i hi]
    exact (behV_congr (fun _ _ => rfl) (fun _ _ => rfl) (fun j _ => mulQ_hi z u j) i hi).symm
theorem mulQ_one {x : Nat → Int} (hx : kR x) : kV (mulQ x oneK) = kV x := by
  refine kV_ext.2 ⟨fun j hj => ?_, fun i hi => ?_⟩
  · rw [mulQ_lo _ _ hj, mulM_congr (f := x) (f' := x) (g := oneK) (g' := oneF) (fun _ _ => rfl) (fun j h => cat_lo oneF (fun _ => 0) h) j hj]
    exact (mul_one x j hj).1
  · rw [mulQ_hi]
    have h0 : ∀ j, kh oneK j = 0 := fun j => cat_hi oneF (fun _ => 0) j
    unfold behV
    rw [movV_at, h0, h0, h0]
    have := hx.2.1 i hi
    unfold kh at this ⊢
    omega
theorem mulK_key (a b : OpD) : kV (mulK a b) = kV (mulQ a.key b.key) := by
  refine kV_ext.2 ⟨fun j hj => ?_, fun i hi => ?_⟩
  · rw [mulQ_lo _ _ hj]
    unfold mulK
    rw [cat_lo _ _ hj]
    exact (mulM_congr (fun j h => cat_lo _ _ h) (fun j h => cat_lo _ _ h) j hj).symm
  · rw [mulQ_hi]
    unfold mulK
    rw [cat_hi]
    exact (behV_congr (fun j h => cat_lo _ _ h) (fun j _ => cat_hi _ _ j) (fun j _ => cat_hi _ _ j) i hi).symm
theorem ok_R {o : OpD} (h : o.ok) : kR o.key := by
  obtain ⟨-, -, h1, h2, h3⟩ := h
  refine ⟨fun i hi => by unfold OpD.key; rw [cat_lo _ _ hi]; exact h1 i hi, fun i hi => by unfold OpD.key kh; rw [cat_hi]; exact h2 i hi, ?_⟩
  have e : det3 o.key = det3 o.f := by
    unfold det3 OpD.key
    simp only [cat_lo o.f o.h (show 0 < 9 by omega), cat_lo o.f o.h (show 1 < 9 by omega), cat_lo o.f o.h (show 2 < 9 by omega), cat_lo o.f o.h (show 3 < 9 by omega), cat_lo o.f o.h (show 4 < 9 by omega), cat_lo o.f o.h (show 5 < 9 by omega), cat_lo o.f o.h (show 6 < 9 by omega), cat_lo o.f o.h (show 7 < 9 by omega), cat_lo o.f o.h (show 8 < 9 by omega)]
  rw [e]; exact h3
/-- The list's values. -/
def FV (n : Nat) (A : Nat → OpD) : List Value := (List.range n).map fun i => kV (A i).key
theorem mem_FV {n : Nat} {A : Nat → OpD} {v : Value} : v ∈ FV n A ↔ ∃ i, i < n ∧ v = kV (A i).key := by
  unfold FV
  rw [List.mem_map]
  constructor
  · rintro ⟨i, hi, e⟩; exact ⟨i, List.mem_range.1 hi, e.symm⟩
  · rintro ⟨i, hi, e⟩; exact ⟨i, List.mem_range.2 hi, e.symm⟩
theorem FV_nodup {n : Nat} {A : Nat → OpD} (h : Rises n A) : (FV n A).Nodup := by
  unfold FV List.Nodup
  rw [List.pairwise_iff_getElem]
  intro i j hi hj hij
  simp at hi hj
  simp only [List.getElem_map, List.getElem_range]
  intro e
  have := h.lt hij hj
  rw [kV_inj.1 e] at this
  omega
theorem reach_in {n : Nat} {A : Nat → OpD} (hG : isG n A) {L : List (Nat → Int)} (hL : ∀ u ∈ L, ∃ t, t < n ∧ u = (A t).key) {x : Nat → Int} (h : Reach [kV oneK] L.length (nth L) x) : kV x ∈ FV n A := by
  obtain ⟨-, -, -, ⟨i1, hi1, e1⟩, hcl⟩ := hG
  induction h with
  | base h => rw [List.mem_singleton] at h; exact mem_FV.2 ⟨i1, hi1, h.trans (kV_inj.2 e1).symm⟩
  | step h1 h2 h3 ih =>
    obtain ⟨i, hi, e⟩ := mem_FV.1 ih
    obtain ⟨t, ht, et⟩ := hL _ (nth_mem h2)
    obtain ⟨j, hj, ej⟩ := hcl i t hi ht
    refine mem_FV.2 ⟨j, hj, ?_⟩
    rw [h3, mulQ_congr e, et, ← mulK_key, kV_inj.2 ej]
theorem noG_not {n : Nat} {A : Nat → OpD} (h : NoG n (fun i => (A i).key)) : ¬ isG n A := by
  intro hG
  obtain ⟨L, hL, hb⟩ := h
  rcases hb with ⟨x, h1, h2⟩ | ⟨ls, h1, h2, h3⟩
  · obtain ⟨i, hi, e⟩ := mem_FV.1 (reach_in hG hL h1)
    exact h2 (kR_congr e.symm (ok_R (hG.2.1 i hi)))
  · have := h2.length_le_of_subset (l₂ := FV n A) (fun v hv => by
      obtain ⟨x, hx, rfl⟩ := List.mem_map.1 hv
      exact reach_in hG hL (h3 x hx))
    simp [FV, h1] at this
    have := hG.1
    omega
/-- In order. -/
def leV (a b : Value) : Prop := ∃ x y, a = kV x ∧ b = kV y ∧ ¬ lexC 12 y x < 0
theorem leV_iff {x y : Nat → Int} : leV (kV x) (kV y) ↔ ¬ lexC 12 y x < 0 := by
  constructor
  · rintro ⟨x', y', e1, e2, h⟩
    have h1 := lexC_zero.1 (kV_inj.1 e1)
    have h2 := lexC_zero.1 (kV_inj.1 e2)
    rwa [lexC_congr h2 h1]
  · exact fun h => ⟨x, y, rfl, rfl, h⟩
theorem made_iff {n m : Nat} {A : Nat → OpD} {G : Nat → Nat → Int} {L ks : List (Nat → Int)} (hok : ∀ i, i < n → (A i).ok) (hn : n ≤ 192) (hm : m = ks.length) (hnd : (ks.map kV).Nodup) (hp : (((List.range m).map G).map kV).Perm (ks.map kV))
    (hs : ∀ i j, i < j → j < m → ¬ lexC 12 (G j) (G i) < 0) (hM : MadeG n (fun i => (A i).key) L ks) : (m = n ∧ ∀ i, i < m → lexC 12 (G i) (A i).key = 0) ↔ isG n A := by
  have hGn : (((List.range m).map G).map kV).Nodup := hp.nodup_iff.2 hnd
  constructor
  · rintro ⟨rfl, he⟩
    have hFV : FV m A = ((List.range m).map G).map kV := by
      unfold FV
      rw [List.map_map]
      apply List.map_congr_left
      intro i hi
      exact (kV_inj.2 (he i (List.mem_range.1 hi))).symm
    have hin : ∀ v, v ∈ ks.map kV ↔ v ∈ FV m A := fun v => by rw [hFV]; exact hp.mem_iff.symm
    have hmul : ∀ y, Reach [kV oneK] L.length (nth L) y → ∀ x ∈ ks, kV (mulQ x y) ∈ ks.map kV := by
      intro y hy
      induction hy with
      | base h =>
        intro x hx
        rw [List.mem_singleton] at h
        rw [mulQ_congr2 h, mulQ_one (hM.grows.right x hx)]
        exact List.mem_map_of_mem hx
      | step h1 h2 h3 ih =>
        intro x hx
        obtain ⟨z, hz, ez⟩ := List.mem_map.1 (ih x hx)
        have := hM.closed z hz _ h2
        rw [mulQ_congr ez, mulQ_assoc] at this
        rw [mulQ_congr2 h3]
        exact this
    refine ⟨hn, hok, fun i hi => ?_, ?_, fun i k hi hk => ?_⟩
    · have h1 := hs i (i + 1) (by omega) hi
      have e1 := lexC_zero.1 (he i (by omega))
      have e2 := lexC_zero.1 (he (i + 1) hi)
      rw [← lexC_congr e1 e2]
      rcases lexC_range 12 (G i) (G (i + 1)) with h | h | h
      · omega
      · exfalso
        unfold List.Nodup at hGn
        rw [List.pairwise_iff_getElem] at hGn
        have := hGn i (i + 1) (by simp; omega) (by simp; omega) (by omega)
        simp only [List.getElem_map, List.getElem_range] at this
        exact this (kV_inj.2 h)
      · exact absurd (lexC_pos.1 (by omega : 0 < lexC 12 (G i) (G (i + 1)))) h1
    · obtain ⟨i, hi, e⟩ := mem_FV.1 ((hin _).1 (hM.grows.has (kV oneK) (by simp)))
      exact ⟨i, hi, kV_inj.1 e.symm⟩
    · obtain ⟨x, hx, ex⟩ := List.mem_map.1 (hM.has i hi)
      obtain ⟨y, hy, ey⟩ := List.mem_map.1 (hM.has k hk)
      have := hmul y (hM.grows.reach y hy) x hx
      rw [mulQ_congr ex, mulQ_congr2 ey, ← mulK_key] at this
      obtain ⟨j, hj, ej⟩ := mem_FV.1 ((hin _).1 this)
      exact ⟨j, hj, kV_inj.1 ej.symm⟩
  · intro hG
    have hperm : (((List.range m).map G).map kV).Perm (FV n A) := by
      refine hp.trans ((List.perm_ext_iff_of_nodup hnd (FV_nodup hG.2.2.1)).2 fun v => ⟨fun hv => ?_, fun hv => ?_⟩)
      · obtain ⟨x, hx, rfl⟩ := List.mem_map.1 hv
        exact reach_in hG hM.of (hM.grows.reach x hx)
      · obtain ⟨i, hi, rfl⟩ := mem_FV.1 hv
        exact hM.has i hi
    have hmn : m = n := by have := hperm.length_eq; simpa [FV] using this
    subst hmn
    have heq : ((List.range m).map G).map kV = FV m A := by
      refine List.Perm.eq_of_pairwise (le := leV) ?_ ?_ ?_ hperm
      · intro a b ha hb h1 h2
        obtain ⟨x, y, rfl, rfl, h⟩ := h1
        rw [leV_iff] at h2
        refine kV_inj.2 ?_
        rcases lexC_range 12 x y with e | e | e
        · exact absurd (by omega : lexC 12 x y < 0) h2
        · exact e
        · exact absurd (lexC_pos.1 (by omega : 0 < lexC 12 x y)) h
      · rw [List.pairwise_iff_getElem]
        intro i j hi hj hij
        simp only [List.getElem_map, List.getElem_range]
        simp at hj
        exact leV_iff.2 (hs i j hij hj)
      · unfold FV
        rw [List.pairwise_iff_getElem]
        intro i j hi hj hij
        simp only [List.getElem_map, List.getElem_range]
        simp at hj
        rw [leV_iff]
        intro h
        exact lexC_irrefl 12 _ (lexC_trans (hG.2.2.1.lt hij hj) h)
    refine ⟨rfl, fun i hi => ?_⟩
    have : (((List.range m).map G).map kV)[i]'(by simp; omega) = (FV m A)[i]'(by simp [FV]; omega) := by simp only [heq]
    simp only [List.getElem_map, List.getElem_range, FV] at this
    exact kV_inj.1 this
end Go.Proofs.YtiocneailhplkaaGreat
/-
  A list of operators held against what it generates; the program's GroupOk. Walked.
-/
namespace Go.Proofs.YtiocneailhplkaaGreat
open Go.RowKit

/-- What groupOf tells. -/
def GrpOf (w' : World) (base n : Nat) (A : Nat → OpD) (v : Value) : Prop := (isG n A ∧ Oprs w' base v n (fun i => (A i).key)) ∨ (¬ isG n A ∧ ∃ F, Oprs w' base v 0 F)
theorem grp_empty {w : World} {base n : Nat} {A : Nat → OpD} (hn : ¬ isG n A) (hb : base ≤ w.heap.size) : GrpOf (w.alloc (.cells #[] 90)) base n A (.slice (some ⟨w.heap.size, 0, none⟩) 0 0) :=
  .inr ⟨hn, nth [], ⟨rfl, .inr ⟨w.heap.size, 0, #[], rfl, hb, at_new 90 w #[], Nat.le_refl _, Nat.zero_le _, rfl, rfl⟩⟩, ne_nil _ _ _⟩
theorem oprs_base {w : World} {base base' n : Nat} {v : Value} {F : Nat → Nat → Int} (h : Oprs w base v n F) (hb : base' ≤ base) : Oprs w base' v n F := ⟨ownsRow_base_a h.1 hb, h.2⟩
set_option maxRecDepth 100000 in
set_option maxHeartbeats 1600000 in
theorem groupOf_any {w : World} {g n c : Nat} {A : Nat → OpD} (hL : OpsL w g n A) (hn : n ≤ 1048576) :
    Calls Tryz.prog 31 #[.slice (some ⟨g, 0, none⟩) n c] w fun e w' => (∃ v, e = .returned v ∧ GrpOf w' w.heap.size n A v) ∧ Below w.heap.size w w' := by
  have hbs : ∀ w, (Instr.buildSlice 60 0 #[]).run Tryz.prog w = .ok (.slice (some ⟨w.heap.size, 0, none⟩) 0 0) (w.alloc (.cells #[] 90)) := fun _ => by kernel_rfl
  have hn' : (n : Int) ≤ 1048576 := by omega
  by_cases h192 : n ≤ 192
  · have h1 : ¬ (192 : Int) < (n : Int) := by omega
    go_enter Tryz.func31, Tryz.ntmps31
    go_wp2_with fail
    refine (operatorsOf_any hL h192).mono ?_
    rintro e w1 ⟨hor, b1⟩
    rcases hor with ⟨v, rfl, ho, hok⟩ | ⟨v, rfl, hno⟩
    · obtain ⟨gl, cl, rfl, -⟩ := Que.of_oprs ho
      go_wp2_with fail
      refine (closureOf_any ho (fun i hi => ok_R (hok i hi)) h192).mono ?_
      rintro e w2 ⟨hcl, b2⟩
      have ho2 := ho.below b2
      have B2 := b1.trans (b2.mono b1.size)
      obtain ⟨v2, m, G, rfl, hG, hm, hiff⟩ : ∃ v2 m G, e = .returned v2 ∧ Oprs w2 w1.heap.size v2 m G ∧ m ≤ 192 ∧ (n ≠ 0 → ((m = n ∧ ∀ i, i < m → lexC 12 (G i) (A i).key = 0) ↔ isG n A)) := by
        rcases hcl with ⟨v2, m, G, L, ks, rfl, hG, hm, hnd, hp, hs, hM⟩ | ⟨v2, G, rfl, hG, hno⟩
        · exact ⟨v2, m, G, rfl, hG, by rw [hm]; exact hM.grows.few, fun _ => made_iff hok h192 hm hnd hp hs hM⟩
        · exact ⟨v2, 0, G, rfl, hG, by omega, fun h0 => ⟨fun h => absurd h.1.symm h0, fun h => absurd h (noG_not hno)⟩⟩
      clear hcl
      go_wp2_with fail
      refine (equal_any hG ho2 (by omega) (by omega)).mono ?_
      rintro e w3 ⟨⟨r, rfl, hr⟩, b3⟩
      have ho3 := ho2.below b3
      have B3 := B2.trans (b3.mono B2.size)
      have hw : w.heap.size ≤ w3.heap.size := B3.size
      cases r
      · have hni : ¬ isG n A := fun h => by
          by_cases h0 : n = 0
          · obtain ⟨i, hi, -⟩ := h.2.2.2.1; omega
          · have := hr.2 ((hiff h0).2 h); cases this
        have hE := grp_empty (w := w3) hni hw
        go_wp2
        go_ret
        exact ⟨⟨_, rfl, hE⟩, B3.trans (below_alloc _ _ |>.mono B3.size)⟩
      · have hE : GrpOf w3 w.heap.size n A (.slice (some ⟨gl, 0, none⟩) n cl) := by
          by_cases h0 : n = 0
          · subst h0
            exact .inr ⟨fun h => by obtain ⟨i, hi, -⟩ := h.2.2.2.1; omega, _, oprs_base ho3 (Nat.le_refl _)⟩
          · exact .inl ⟨(hiff h0).1 (hr.1 rfl), ho3⟩
        go_wp2
        go_ret
        exact ⟨⟨_, rfl, hE⟩, B3⟩
    · have hE := grp_empty (w := w1) (n := n) (A := A) (fun h => hno h.2.1) b1.size
      go_wp2
      go_ret
      exact ⟨⟨_, rfl, hE⟩, b1.trans (below_alloc _ _ |>.mono b1.size)⟩
  · have h1 : (192 : Int) < (n : Int) := by omega
    have hE := grp_empty (w := w) (n := n) (A := A) (fun h => h192 h.1) (Nat.le_refl _)
    go_enter Tryz.func31, Tryz.ntmps31
    go_wp2
    go_ret
    exact ⟨⟨_, rfl, hE⟩, below_alloc _ _⟩
end Go.Proofs.YtiocneailhplkaaGreat
/-
  The exact law of GroupOk, walked.
-/
namespace Go.Proofs.YtiocneailhplkaaGreat
open Go.RowKit

/-- A list that came in, opened. -/
theorem opsS_of {w : World} {x : Addr} {n : Nat} {V0 V1 : Nat → Value} (hc : ∀ i, i < n → w.cell? (x.add (i * 2)) = some (V0 i) ∧ w.cell? (x.add (i * 2 + 1)) = some (V1 i))
    (h0 : ∀ i, i < n → ∃ a len cap zs, V0 i = .slice a len cap ∧ IsRow .i64 w a len cap zs) (h1 : ∀ i, i < n → ∃ a len cap zs, V1 i = .slice a len cap ∧ IsRow .i64 w a len cap zs) : ∃ A, OpsS w (some x) n A := by
  have hch : ∀ i, ∃ D : OpD, i < n → ∃ a c b d, V0 i = .slice a D.n c ∧ V1 i = .slice b D.k d ∧ Src w a D.n D.f ∧ Src w b D.k D.h ∧ D.n ≤ maxLen ∧ D.k ≤ maxLen := by
    intro i
    by_cases hi : i < n
    · obtain ⟨a, l, c, zs, e, hr⟩ := h0 i hi
      obtain ⟨a', l', c', zs', e', hr'⟩ := h1 i hi
      obtain ⟨f, hf, hl, -⟩ := src_of hr
      obtain ⟨f', hf', hl', -⟩ := src_of hr'
      exact ⟨⟨l, f, l', f'⟩, fun _ => ⟨a, c, a', c', e, e', hf, hf', hl, hl'⟩⟩
    · exact ⟨⟨0, fun _ => 0, 0, fun _ => 0⟩, fun h => absurd h hi⟩
  refine ⟨fun i => (hch i).choose, ?_⟩
  by_cases hz : n = 0
  · exact .inl hz
  right
  obtain ⟨b, off, spot⟩ := x
  have hc0 := (hc 0 (by omega)).1
  have hspot : spot = none := by simpa [Addr.add] using World.cell?_spot hc0
  subst hspot
  refine ⟨b, off, rfl, ?_, fun i hi => ?_⟩
  · refine Nat.lt_of_not_le fun hb => ?_
    have : w.heap[b]? = none := Array.getElem?_eq_none hb
    simp [Addr.add, World.cell?, this] at hc0
  · obtain ⟨a, c, b', d, e, e', r⟩ := (hch i).choose_spec hi
    obtain ⟨c0, c1⟩ := hc i hi
    rw [Addr.add_lit, e] at c0
    rw [Addr.add_lit, e', ← Nat.add_assoc] at c1
    exact ⟨a, c, b', d, c0, c1, r⟩
end Go.Proofs.YtiocneailhplkaaGreat
