/-
  slices.Equal at operators, laid.
-/
import Derived.Test.YtmjeplhigjlopaaGr
import Derived.Shelf.SlicesQ.Equal
import Derived.Laws.StructEq
import Derived.ChangeKeysEq
namespace Go.Proofs.Ytmjeplhigjlopaa
open Go.RowKit Go.Shelf Go.Lib

def eqR : Go.Shelf.Ren := ⟨fun | 8 => 71 | n => n, fun | 22 => 64 | 24 => 77 | n => n, fun | n => n⟩
theorem eqL : SlLaysQ.n8 Try.prog eqR := {
  mixed := by kernel_rfl,
  f8 := ⟨Try.f71.name, by decide, Try.func71.trans (congrArg some (by kernel_rfl))⟩,
  t0 := Try.underlying0, a0 := Try.isAgg0, z0 := Try.sizeOf0, v0 := Try.zeroValue0,
  t3 := Try.underlying3, a3 := Try.isAgg3, z3 := Try.sizeOf3, v3 := Try.zeroValue3,
  t4 := Try.underlying4, a4 := Try.isAgg4, z4 := Try.sizeOf4, v4 := Try.zeroValue4,
  t22 := Try.underlying64, a22 := Try.isAgg64, z22 := Try.sizeOf64, v22 := Try.zeroValue64 }
theorem run_items (d : Nat) (X Y : Array Value) (f h : Nat → Int) (w : World) : ∀ is : List Nat, (∀ i ∈ is, X[i]? = some (.int .i64 (f i)) ∧ Y[i]? = some (.int .i64 (h i))) →
    ∃ r : Bool, (Op.eqItems (d + 1) 2 (Try.prog.cellsOf 2) X Y is).run Try.prog w = .ok r w ∧ (r = true ↔ ∀ i ∈ is, f i = h i) := by
  intro is
  have hpl : Try.prog.plainKey 2 = true := by kernel_rfl
  have hc : Try.prog.cellsOf 2 = 1 := by kernel_rfl
  induction is with
  | nil => intro _; exact ⟨true, by simp [Op.eqItems], by simp⟩
  | cons i is ih =>
    intro hi
    obtain ⟨h1, h2⟩ := hi i (List.mem_cons_self ..)
    obtain ⟨r, hr, hiff⟩ := ih (fun j hj => hi j (List.mem_cons_of_mem _ hj))
    have p1 := run_part_plain (P := Try.prog) w hpl (off := i * Try.prog.cellsOf 2) (by rw [hc, Nat.mul_one]; exact h1)
    have p2 := run_part_plain (P := Try.prog) w hpl (off := i * Try.prog.cellsOf 2) (by rw [hc, Nat.mul_one]; exact h2)
    have p3 := run_equalIn_int (P := Try.prog) w d 2 .i64 .i64 (f i) (h i) Try.underlying2
    simp only [Op.eqItems, Sem.run_bind, p1, p2, p3, Result.andThen_ok]
    by_cases e : f i = h i
    · refine ⟨r, ?_, ?_⟩
      · simpa [e] using hr
      · rw [hiff]; simp [e]
    · exact ⟨false, by simp [e], by simp [e]⟩
theorem run_arr (d : Nat) {t n : Nat} (X Y : Array Value) (f h : Nat → Int) (w : World) (ht : Try.prog.underlying t = some (.array n 2)) (hX : ∀ i, i < n → X[i]? = some (.int .i64 (f i)) ∧ Y[i]? = some (.int .i64 (h i))) :
    ∃ r : Bool, (Op.equalIn (d + 2) t (.agg X) (.agg Y)).run Try.prog w = .ok r w ∧ (r = true ↔ ∀ i, i < n → f i = h i) := by
  obtain ⟨i, hi⟩ := info_of_underlying Try.underlying2
  obtain ⟨r, hr, hiff⟩ := run_items d X Y f h w (List.range n) (fun i hi => hX i (List.mem_range.1 hi))
  refine ⟨r, ?_, ?_⟩
  · rw [run_equalIn_array w (d + 1) X Y ht hi]; exact hr
  · rw [hiff]; simp
set_option maxRecDepth 100000 in
theorem neq65 : NeqAt Try.prog 77 (fun x : Nat → Int => .agg (kc x).toArray) (fun x y => decide (lexC 12 x y = 0)) := by
  refine ⟨fun x y w => ?_, GuardAt.agg _ (by kernel_rfl)⟩
  have hS : Try.prog.underlying 77 = some (.struct (Try.prog.fieldsOf 77)) := by kernel_rfl
  have hp : Try.prog.stoodInHeld 77 = false := by kernel_rfl
  obtain ⟨r1, hr1, hi1⟩ := run_arr 9997 #[.int .i64 (x 0), .int .i64 (x 1), .int .i64 (x 2), .int .i64 (x 3), .int .i64 (x 4), .int .i64 (x 5), .int .i64 (x 6), .int .i64 (x 7), .int .i64 (x 8)] #[.int .i64 (y 0), .int .i64 (y 1), .int .i64 (y 2), .int .i64 (y 3), .int .i64 (y 4), .int .i64 (y 5), .int .i64 (y 6), .int .i64 (y 7), .int .i64 (y 8)] x y w (t := 73) (n := 9) (by kernel_rfl) (fun i hi => by
    rcases (by omega : i = 0 ∨ i = 1 ∨ i = 2 ∨ i = 3 ∨ i = 4 ∨ i = 5 ∨ i = 6 ∨ i = 7 ∨ i = 8) with rfl | rfl | rfl | rfl | rfl | rfl | rfl | rfl | rfl <;> exact ⟨rfl, rfl⟩)
  obtain ⟨r2, hr2, hi2⟩ := run_arr 9997 #[.int .i64 (x 9), .int .i64 (x 10), .int .i64 (x 11)] #[.int .i64 (y 9), .int .i64 (y 10), .int .i64 (y 11)] (fun i => x (9 + i)) (fun i => y (9 + i)) w (t := 75) (n := 3) (by kernel_rfl) (fun i hi => by
    rcases (by omega : i = 0 ∨ i = 1 ∨ i = 2) with rfl | rfl | rfl <;> exact ⟨rfl, rfl⟩)
  simp only [kc]
  rw [run_neq_struct, show (10000 : Nat) = 9999 + 1 from rfl, run_equalIn_agg w 9999 77 _ _ hS hp]
  simp only [Program.fieldsOf, Try.underlying77]
  go_simp
  have hall : lexC 12 x y = 0 ↔ r1 = true ∧ r2 = true := by
    rw [lexC_zero, hi1, hi2]
    constructor
    · exact fun h => ⟨fun i hi => h i (by omega), fun i hi => h (9 + i) (by omega)⟩
    · rintro ⟨h1, h2⟩ j hj
      by_cases e : j < 9
      · exact h1 j e
      · have := h2 (j - 9) (by omega)
        rwa [show 9 + (j - 9) = j by omega] at this
  simp only [hall]
  cases r1 <;> cases r2 <;> simp
theorem equal_any {w : World} {base base' n m : Nat} {v v' : Value} {F G : Nat → Nat → Int} (h1 : Oprs w base v n F) (h2 : Oprs w base' v' m G) (hn : n ≤ 1000) (hm : m ≤ 1000) :
    Calls Try.prog 71 #[v, v'] w fun e w' => Tells e (n = m ∧ ∀ i, i < n → lexC 12 (F i) (G i) = 0) ∧ Below w.heap.size w w' := by
  obtain ⟨g, c, rfl, -⟩ := Que.of_oprs h1
  obtain ⟨g', c', rfl, -⟩ := Que.of_oprs h2
  have lx : ((List.range n).map F).length = n := by simp
  have ly : ((List.range m).map G).length = m := by simp
  have gx : ∀ (H : Nat → Nat → Int) (k j : Nat), j < k → ((List.range k).map H)[j]! = H j := fun H k j hj => by
    rw [List.getElem!_eq_getElem?_getD]; simp [hj]
  have := AnyQ.slices_Equal eqL 12 Try.isAgg77 Try.sizeOf77 kc (fun _ => rfl) _ neq65 g 0 n c g' 0 m c' ((List.range n).map F) ((List.range m).map G) w (by omega) (by omega) (by omega) (by omega)
    (fun j hj i u hu => by
      rw [lx] at hj
      rw [gx F n j hj] at hu
      have hi : i < 12 := (List.getElem?_eq_some_iff.1 hu).1
      rw [kc_get _ _ hi] at hu
      cases hu
      rw [Nat.zero_add]
      exact h1.get j i hj hi)
    (fun j hj i u hu => by
      rw [ly] at hj
      rw [gx G m j hj] at hu
      have hi : i < 12 := (List.getElem?_eq_some_iff.1 hu).1
      rw [kc_get _ _ hi] at hu
      cases hu
      rw [Nat.zero_add]
      exact h2.get j i hj hi)
  refine Calls.mono this ?_
  rintro e w' ⟨rfl, q, rfl⟩
  refine ⟨⟨_, rfl, ?_⟩, ?_⟩
  · rw [List.take_of_length_le (by omega), List.take_of_length_le (by omega)]
    by_cases e : n = m
    · subst e
      constructor
      · intro h
        refine ⟨rfl, fun i hi => ?_⟩
        apply Decidable.byContradiction
        intro hne
        have := allEq_elem (fun x y : Nat → Int => decide (lexC 12 x y = 0)) ((List.range n).map F) ((List.range n).map G) i (by omega) (by omega) (by rw [gx F n i hi, gx G n i hi]; exact decide_eq_false hne)
        rw [this] at h
        cases h
      · rintro ⟨-, h⟩
        exact allEq_all _ _ _ (by omega) (fun j hj => by rw [lx] at hj; rw [gx F n j hj, gx G n j hj]; exact decide_eq_true (h j hj))
    · have := allEq_len (fun x y : Nat → Int => decide (lexC 12 x y = 0)) ((List.range n).map F) ((List.range m).map G) (by omega)
      rw [this]
      exact ⟨fun h => (by cases h), fun h => absurd h.1 e⟩
  · exact ⟨rfl, rfl, rfl, Nat.le_refl _, fun _ _ => rfl⟩
end Go.Proofs.Ytmjeplhigjlopaa
