/-
  Lists of structs of K numbers that grow. No function of the program.
-/
import Derived.Test.YtehbpcoiciodhaaGreatK3a
import Derived.Test.YtehbpcoiciodhaaGreatMC
import Derived.Test.YtehbpcoiciodhaaGreatME
import Derived.Maps.AppendAt
import Derived.Lib.SliceRun
namespace Go.Proofs.YtehbpcoiciodhaaGreat
open Go.RowKit


theorem iCells_ext {f : Nat → Int} {n : Nat} {l : List Value} (h1 : l.length = n) (h2 : ∀ i, i < n → l[i]? = some (.int .i64 (f i))) : l = iCells f n := by
  apply List.ext_getElem?
  intro i
  by_cases hi : i < n
  · rw [h2 i hi, iCells_at f hi]
  · rw [List.getElem?_eq_none (by omega), List.getElem?_eq_none (by rw [iCells_len]; omega)]
/-- One list behind another. -/
def catK (f : Nat → Int) (k : Nat) (g : Nat → Int) : Nat → Int := fun i => if i < k then f i else g (i - k)
theorem iCells_catK (f g : Nat → Int) (k m : Nat) : iCells f k ++ iCells g m = iCells (catK f k g) (k + m) := by
  refine iCells_ext (by simp [iCells_len]) (fun i hi => ?_)
  by_cases e : i < k
  · rw [List.getElem?_append_left (by rw [iCells_len]; exact e), iCells_at f e, catK, if_pos e]
  · rw [List.getElem?_append_right (by rw [iCells_len]; omega), iCells_len, iCells_at g (by omega), catK, if_neg e]
theorem ArK.row {K : Nat} {t : TypeId} {w : World} {lo hi : Nat} {v : Value} {n : Nat} {f : Nat → Int} (h : ArK K t w lo hi v n f) : w.ownsRow lo t K v n (iCells f (n * K)) := by
  refine ⟨iCells_len _ _, ?_⟩
  rcases h with h | ⟨g, c, rfl, h1, h2, h3, h4, cur, k1, k2, k3⟩
  · exact .inl h
  · have hle : n * K ≤ c * K := Nat.mul_le_mul_right K h3
    refine .inr ⟨g, c, cur, rfl, h1, k1, h3, h4, k2, ?_⟩
    refine iCells_ext (by simp; omega) (fun i hi => ?_)
    rw [List.getElem?_take_of_lt hi]
    simpa using k3 i hi
theorem ArK.of_row {K : Nat} {t : TypeId} {w : World} {lo : Nat} {v : Value} {n : Nat} {f : Nat → Int} (h : w.ownsRow lo t K v n (iCells f (n * K))) : ArK K t w lo w.heap.size v n f := by
  rcases h.2 with h | ⟨g, c, cur, rfl, h1, h2, h3, h4, h5, h6⟩
  · exact .inl h
  · refine .inr ⟨g, c, rfl, h1, (Array.getElem?_eq_some_iff.1 h2).1, h3, h4, cur, h2, h5, fun i hi => ?_⟩
    have := iCells_at f hi
    rw [← h6, List.getElem?_take_of_lt hi] at this
    simpa using this
theorem recs_news {K : Nat} {w : World} {b m : Nat} {g : Nat → Int} (h : Recs K w b m g) : ∀ j u, (iCells g (m * K))[j]? = some u → w.cell? ((⟨b, 0, none⟩ : Addr).add j) = some u := by
  intro j u hu
  have hj : j < m * K := by
    have := (List.getElem?_eq_some_iff.1 hu).1
    rwa [iCells_len] at this
  rw [iCells_at g hj] at hu
  have hc := h.2 j hj
  rw [hu] at hc
  by_cases e : j = 0
  · subst e; simpa [Addr.add] using hc
  · simpa [Addr.add, e] using hc
theorem only_grown {v : Value} {w w' : World} (h : w.grownBy w' v.ownBlock) : Only v w w' := ⟨h.os, h.tape, h.output, h.size, fun k hk hv => h.block k hk (fun e => hv e.symm)⟩
theorem Only.belowK {K : Nat} {t : TypeId} {w0 w w' : World} {lo hi : Nat} {v : Value} {n : Nat} {f : Nat → Int} {N : Nat} (ho : Only v w w') (h : ArK K t w lo hi v n f) (hN : N ≤ lo) (hb : Below N w0 w) (hs : N ≤ w.heap.size) : Below N w0 w' :=
  hb.trans ⟨ho.os, ho.tape, ho.output, ho.size, fun k hk => ho.block k (by omega) (fun e => by have := h.lt e; omega)⟩
theorem At.only {t : TypeId} {w w' : World} {q : Nat} {v : Value} {vs : Array Value} (h : At t w q vs) (ho : Only v w w') (hq : v.ownBlock ≠ some q) : At t w' q vs := (ho.block q h.lt hq).trans h
theorem Recs.only {K : Nat} {w w' : World} {g n : Nat} {v : Value} {f : Nat → Int} (h : Recs K w g n f) (ho : Only v w w') (hq : v.ownBlock ≠ some g) : Recs K w' g n f :=
  ⟨Nat.lt_of_lt_of_le h.1 ho.size, fun i hi => (World.cell?_of_block (w := w) (ho.block g h.1 hq)).trans (h.2 i hi)⟩
/-- The box is none of the list's. -/
theorem ArK.box {K : Nat} {t u : TypeId} {w : World} {lo hi q : Nat} {v : Value} {n : Nat} {f : Nat → Int} {vs : Array Value} (h : ArK K t w lo hi v n f) (b : At u w q vs) (htu : t ≠ u) : v.ownBlock ≠ some q := by
  rcases h with ⟨rfl, -⟩ | ⟨g, c, rfl, _, _, _, _, l1⟩
  · intro e; cases e
  · intro e
    cases e
    exact l1.apartA b htu rfl
theorem ArK.nn {K : Nat} {t : TypeId} {w : World} {lo hi : Nat} {v : Value} {n : Nat} {f : Nat → Int} (h : ArK K t w lo hi v n f) (hv : v ≠ .slice none 0 0) : ∃ g c, v = .slice (some ⟨g, 0, none⟩) n c ∧ lo ≤ g ∧ n ≤ c ∧ c ≤ maxLen ∧ LaidK K t w g c n f := by
  rcases h with ⟨rfl, -⟩ | ⟨g, c, rfl, h1, _, h3, h4, h5⟩
  · exact absurd rfl hv
  · exact ⟨g, c, rfl, h1, h3, h4, h5⟩
section
variable {K bytes : Nat} {sl el : TypeId} {z : Value}
theorem run_appendK (hU : Tryz.prog.underlying sl = some (.slice el)) (hI : (Tryz.prog.info? el).map (fun i => (i.zero, i.size, i.bytes)) = some (some z, K, bytes)) (hz : z.cells.size = K) (hK : 0 < K) (hby : bytes ≤ 100)
    {w : World} {B hi : Nat} {v : Value} {n : Nat} {f : Nat → Int} (hA : ArK K el w B hi v n f) {ad : Option Addr} {m : Nat} (c : Nat) {g : Nat → Int} (hL : Ls K w ad m g) (hc0 : ad = none → m = 0 ∧ c = 0) (hnm : n + m ≤ 1000000) (hB : B ≤ w.heap.size) (ty : TypeId) :
    ∃ v' w', (Builtin.append_ #[sl, sl] ty #[v, .slice ad m c]).run Tryz.prog w = .ok v' w' ∧ ArK K el w' B w'.heap.size v' (n + m) (catK f (n * K) g) ∧ Only v w w' ∧ (v ≠ .slice none 0 0 → v' ≠ .slice none 0 0) := by
  obtain ⟨i0, hi0, hz0, hz1, hz2⟩ := info_parts hI
  have hb : (n + m) * bytes ≤ 140737488355328 := Nat.le_trans (Nat.mul_le_mul hnm hby) (by decide)
  have key : ∀ (a : Addr), (∀ j u, (iCells g (m * K))[j]? = some u → w.cell? (a.add j) = some u) → ∃ v' w', (Builtin.append_ #[sl, sl] ty #[v, .slice (some a) m c]).run Tryz.prog w = .ok v' w' ∧ ArK K el w' B w'.heap.size v' (n + m) (catK f (n * K) g) ∧ Only v w w' ∧ (v ≠ .slice none 0 0 → v' ≠ .slice none 0 0) := by
    intro a hn
    obtain ⟨v', w', hr, h2, h3, h4, h5⟩ := run_append_own_at (P := Tryz.prog) w B sl ty el i0 z K bytes hU hi0 hz0 hz1 hz2 hz hK v n _ hA.row a m c (iCells g (m * K)) (iCells_len _ _) hn (iCells_one _ _) (by unfold maxLen; omega) hb hB
    rw [iCells_catK, ← Nat.add_mul] at h2
    exact ⟨v', w', hr, ArK.of_row h2, only_grown h3, fun k e => k (h4.1 e).1⟩
  rcases hL with rfl | ⟨b, rfl, hr⟩
  · cases ad with
    | some a => exact key a (fun j u hu => by rw [List.getElem?_eq_none (by rw [iCells_len]; omega)] at hu; cases hu)
    | none =>
      obtain ⟨-, rfl⟩ := hc0 rfl
      have e0 : ∀ i, i < (n + 0) * K → catK f (n * K) g i = f i := fun i hi => by rw [catK, if_pos (by simpa using hi)]
      refine ⟨v, w, ?_, (hA.wide (Nat.le_refl _) (Nat.le_refl _) |>.same (fun i hi => (e0 i hi).symm) |> fun h => ?_), .of_below (Below.refl _ _), fun h => h⟩
      · rcases hA with ⟨rfl, rfl⟩ | ⟨b, d, rfl, _, _, h3, _⟩
        · simp [Builtin.append_, run_underlying hU, sizeOf, typeInfo, hi0, Builtin.lenOf, Builtin.firstCells]
        · simp [Builtin.append_, run_underlying hU, sizeOf, typeInfo, hi0, Builtin.lenOf, Builtin.firstCells, h3, storeCells]
      · refine h.imp id ?_
        rintro ⟨b, d, e1, e2, e3, e4, e5, e6⟩
        exact ⟨b, d, e1, e2, e6.lt, e4, e5, e6⟩
  · exact key ⟨b, 0, none⟩ (recs_news hr)
theorem stepK_append (hU : Tryz.prog.underlying sl = some (.slice el)) (hI : (Tryz.prog.info? el).map (fun i => (i.zero, i.size, i.bytes)) = some (some z, K, bytes)) (hz : z.cells.size = K) (hK : 0 < K) (hby : bytes ≤ 100)
    (w : World) {ops : Array Oper} {o : Oper} {a : Act} {KK : Act → World → Prop} {Q : Exit → Act → World → Prop} {E : Prop} (hgd : o.guard = none) (s x : Operand)
    (ho : o.op = .call { callee := .builtin .append, args := #[s, x], argTypes := #[sl, sl] })
    {B hi : Nat} {v : Value} {n : Nat} {f : Nat → Int} (hs : a.eval s = v) (hA : ArK K el w B hi v n f) {ad : Option Addr} {m c : Nat} {g : Nat → Int} (hx : a.eval x = .slice ad m c) (hL : Ls K w ad m g) (hc0 : ad = none → m = 0 ∧ c = 0) (hnm : n + m ≤ 1000000) (hB : B ≤ w.heap.size)
    (h : ∀ v' w', ArK K el w' B w'.heap.size v' (n + m) (catK f (n * K) g) → Only v w w' → (v ≠ .slice none 0 0 → v' ≠ .slice none 0 0) → KK (a.put o.dst v') w') :
    if Region.wanted o (yielded ops a.tmps) = true then Oper.wp Tryz.prog o a w KK Q else E := by
  have hw : Region.wanted o (yielded ops a.tmps) = true := by simp [Region.wanted, hgd]
  rw [if_pos hw]
  obtain ⟨v', w', hr, h2, h3, h4⟩ := run_appendK hU hI hz hK hby hA c hL hc0 hnm hB o.type
  unfold Oper.wp execOp
  simp only [ho, resolve, invoke, builtin, Sem.run_bind, Sem.run_pure, Result.andThen_ok, List.map_toArray, List.map_cons, List.map_nil, hs, hx, hr]
  exact h v' w' h2 h3 h4
theorem wpListK_append (hU : Tryz.prog.underlying sl = some (.slice el)) (hI : (Tryz.prog.info? el).map (fun i => (i.zero, i.size, i.bytes)) = some (some z, K, bytes)) (hz : z.cells.size = K) (hK : 0 < K) (hby : bytes ≤ 100)
    (w : World) {ops : Array Oper} {rest : List Oper} {o : Oper} {a : Act} {Q : Exit → Act → World → Prop} (hgd : o.guard = none) (s x : Operand)
    (ho : o.op = .call { callee := .builtin .append, args := #[s, x], argTypes := #[sl, sl] })
    {B hi : Nat} {v : Value} {n : Nat} {f : Nat → Int} (hs : a.eval s = v) (hA : ArK K el w B hi v n f) {ad : Option Addr} {m c : Nat} {g : Nat → Int} (hx : a.eval x = .slice ad m c) (hL : Ls K w ad m g) (hc0 : ad = none → m = 0 ∧ c = 0) (hnm : n + m ≤ 1000000) (hB : B ≤ w.heap.size)
    (h : ∀ v' w', ArK K el w' B w'.heap.size v' (n + m) (catK f (n * K) g) → Only v w w' → (v ≠ .slice none 0 0 → v' ≠ .slice none 0 0) → wpList Tryz.prog ops Q rest (a.put o.dst v') w') :
    wpList Tryz.prog ops Q (o :: rest) a w := by
  obtain ⟨v', w', hr, h2, h3, h4⟩ := run_appendK hU hI hz hK hby hA c hL hc0 hnm hB o.type
  refine wpList_plain hgd fun _ hK => ?_
  unfold Oper.wp execOp
  simp only [ho, resolve, invoke, builtin, Sem.run_bind, Sem.run_pure, Result.andThen_ok, List.map_toArray, List.map_cons, List.map_nil, hs, hx, hr]
  exact hK _ _ (h v' w' h2 h3 h4)
end
end Go.Proofs.YtehbpcoiciodhaaGreat
