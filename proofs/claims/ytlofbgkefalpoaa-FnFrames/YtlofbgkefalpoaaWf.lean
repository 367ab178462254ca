/-
  Lists of frames of one's own, gathered one by one.
-/
import Derived.Test.YtlofbgkefalpoaaZi2
namespace Go.Proofs.Ytlofbgkefalpoaa
open Go.RowKit

/-- A frame: its sides, its pixels' slice, its pixels. -/
abbrev FrD := Int × Int × Value × List Int
def fc (x : FrD) : List Value := [.int .i64 x.1, .int .i64 x.2.1, x.2.2.1]
def fCl (L : List FrD) : List Value := L.flatMap fc
theorem fCl_app (L M : List FrD) : fCl (L ++ M) = fCl L ++ fCl M := by simp [fCl]
theorem fCl_one (x : FrD) : fCl [x] = fc x := by simp [fCl]
theorem fCl_len : ∀ L : List FrD, (fCl L).length = L.length * 3
  | [] => rfl
  | x :: L => by
    show (fc x ++ fCl L).length = _
    rw [List.length_append, fCl_len L, List.length_cons]
    show 3 + _ = _
    omega
theorem fCl_at : ∀ (L : List FrD) (i : Nat) (hi : i < L.length), (fCl L)[i * 3]? = some (.int .i64 L[i].1) ∧ (fCl L)[i * 3 + 1]? = some (.int .i64 L[i].2.1) ∧ (fCl L)[i * 3 + 2]? = some L[i].2.2.1
  | [], i, hi => absurd hi (Nat.not_lt_zero _)
  | x :: L, 0, _ => ⟨rfl, rfl, rfl⟩
  | x :: L, i + 1, hi => by
    have h := fCl_at L i (by simpa using hi)
    have e : fCl (x :: L) = fc x ++ fCl L := rfl
    have l3 : (fc x).length = 3 := rfl
    rw [e]
    refine ⟨?_, ?_, ?_⟩
    · rw [List.getElem?_append_right (by omega), l3, show (i + 1) * 3 - 3 = i * 3 by omega]; exact h.1
    · rw [List.getElem?_append_right (by omega), l3, show (i + 1) * 3 + 1 - 3 = i * 3 + 1 by omega]; exact h.2.1
    · rw [List.getElem?_append_right (by omega), l3, show (i + 1) * 3 + 2 - 3 = i * 3 + 2 by omega]; exact h.2.2
/-- A list of frames in memory from B on. -/
structure Gf (w : World) (B : Nat) (v : Value) (L : List FrD) : Prop where
  own : w.ownsRow B 28 3 v L.length (fCl L)
  nn : v ≠ .slice none 0 0
  px : ∀ x ∈ L, w.ownsRow B 2 1 x.2.2.1 x.2.2.2.length (lI x.2.2.2)
  o : B ≤ w.heap.size
theorem own_grown {w w' : World} {B : Nat} {e : TypeId} {k : Nat} {v : Value} {n : Nat} {xs : List Value} {row : Option Nat} (h : w.ownsRow B e k v n xs) (hg : w.grownBy w' row) (hne : ∀ j, v.ownBlock = some j → some j ≠ row) : w'.ownsRow B e k v n xs := by
  refine ⟨h.1, h.2.imp id ?_⟩
  rintro ⟨g, cap, cur, rfl, h1, h2, h3⟩
  exact ⟨g, cap, cur, rfl, h1, (hg.block g (Array.getElem?_eq_some_iff.1 h2).1 (hne g rfl)).trans h2, h3⟩
theorem Gf.below {w w' : World} {B : Nat} {v : Value} {L : List FrD} (h : Gf w B v L) (hb : Below w.heap.size w w') : Gf w' B v L :=
  ⟨own_below h.own hb, h.nn, fun x hx => own_below (h.px x hx) hb, Nat.le_trans h.o hb.size⟩
theorem Gf.kept {w w' : World} {B p : Nat} {v : Value} {L : List FrD} (h : Gf w B v L) (hk : Kept p w w') (hp : p < B) : Gf w' B v L :=
  ⟨own_kept h.own hk hp, h.nn, fun x hx => own_kept (h.px x hx) hk hp, Nat.le_trans h.o hk.size⟩
theorem Gf.open {w : World} {B : Nat} {v : Value} {L : List FrD} (h : Gf w B v L) : ∃ g c cur, v = .slice (some ⟨g, 0, none⟩) L.length c ∧ B ≤ g ∧ At 28 w g cur ∧ L.length ≤ c ∧ c ≤ maxLen ∧ ∀ j u, (fCl L)[j]? = some u → w.cell? ⟨g, j, none⟩ = some u := by
  rcases h.own.2 with ⟨e, _⟩ | ⟨g, c, cur, e, hb, hh, hc1, hc2, hsz, ht⟩
  · exact absurd e h.nn
  · refine ⟨g, c, cur, e, hb, hh, hc1, hc2, fun j u hu => ?_⟩
    have hj : j < L.length * 3 := by
      have := (List.getElem?_eq_some_iff.1 hu).1
      rwa [fCl_len] at this
    rw [← ht, List.getElem?_take_of_lt (by omega)] at hu
    simpa [World.cell?, hh] using hu
theorem Gf.at {w : World} {B g c : Nat} {L : List FrD} (h : Gf w B (.slice (some ⟨g, 0, none⟩) L.length c) L) {i : Nat} (hi : i < L.length) : w.cell? ⟨g, i * 3, none⟩ = some (.int .i64 L[i].1) ∧ w.cell? ⟨g, i * 3 + 1, none⟩ = some (.int .i64 L[i].2.1) ∧ w.cell? ⟨g, i * 3 + 2, none⟩ = some L[i].2.2.1 := by
  obtain ⟨g', c', cur, e, -, -, -, -, k⟩ := h.open
  simp only [Value.slice.injEq, Option.some.injEq, Addr.mk.injEq, and_true, true_and] at e
  obtain ⟨rfl, rfl⟩ := e
  obtain ⟨h1, h2, h3⟩ := fCl_at L i hi
  exact ⟨k _ _ h1, k _ _ h2, k _ _ h3⟩
theorem Gf.add {w w' : World} {B : Nat} {v v' : Value} {L : List FrD} {x : FrD} (h : Gf w B v L) (hx : w.ownsRow B 2 1 x.2.2.1 x.2.2.2.length (lI x.2.2.2)) (ho : w'.ownsRow B 28 3 v' (L.length + 1) (fCl L ++ fc x)) (hg : w.grownBy w' v.ownBlock) (hv : v' ≠ .slice none 0 0) : Gf w' B v' (L ++ [x]) := by
  obtain ⟨g, c, cur, rfl, -, ha, -⟩ := h.open
  have ne : ∀ y : FrD, w.ownsRow B 2 1 y.2.2.1 y.2.2.2.length (lI y.2.2.2) → ∀ j, y.2.2.1.ownBlock = some j → some j ≠ (Value.slice (some ⟨g, 0, none⟩) L.length c).ownBlock := fun y hy j e1 e2 => own_ne hy ha (by decide) (by rw [e1, e2]; rfl)
  refine ⟨?_, hv, fun y hy => ?_, Nat.le_trans h.o hg.size⟩
  · rw [List.length_append, List.length_singleton, fCl_app, fCl_one]
    exact ho
  · rcases List.mem_append.1 hy with z | z
    · exact own_grown (h.px y z) hg (ne y (h.px y z))
    · rw [List.mem_singleton.1 z]
      exact own_grown hx hg (ne x hx)
theorem Gf.start {w : World} {B g : Nat} (h : At 28 w g #[]) (hB : B ≤ g) : Gf w B (.slice (some ⟨g, 0, none⟩) 0 0) [] :=
  ⟨⟨rfl, .inr ⟨g, 0, #[], rfl, hB, h, Nat.le_refl _, Nat.zero_le _, rfl, rfl⟩⟩, (fun e => by cases e), fun x hx => (by cases hx), Nat.le_trans hB (Nat.le_of_lt h.lt)⟩
theorem own_set0 {w : World} {B g n c : Nat} {P : List Int} (h : w.ownsRow B 2 1 (.slice (some ⟨g, 0, none⟩) n c) n (lI P)) (x : Int) : (w.setCell ⟨g, 0, none⟩ (.int .i64 x)).ownsRow B 2 1 (.slice (some ⟨g, 0, none⟩) n c) n (lI (P.set 0 x)) := by
  rcases h with ⟨h0, h⟩
  refine ⟨by rw [← h0]; simp [lI], h.imp (fun ⟨e, _⟩ => by cases e) ?_⟩
  rintro ⟨g', c', cur, e, h1, h2, h3, h4, h5, h6⟩
  simp only [Value.slice.injEq, Option.some.injEq, Addr.mk.injEq, and_true, true_and] at e
  obtain ⟨rfl, rfl⟩ := e
  refine ⟨g, c, cur.setIfInBounds 0 (.int .i64 x), rfl, h1, (show At 2 w g cur from h2).set 0 _, h3, h4, by simpa using h5, ?_⟩
  rw [Array.toList_setIfInBounds, List.take_set, h6]
  simp [lI, List.map_set]
theorem Gf.setPix {w : World} {B gv : Nat} {v : Value} {L : List FrD} {cur : Array Value} (h : Gf w B v L) (ha : At 2 w gv cur) (x : Int) : ∃ L', L'.length = L.length ∧ (∀ M, (∀ y ∈ L, y.2.2.2.length ≤ M) → ∀ y ∈ L', y.2.2.2.length ≤ M) ∧ Gf (w.setCell ⟨gv, 0, none⟩ (.int .i64 x)) B v L' := by
  let F : FrD → FrD := fun y => @ite FrD (y.2.2.1.ownBlock = some gv) (Classical.propDecidable _) (y.1, y.2.1, y.2.2.1, y.2.2.2.set 0 x) y
  have hF : ∀ y, (F y).1 = y.1 ∧ (F y).2.1 = y.2.1 ∧ (F y).2.2.1 = y.2.2.1 ∧ (F y).2.2.2.length = y.2.2.2.length := fun y => by
    by_cases e : y.2.2.1.ownBlock = some gv
    · have : F y = (y.1, y.2.1, y.2.2.1, y.2.2.2.set 0 x) := if_pos e
      rw [this]
      exact ⟨rfl, rfl, rfl, List.length_set⟩
    · have : F y = y := if_neg e
      rw [this]
      exact ⟨rfl, rfl, rfl, rfl⟩
  have hcl : ∀ M : List FrD, fCl (M.map F) = fCl M := fun M => by
    induction M with
    | nil => rfl
    | cons y M ih =>
      show fc (F y) ++ fCl (M.map F) = fc y ++ fCl M
      rw [ih]
      unfold fc
      rw [(hF y).1, (hF y).2.1, (hF y).2.2.1]
  refine ⟨L.map F, by simp, fun M hM y hy => ?_, ?_, h.nn, fun y hy => ?_, ?_⟩
  · obtain ⟨z, hz, rfl⟩ := List.mem_map.1 hy
    rw [(hF z).2.2.2]
    exact hM z hz
  · rw [List.length_map, hcl]
    obtain ⟨g, c, cur', e, -, hg, -⟩ := h.open
    have hne : v.ownBlock ≠ some gv := fun e2 => by
      rw [e] at e2
      have : g = gv := by simpa [Value.ownBlock] using e2
      subst this
      have := hg.symm.trans ha
      simp at this
    exact own_setO h.own hne _
  · obtain ⟨z, hz, rfl⟩ := List.mem_map.1 hy
    have hz' := h.px z hz
    by_cases e : z.2.2.1.ownBlock = some gv
    · have e1 : F z = (z.1, z.2.1, z.2.2.1, z.2.2.2.set 0 x) := if_pos e
      rw [e1]
      show World.ownsRow _ B 2 1 z.2.2.1 (z.2.2.2.set 0 x).length (lI (z.2.2.2.set 0 x))
      rw [List.length_set]
      rcases hz'.2 with ⟨e2, _⟩ | ⟨g, c, cur', e2, -⟩
      · rw [e2] at e; cases e
      · rw [e2] at e hz' ⊢
        have : g = gv := by simpa [Value.ownBlock] using e
        subst this
        exact own_set0 hz' x
    · have e1 : F z = z := if_neg e
      rw [e1]
      exact own_setO hz' e _
  · rw [World.size_setCell]; exact h.o
/-- The parts of a slice. -/
def vA : Value → Option Addr
  | .slice a _ _ => a
  | _ => none
def vC : Value → Nat
  | .slice _ _ c => c
  | _ => 0
def lenV : Value → Nat
  | .slice _ n _ => n
  | _ => 0
def dF : FrD := (0, 0, .slice none 0 0, [])
def fW (L : List FrD) (i : Nat) : Int := (L.getD i dF).1
def fH (L : List FrD) (i : Nat) : Int := (L.getD i dF).2.1
def fA (L : List FrD) (i : Nat) : Option Addr := vA (L.getD i dF).2.2.1
def fC (L : List FrD) (i : Nat) : Nat := vC (L.getD i dF).2.2.1
def fN (L : List FrD) (i : Nat) : Nat := (L.getD i dF).2.2.2.length
def fP (L : List FrD) (i j : Nat) : Int := (L.getD i dF).2.2.2.getD j 0
theorem own_src {w : World} {B n : Nat} {v : Value} {P : List Int} (h : w.ownsRow B 2 1 v n (lI P)) (hn : P.length = n) : v = .slice (vA v) n (vC v) ∧ Src w (vA v) n (fun j => P.getD j 0) := by
  rcases h.2 with ⟨rfl, e⟩ | ⟨g, c, cur, rfl, hb, hh, hc1, hc2, hsz, ht⟩
  · have : n = 0 := by first | exact e | simp_all
    subst this
    exact ⟨rfl, .inl rfl⟩
  · refine ⟨rfl, .inr ⟨g, 0, rfl, (Array.getElem?_eq_some_iff.1 hh).1, fun i hi => ?_⟩⟩
    have a1 : (lI P)[i]? = some (.int .i64 (P.getD i 0)) := by
      have hi' : i < P.length := by omega
      simp [lI, hi']
    rw [← ht, List.getElem?_take_of_lt (by omega)] at a1
    rw [Nat.zero_add]
    simpa [World.cell?, hh] using a1
theorem Gf.fri {w : World} {B g c : Nat} {L : List FrD} (h : Gf w B (.slice (some ⟨g, 0, none⟩) L.length c) L) : Fri w g 0 L.length (fA L) (fC L) (fW L) (fH L) (fN L) (fP L) := by
  have e : ∀ i (hi : i < L.length), L.getD i dF = L[i] := fun i hi => by simp [hi]
  obtain ⟨g', c', cur, e0, -, ha, -⟩ := h.open
  simp only [Value.slice.injEq, Option.some.injEq, Addr.mk.injEq, and_true, true_and] at e0
  obtain ⟨rfl, rfl⟩ := e0
  refine ⟨ha.lt, fun i hi => ?_, fun i hi => ?_, fun i hi => ?_, fun i hi => ?_⟩
  · rw [Nat.zero_add, fW, e i hi]; exact (h.at hi).1
  · rw [Nat.zero_add, fH, e i hi]; exact (h.at hi).2.1
  · have := own_src (h.px L[i] (List.getElem_mem hi)) rfl
    rw [Nat.zero_add, fA, fC, fN, e i hi, ← this.1]
    exact (h.at hi).2.2
  · have := own_src (h.px L[i] (List.getElem_mem hi)) rfl
    unfold fA fN fP
    rw [e i hi]
    exact this.2
end Go.Proofs.Ytlofbgkefalpoaa
