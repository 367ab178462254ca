/-
  Lists that are being drawn: what stands of them. No function of the law.
-/
import Derived.Test.YtloailicdoknbaaD15e
import Derived.Test.YtloailicdoknbaaDx
import Derived.Laws.AppendOwn
import Derived.ArgAppend
namespace Go.Proofs.Ytloailicdoknbaa
open Go.RowKit

def lCells (l : List Int) : List Value := l.map (Value.int .i64)
theorem lCells_one (l : List Int) : ∀ u ∈ lCells l, u.oneCell' = true := by
  intro u hu
  simp only [lCells, List.mem_map] at hu
  obtain ⟨x, -, rfl⟩ := hu
  rfl
theorem own_bel {w w' : World} {B : Nat} {e : TypeId} {k : Nat} {v : Value} {n : Nat} {xs : List Value} (h : w.ownsRow B e k v n xs) (hb : Below w.heap.size w w') : w'.ownsRow B e k v n xs := by
  refine ⟨h.1, h.2.imp id ?_⟩
  rintro ⟨g, c, cur, e1, e2, e3, e4⟩
  exact ⟨g, c, cur, e1, e2, (hb.block g (Array.getElem?_eq_some_iff.1 e3).1).trans e3, e4⟩
theorem own_ge {w : World} {base : Nat} {e : TypeId} {size : Nat} {v : Value} {n : Nat} {xs : List Value} (h : w.ownsRow base e size v n xs) {j : Nat} (hj : v.ownBlock = some j) : base ≤ j ∧ j < w.heap.size := by
  rcases h.2 with ⟨rfl, _⟩ | ⟨g, c, cur, rfl, hb, hh, _⟩
  · cases hj
  · cases hj
    exact ⟨hb, (Array.getElem?_eq_some_iff.1 hh).1⟩
theorem own_lt {w : World} {B : Nat} {t : TypeId} {e g n c : Nat} {xs : List Value} (h : w.ownsRow B t e (.slice (some ⟨g, 0, none⟩) n c) n xs) : B ≤ g ∧ g < w.heap.size ∧ n ≤ c ∧ c ≤ maxLen := by
  rcases h.2 with ⟨h1, _⟩ | ⟨g', c', cur, h1, hb, hh, hc1, hc2, -⟩
  · cases h1
  · simp only [Value.slice.injEq, Option.some.injEq, Addr.mk.injEq] at h1
    obtain ⟨⟨rfl, -, -⟩, -, rfl⟩ := h1
    exact ⟨hb, (Array.getElem?_eq_some_iff.1 hh).1, hc1, hc2⟩
theorem own_set {w : World} {B : Nat} {t : TypeId} {e g n c : Nat} {xs : List Value} (h : w.ownsRow B t e (.slice (some ⟨g, 0, none⟩) n c) n xs) (i : Nat) (u : Value) : (w.setCell ⟨g, i, none⟩ u).ownsRow B t e (.slice (some ⟨g, 0, none⟩) n c) n (xs.set i u) := by
  rcases h.2 with ⟨h1, _⟩ | ⟨g', c', cur, h1, hb, hh, hc1, hc2, hsz, ht⟩
  · cases h1
  · simp only [Value.slice.injEq, Option.some.injEq, Addr.mk.injEq] at h1
    obtain ⟨⟨rfl, -, -⟩, -, rfl⟩ := h1
    have hA : At t w g cur := hh
    refine ⟨by rw [List.length_set]; exact h.1, .inr ⟨g, c, _, rfl, hb, hA.set i u, hc1, hc2, by simpa using hsz, ?_⟩⟩
    rw [Array.toList_setIfInBounds, List.take_set, ht]
theorem own_setO {w : World} {B q i : Nat} {e : TypeId} {k : Nat} {v : Value} {n : Nat} {xs : List Value} (h : w.ownsRow B e k v n xs) (hq : v.ownBlock ≠ some q) (x : Value) : (w.setCell ⟨q, i, none⟩ x).ownsRow B e k v n xs := by
  refine ⟨h.1, h.2.imp id ?_⟩
  rintro ⟨g, c, cur, rfl, e2, e3, e4⟩
  exact ⟨g, c, cur, rfl, e2, (Below.heap_setCell _ _ _ _ (by intro e5; exact hq (by rw [e5]; rfl))).trans e3, e4⟩
theorem own_keptP {w w' : World} {B p : Nat} {e : TypeId} {k : Nat} {v : Value} {n : Nat} {xs : List Value} (h : w.ownsRow B e k v n xs) (hk : Kept p w w') (hp : p < B) : w'.ownsRow B e k v n xs := by
  refine ⟨h.1, h.2.imp id ?_⟩
  rintro ⟨g, cap, cur, rfl, h1, h2, h3⟩
  exact ⟨g, cap, cur, rfl, h1, (hk.block g (Array.getElem?_eq_some_iff.1 h2).1 (by omega)).trans h2, h3⟩
/-- A list of structs of E numbers that is being drawn. -/
structure LG (t : TypeId) (E : Nat) (w1 w : World) (p : Nat) (a : Option Addr) (len cap : Nat) (v : Value) (m : Nat) (l : List Int) : Prop where
  own : w.ownsRow w1.heap.size t E v m (lCells l)
  nn : v ≠ .slice none 0 0
  cur : Cur w p a len cap
  kp : Kept p w1 w
  pN : p < w1.heap.size
  sm : ∀ z ∈ l, is64 z
theorem lit64 {l : List Int} (h : l.all (fun z => decide (-9223372036854775808 ≤ z) && decide (z ≤ 9223372036854775807)) = true) (i : Nat) : is64 (l.getD i 0) := by
  by_cases hi : i < l.length
  · have h1 := (List.all_eq_true.1 h) (l.getD i 0) (by simp [List.getD_eq_getElem?_getD, hi])
    simp only [Bool.and_eq_true, decide_eq_true_eq] at h1
    exact h1
  · rw [List.getD_eq_getElem?_getD, List.getElem?_eq_none (by omega)]
    show is64 0
    unfold is64
    omega
theorem LG.draw {t : TypeId} {E : Nat} {w1 w w' : World} {p : Nat} {a : Option Addr} {len cap : Nat} {v : Value} {m : Nat} {l : List Int} (s : LG t E w1 w p a len cap v m l) (h : Dr w p a len cap w') : LG t E w1 w' p a len cap v m l :=
  ⟨own_keptP s.own h.1 s.pN, s.nn, h.2, s.kp.trans h.1, s.pN, s.sm⟩
theorem LG.below {t : TypeId} {E : Nat} {w1 w w' : World} {p : Nat} {a : Option Addr} {len cap : Nat} {v : Value} {m : Nat} {l : List Int} (s : LG t E w1 w p a len cap v m l) (hb : Below w.heap.size w w') : LG t E w1 w' p a len cap v m l :=
  ⟨own_bel s.own hb, s.nn, s.cur.kept hb, s.kp.trans (Kept.of_below hb), s.pN, s.sm⟩
theorem LG.st {t : TypeId} {E : Nat} {w1 w : World} {p : Nat} {a : Option Addr} {len cap : Nat} {v : Value} {m : Nat} {l : List Int} (s : LG t E w1 w p a len cap v m l) : Dr w p a len cap w := Dr.start s.cur
theorem LG.grow {t : TypeId} {E : Nat} {w1 w w' : World} {p : Nat} {a : Option Addr} {len cap : Nat} {v v' : Value} {m m' : Nat} {l l' : List Int} (s : LG t E w1 w p a len cap v m l) (h1 : w'.ownsRow w1.heap.size t E v' m' (lCells l ++ lCells l')) (hg : w.grownBy w' v.ownBlock) (hv : v' ≠ .slice none 0 0) (hz : ∀ z ∈ l', is64 z) : LG t E w1 w' p a len cap v' m' (l ++ l') := by
  have hge : ∀ j, v.ownBlock = some j → w1.heap.size ≤ j := fun j hj => (own_ge s.own hj).1
  have hk : Kept p w1 w' := ⟨hg.os.trans s.kp.os, hg.tape.trans s.kp.tape, hg.output.trans s.kp.output, Nat.le_trans s.kp.size hg.size, fun k hk hp => (hg.block k (Nat.lt_of_lt_of_le hk s.kp.size) (fun e => by have := hge k e.symm; omega)).trans (s.kp.block k hk hp)⟩
  obtain ⟨i, hh, hi, hc, hr⟩ := s.cur
  have hpl : p < w.heap.size := s.cur.lt
  have hc' : w'.heap[p]? = w.heap[p]? := hg.block p hpl (fun e => by have := hge p e.symm; have := s.pN; omega)
  refine ⟨by rw [lCells, List.map_append]; exact h1, hv, ⟨i, hh, hi, hc'.trans hc, ?_⟩, hk, s.pN, fun z h => (List.mem_append.1 h).elim (s.sm z) (hz z)⟩
  refine ⟨hr.1, hr.2.imp id ?_⟩
  rintro ⟨b, off, e, hb, hcell⟩
  refine ⟨b, off, e, hb, fun j hj => ?_⟩
  obtain ⟨x, h0, h2, h3⟩ := hcell j hj
  refine ⟨x, h0, h2, ?_⟩
  rw [World.cell?_of_block (w := w) (hg.block b (by omega) (fun e => by have := hge b e.symm; have := s.pN; omega))]
  exact h3
theorem LG.set {t : TypeId} {E : Nat} {w1 w : World} {p : Nat} {a : Option Addr} {len cap : Nat} {g m c : Nat} {l : List Int} (s : LG t E w1 w p a len cap (.slice (some ⟨g, 0, none⟩) m c) m l) (i : Nat) (x : Int) (hx : is64 x) : LG t E w1 (w.setCell ⟨g, i, none⟩ (.int .i64 x)) p a len cap (.slice (some ⟨g, 0, none⟩) m c) m (l.set i x) := by
  have hg := own_lt s.own
  have hk : Kept p w1 (w.setCell ⟨g, i, none⟩ (.int .i64 x)) := ⟨s.kp.os, s.kp.tape, s.kp.output, by simpa [World.setCell] using s.kp.size, fun k hk hp => (Below.heap_setCell _ _ _ _ (by show k ≠ g; omega)).trans (s.kp.block k hk hp)⟩
  obtain ⟨i', hh, hi, hc, hr⟩ := s.cur
  have hpg : p ≠ g := by have := s.pN; omega
  refine ⟨?_, s.nn, ⟨i', hh, hi, (Below.heap_setCell _ _ _ _ hpg).trans hc, hr.1, hr.2.imp id ?_⟩, hk, s.pN, fun z h => ?_⟩
  · have := own_set s.own i (.int .i64 x)
    rw [show (lCells l).set i (.int .i64 x) = lCells (l.set i x) by simp [lCells, List.map_set]] at this
    exact this
  · rintro ⟨b, off, e, hb, hcell⟩
    refine ⟨b, off, e, hb, fun j hj => ?_⟩
    obtain ⟨y, h0, h2, h3⟩ := hcell j hj
    refine ⟨y, h0, h2, ?_⟩
    rw [World.cell?_of_block (w := w) (Below.heap_setCell _ _ _ _ (by show b ≠ g; have := s.pN; omega))]
    exact h3
  · rcases List.mem_or_eq_of_mem_set h with h | h
    · exact s.sm z h
    · rw [h]; exact hx
theorem LG.setO {t : TypeId} {E : Nat} {w1 w : World} {p : Nat} {a : Option Addr} {len cap : Nat} {v : Value} {m : Nat} {l : List Int} (s : LG t E w1 w p a len cap v m l) {q : Nat} (hq : w1.heap.size ≤ q) (hv : v.ownBlock ≠ some q) (i : Nat) (x : Value) : LG t E w1 (w.setCell ⟨q, i, none⟩ x) p a len cap v m l := by
  have hk : Kept p w1 (w.setCell ⟨q, i, none⟩ x) := ⟨s.kp.os, s.kp.tape, s.kp.output, by simpa [World.setCell] using s.kp.size, fun k hk hp => (Below.heap_setCell _ _ _ _ (by show k ≠ q; omega)).trans (s.kp.block k hk hp)⟩
  obtain ⟨i', hh, hi, hc, hr⟩ := s.cur
  have hpq : p ≠ q := by have := s.pN; omega
  refine ⟨own_setO s.own hv x, s.nn, ⟨i', hh, hi, (Below.heap_setCell _ _ _ _ hpq).trans hc, hr.1, hr.2.imp id ?_⟩, hk, s.pN, s.sm⟩
  rintro ⟨b, off, e, hb, hcell⟩
  refine ⟨b, off, e, hb, fun j hj => ?_⟩
  obtain ⟨y, h0, h2, h3⟩ := hcell j hj
  refine ⟨y, h0, h2, ?_⟩
  rw [World.cell?_of_block (w := w) (Below.heap_setCell _ _ _ _ (by show b ≠ q; have := s.pN; omega))]
  exact h3
theorem LG.open {t : TypeId} {E : Nat} {w1 w : World} {p : Nat} {a : Option Addr} {len cap : Nat} {v : Value} {m : Nat} {l : List Int} (s : LG t E w1 w p a len cap v m l) : ∃ g c, v = .slice (some ⟨g, 0, none⟩) m c := by
  rcases s.own.2 with ⟨e1, -⟩ | ⟨gg, cc, cur, e1, -⟩
  · exact absurd e1 s.nn
  · exact ⟨gg, cc, e1⟩
theorem LG.cell {t : TypeId} {E : Nat} {w1 w : World} {p : Nat} {a : Option Addr} {len cap : Nat} {g m c : Nat} {l : List Int} (s : LG t E w1 w p a len cap (.slice (some ⟨g, 0, none⟩) m c) m l) {i : Nat} (hi : i < m * E) : w.cell? ⟨g, i, none⟩ = some (.int .i64 (l.getD i 0)) ∧ w.frozen? ⟨g, i, none⟩ = false := by
  rcases s.own.2 with ⟨h1, _⟩ | ⟨g', c', cur, h1, hb, hh, hc1, hc2, hsz, ht⟩
  · cases h1
  · simp only [Value.slice.injEq, Option.some.injEq, Addr.mk.injEq] at h1
    obtain ⟨⟨rfl, -, -⟩, -, rfl⟩ := h1
    have hl := s.own.1
    simp only [lCells, List.length_map] at hl
    have a1 : (lCells l)[i]? = some (.int .i64 (l.getD i 0)) := by
      have : i < l.length := by omega
      simp [lCells, this]
    rw [← ht, List.getElem?_take_of_lt hi] at a1
    exact ⟨by simpa [World.cell?, hh] using a1, by simp [World.frozen?, hh]⟩
theorem LG.len {t : TypeId} {E : Nat} {w1 w : World} {p : Nat} {a : Option Addr} {len cap : Nat} {v : Value} {m : Nat} {l : List Int} (s : LG t E w1 w p a len cap v m l) : l.length = m * E := by
  have hl := s.own.1
  simpa [lCells] using hl
theorem At.keptP {t : TypeId} {w w' : World} {p q : Nat} {vs : Array Value} (h : At t w q vs) (hk : Kept p w w') (hq : q ≠ p) : At t w' q vs := (hk.block q h.lt hq).trans h
theorem news4d {w : World} {t : TypeId} {g : Nat} {x y z s : Int} (h : At t w g #[.int .i64 x, .int .i64 y, .int .i64 z, .int .i64 s]) : ∀ j u, (lCells [x, y, z, s])[j]? = some u → w.cell? ((⟨g, 0, none⟩ : Addr).add j) = some u := by
  intro j u hu
  rcases j with _ | _ | _ | _ | j
  · simp [lCells] at hu; subst hu; exact h.cell 0 rfl
  · simp [lCells] at hu; subst hu; exact h.cell 1 rfl
  · simp [lCells] at hu; subst hu; exact h.cell 2 rfl
  · simp [lCells] at hu; subst hu; exact h.cell 3 rfl
  · simp [lCells] at hu
theorem news3d {w : World} {t : TypeId} {g : Nat} {x y z : Int} (h : At t w g #[.int .i64 x, .int .i64 y, .int .i64 z]) : ∀ j u, (lCells [x, y, z])[j]? = some u → w.cell? ((⟨g, 0, none⟩ : Addr).add j) = some u := by
  intro j u hu
  rcases j with _ | _ | _ | j
  · simp [lCells] at hu; subst hu; exact h.cell 0 rfl
  · simp [lCells] at hu; subst hu; exact h.cell 1 rfl
  · simp [lCells] at hu; subst hu; exact h.cell 2 rfl
  · simp [lCells] at hu
theorem news1d {w : World} {t : TypeId} {g : Nat} {x : Int} (h : At t w g #[.int .i64 x]) : ∀ j u, (lCells [x])[j]? = some u → w.cell? ((⟨g, 0, none⟩ : Addr).add j) = some u := by
  intro j u hu
  rcases j with _ | j
  · simp [lCells] at hu; subst hu; exact h.cell 0 rfl
  · simp [lCells] at hu
theorem put3_atD {t : TypeId} {w : World} {q : Nat} {x0 x1 x2 : Value} (h : At t w q #[x0, x1, x2]) (v0 v1 v2 : Value) : At t (((w.setCell ⟨q, 0, none⟩ v0).setCell ⟨q, 1, none⟩ v1).setCell ⟨q, 2, none⟩ v2) q #[v0, v1, v2] := by
  simpa using ((h.set 0 v0).set 1 v1).set 2 v2
theorem infoSt : (Try.prog.info? 46).map (fun i => (i.zero, i.size, i.bytes)) = some (some (.agg #[.int .i64 0, .int .i64 0, .int .i64 0]), 3, 24) := by kernel_rfl
/-- A list drawn is a list of records. -/
theorem LG.recsD {t : TypeId} {E : Nat} {w1 w : World} {p : Nat} {a : Option Addr} {len cap : Nat} {g m c : Nat} {l : List Int} (s : LG t E w1 w p a len cap (.slice (some ⟨g, 0, none⟩) m c) m l) : Recs E w g m (fun i => l.getD i 0) := by
  refine ⟨(own_lt s.own).2.1, fun i hi => ?_⟩
  exact (s.cell hi).1
end Go.Proofs.Ytloailicdoknbaa
