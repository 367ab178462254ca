/-
  Lists that are being drawn: what stands of them. No function of the law.
-/
import Derived.Test.YtpelbbkkdmlmiaaF15a
import Derived.Test.YtpelbbkkdmlmiaaDx
import Derived.Laws.AppendOwn
import Derived.ArgAppend
namespace Go.Proofs.Ytpelbbkkdmlmiaa
open Go.RowKit

def lCells (l : List Int) : List Value := l.map (Value.int .i64)
theorem lCells_one (l : List Int) : ∀ u ∈ lCells l, u.oneCell' = true := by
  intro u hu
  simp only [lCells, List.mem_map] at hu
  obtain ⟨x, -, rfl⟩ := hu
  rfl
theorem own_bel {w w' : World} {B : Nat} {e : TypeId} {k : Nat} {v : Value} {n : Nat} {xs : List Value} (h : w.ownsRow B e k v n xs) (hb : Below w.heap.size w w') : w'.ownsRow B e k v n xs := by
  refine ⟨h.1, h.2.imp id ?_⟩
  rintro ⟨g, c, cur, e1, e2, e3, e4⟩
  exact ⟨g, c, cur, e1, e2, (hb.block g (Array.getElem?_eq_some_iff.1 e3).1).trans e3, e4⟩
theorem own_ge {w : World} {base : Nat} {e : TypeId} {size : Nat} {v : Value} {n : Nat} {xs : List Value} (h : w.ownsRow base e size v n xs) {j : Nat} (hj : v.ownBlock = some j) : base ≤ j ∧ j < w.heap.size := by
  rcases h.2 with ⟨rfl, _⟩ | ⟨g, c, cur, rfl, hb, hh, _⟩
  · cases hj
  · cases hj
    exact ⟨hb, (Array.getElem?_eq_some_iff.1 hh).1⟩
theorem own_lt {w : World} {B : Nat} {t : TypeId} {e g n c : Nat} {xs : List Value} (h : w.ownsRow B t e (.slice (some ⟨g, 0, none⟩) n c) n xs) : B ≤ g ∧ g < w.heap.size ∧ n ≤ c ∧ c ≤ maxLen := by
  rcases h.2 with ⟨h1, _⟩ | ⟨g', c', cur, h1, hb, hh, hc1, hc2, -⟩
  · cases h1
  · simp only [Value.slice.injEq, Option.some.injEq, Addr.mk.injEq] at h1
    obtain ⟨⟨rfl, -, -⟩, -, rfl⟩ := h1
    exact ⟨hb, (Array.getElem?_eq_some_iff.1 hh).1, hc1, hc2⟩
theorem own_set {w : World} {B : Nat} {t : TypeId} {e g n c : Nat} {xs : List Value} (h : w.ownsRow B t e (.slice (some ⟨g, 0, none⟩) n c) n xs) (i : Nat) (u : Value) : (w.setCell ⟨g, i, none⟩ u).ownsRow B t e (.slice (some ⟨g, 0, none⟩) n c) n (xs.set i u) := by
  rcases h.2 with ⟨h1, _⟩ | ⟨g', c', cur, h1, hb, hh, hc1, hc2, hsz, ht⟩
  · cases h1
  · simp only [Value.slice.injEq, Option.some.injEq, Addr.mk.injEq] at h1
    obtain ⟨⟨rfl, -, -⟩, -, rfl⟩ := h1
    have hA : At t w g cur := hh
    refine ⟨by rw [List.length_set]; exact h.1, .inr ⟨g, c, _, rfl, hb, hA.set i u, hc1, hc2, by simpa using hsz, ?_⟩⟩
    rw [Array.toList_setIfInBounds, List.take_set, ht]
theorem own_setO {w : World} {B q i : Nat} {e : TypeId} {k : Nat} {v : Value} {n : Nat} {xs : List Value} (h : w.ownsRow B e k v n xs) (hq : v.ownBlock ≠ some q) (x : Value) : (w.setCell ⟨q, i, none⟩ x).ownsRow B e k v n xs := by
  refine ⟨h.1, h.2.imp id ?_⟩
  rintro ⟨g, c, cur, rfl, e2, e3, e4⟩
  exact ⟨g, c, cur, rfl, e2, (Below.heap_setCell _ _ _ _ (by intro e5; exact hq (by rw [e5]; rfl))).trans e3, e4⟩
theorem own_keptP {w w' : World} {B p : Nat} {e : TypeId} {k : Nat} {v : Value} {n : Nat} {xs : List Value} (h : w.ownsRow B e k v n xs) (hk : Kept p w w') (hp : p < B) : w'.ownsRow B e k v n xs := by
  refine ⟨h.1, h.2.imp id ?_⟩
  rintro ⟨g, cap, cur, rfl, h1, h2, h3⟩
  exact ⟨g, cap, cur, rfl, h1, (hk.block g (Array.getElem?_eq_some_iff.1 h2).1 (by omega)).trans h2, h3⟩
/-- A list of structs of E numbers that is being drawn. -/
structure LG (t : TypeId) (E : Nat) (w1 w : World) (p : Nat) (a : Option Addr) (len cap : Nat) (v : Value) (m : Nat) (l : List Int) : Prop where
  own : w.ownsRow w1.heap.size t E v m (lCells l)
  nn : v ≠ .slice none 0 0
  cur : Cur w p a len cap
  kp : Kept p w1 w
  pN : p < w1.heap.size
theorem LG.draw {t : TypeId} {E : Nat} {w1 w w' : World} {p : Nat} {a : Option Addr} {len cap : Nat} {v : Value} {m : Nat} {l : List Int} (s : LG t E w1 w p a len cap v m l) (h : Dr w p a len cap w') : LG t E w1 w' p a len cap v m l :=
  ⟨own_keptP s.own h.1 s.pN, s.nn, h.2, s.kp.trans h.1, s.pN⟩
theorem LG.below {t : TypeId} {E : Nat} {w1 w w' : World} {p : Nat} {a : Option Addr} {len cap : Nat} {v : Value} {m : Nat} {l : List Int} (s : LG t E w1 w p a len cap v m l) (hb : Below w.heap.size w w') : LG t E w1 w' p a len cap v m l :=
  ⟨own_bel s.own hb, s.nn, s.cur.kept hb, s.kp.trans (Kept.of_below hb), s.pN⟩
theorem LG.st {t : TypeId} {E : Nat} {w1 w : World} {p : Nat} {a : Option Addr} {len cap : Nat} {v : Value} {m : Nat} {l : List Int} (s : LG t E w1 w p a len cap v m l) : Dr w p a len cap w := Dr.start s.cur
theorem LG.grow {t : TypeId} {E : Nat} {w1 w w' : World} {p : Nat} {a : Option Addr} {len cap : Nat} {v v' : Value} {m m' : Nat} {l l' : List Int} (s : LG t E w1 w p a len cap v m l) (h1 : w'.ownsRow w1.heap.size t E v' m' (lCells l ++ lCells l')) (hg : w.grownBy w' v.ownBlock) (hv : v' ≠ .slice none 0 0) : LG t E w1 w' p a len cap v' m' (l ++ l') := by
  have hge : ∀ j, v.ownBlock = some j → w1.heap.size ≤ j := fun j hj => (own_ge s.own hj).1
  have hk : Kept p w1 w' := ⟨hg.os.trans s.kp.os, hg.tape.trans s.kp.tape, hg.output.trans s.kp.output, Nat.le_trans s.kp.size hg.size, fun k hk hp => (hg.block k (Nat.lt_of_lt_of_le hk s.kp.size) (fun e => by have := hge k e.symm; omega)).trans (s.kp.block k hk hp)⟩
  obtain ⟨i, hh, hi, hc, hr⟩ := s.cur
  have hpl : p < w.heap.size := s.cur.lt
  have hc' : w'.heap[p]? = w.heap[p]? := hg.block p hpl (fun e => by have := hge p e.symm; have := s.pN; omega)
  refine ⟨by rw [lCells, List.map_append]; exact h1, hv, ⟨i, hh, hi, hc'.trans hc, ?_⟩, hk, s.pN⟩
  refine ⟨hr.1, hr.2.imp id ?_⟩
  rintro ⟨b, off, e, hb, hcell⟩
  refine ⟨b, off, e, hb, fun j hj => ?_⟩
  obtain ⟨x, h0, h2, h3⟩ := hcell j hj
  refine ⟨x, h0, h2, ?_⟩
  rw [World.cell?_of_block (w := w) (hg.block b (by omega) (fun e => by have := hge b e.symm; have := s.pN; omega))]
  exact h3
theorem LG.set {t : TypeId} {E : Nat} {w1 w : World} {p : Nat} {a : Option Addr} {len cap : Nat} {g m c : Nat} {l : List Int} (s : LG t E w1 w p a len cap (.slice (some ⟨g, 0, none⟩) m c) m l) (i : Nat) (x : Int) : LG t E w1 (w.setCell ⟨g, i, none⟩ (.int .i64 x)) p a len cap (.slice (some ⟨g, 0, none⟩) m c) m (l.set i x) := by
  have hg := own_lt s.own
  have hk : Kept p w1 (w.setCell ⟨g, i, none⟩ (.int .i64 x)) := ⟨s.kp.os, s.kp.tape, s.kp.output, by simpa [World.setCell] using s.kp.size, fun k hk hp => (Below.heap_setCell _ _ _ _ (by show k ≠ g; omega)).trans (s.kp.block k hk hp)⟩
  obtain ⟨i', hh, hi, hc, hr⟩ := s.cur
  have hpg : p ≠ g := by have := s.pN; omega
  refine ⟨?_, s.nn, ⟨i', hh, hi, (Below.heap_setCell _ _ _ _ hpg).trans hc, hr.1, hr.2.imp id ?_⟩, hk, s.pN⟩
  · have := own_set s.own i (.int .i64 x)
    rw [show (lCells l).set i (.int .i64 x) = lCells (l.set i x) by simp [lCells, List.map_set]] at this
    exact this
  · rintro ⟨b, off, e, hb, hcell⟩
    refine ⟨b, off, e, hb, fun j hj => ?_⟩
    obtain ⟨y, h0, h2, h3⟩ := hcell j hj
    refine ⟨y, h0, h2, ?_⟩
    rw [World.cell?_of_block (w := w) (Below.heap_setCell _ _ _ _ (by show b ≠ g; have := s.pN; omega))]
    exact h3
theorem LG.open {t : TypeId} {E : Nat} {w1 w : World} {p : Nat} {a : Option Addr} {len cap : Nat} {v : Value} {m : Nat} {l : List Int} (s : LG t E w1 w p a len cap v m l) : ∃ g c, v = .slice (some ⟨g, 0, none⟩) m c := by
  rcases s.own.2 with ⟨e1, -⟩ | ⟨gg, cc, cur, e1, -⟩
  · exact absurd e1 s.nn
  · exact ⟨gg, cc, e1⟩
theorem LG.cell {t : TypeId} {E : Nat} {w1 w : World} {p : Nat} {a : Option Addr} {len cap : Nat} {g m c : Nat} {l : List Int} (s : LG t E w1 w p a len cap (.slice (some ⟨g, 0, none⟩) m c) m l) {i : Nat} (hi : i < m * E) : w.cell? ⟨g, i, none⟩ = some (.int .i64 (l.getD i 0)) ∧ w.frozen? ⟨g, i, none⟩ = false := by
  rcases s.own.2 with ⟨h1, _⟩ | ⟨g', c', cur, h1, hb, hh, hc1, hc2, hsz, ht⟩
  · cases h1
  · simp only [Value.slice.injEq, Option.some.injEq, Addr.mk.injEq] at h1
    obtain ⟨⟨rfl, -, -⟩, -, rfl⟩ := h1
    have hl := s.own.1
    simp only [lCells, List.length_map] at hl
    have a1 : (lCells l)[i]? = some (.int .i64 (l.getD i 0)) := by
      have : i < l.length := by omega
      simp [lCells, this]
    rw [← ht, List.getElem?_take_of_lt hi] at a1
    exact ⟨by simpa [World.cell?, hh] using a1, by simp [World.frozen?, hh]⟩
theorem LG.len {t : TypeId} {E : Nat} {w1 w : World} {p : Nat} {a : Option Addr} {len cap : Nat} {v : Value} {m : Nat} {l : List Int} (s : LG t E w1 w p a len cap v m l) : l.length = m * E := by
  have hl := s.own.1
  simpa [lCells] using hl
theorem At.keptP {t : TypeId} {w w' : World} {p q : Nat} {vs : Array Value} (h : At t w q vs) (hk : Kept p w w') (hq : q ≠ p) : At t w' q vs := (hk.block q h.lt hq).trans h
theorem news4d {w : World} {t : TypeId} {g : Nat} {x y z s : Int} (h : At t w g #[.int .i64 x, .int .i64 y, .int .i64 z, .int .i64 s]) : ∀ j u, (lCells [x, y, z, s])[j]? = some u → w.cell? ((⟨g, 0, none⟩ : Addr).add j) = some u := by
  intro j u hu
  rcases j with _ | _ | _ | _ | j
  · simp [lCells] at hu; subst hu; exact h.cell 0 rfl
  · simp [lCells] at hu; subst hu; exact h.cell 1 rfl
  · simp [lCells] at hu; subst hu; exact h.cell 2 rfl
  · simp [lCells] at hu; subst hu; exact h.cell 3 rfl
  · simp [lCells] at hu
def sLen (v : Value) : Nat := match v with | .slice _ n _ => n | _ => 0
/-- All numbers of the list are small. -/
def BL (l : List Int) : Prop := ∀ x, x ∈ l → r100 x
theorem BL.app {l : List Int} {x y z s : Int} (h : BL l) (hx : r100 x) (hy : r100 y) (hz : r100 z) (hs : r100 s) : BL (l ++ [x, y, z, s]) := by
  intro u hu
  simp only [List.mem_append, List.mem_cons, List.not_mem_nil, or_false] at hu
  rcases hu with hu | rfl | rfl | rfl | rfl
  · exact h u hu
  · exact hx
  · exact hy
  · exact hz
  · exact hs
theorem BL.set {l : List Int} {x : Int} (h : BL l) (hx : r100 x) (i : Nat) : BL (l.set i x) := by
  intro u hu
  rcases List.mem_or_eq_of_mem_set hu with k | rfl
  · exact h u k
  · exact hx
theorem BL.at {l : List Int} (h : BL l) (i : Nat) : r100 (l.getD i 0) := by
  by_cases hi : i < l.length
  · have : l.getD i 0 = l[i] := by simp [hi]
    rw [this]
    exact h _ (List.getElem_mem hi)
  · have : l.getD i 0 = 0 := by simp [List.getD, List.getElem?_eq_none (Nat.le_of_not_lt hi)]
    rw [this]
    exact ⟨by omega, by omega⟩
theorem infoSg : (Try.prog.info? 49).map (fun i => (i.zero, i.size, i.bytes)) = some (some (.agg #[.int .i64 0, .int .i64 0, .int .i64 0, .int .i64 0]), 4, 32) := by kernel_rfl
end Go.Proofs.Ytpelbbkkdmlmiaa
