/-
  Lists of structs of K numbers of one's own memory: read, kept, marked. No function of the program.
-/
import Derived.Test.YtealbihplfpgeaaRk
import Derived.Test.YtealbihplfpgeaaKr
namespace Go.Proofs.Ytealbihplfpgeaa
open Go.RowKit

/-- A list of structs of its own memory, in a block from lo up to hi; or nothing. -/
def ArK (K : Nat) (t : TypeId) (w : World) (lo hi : Nat) (v : Value) (n : Nat) (f : Nat → Int) : Prop :=
  (v = .slice none 0 0 ∧ n = 0) ∨ ∃ g c, v = .slice (some ⟨g, 0, none⟩) n c ∧ lo ≤ g ∧ g < hi ∧ n ≤ c ∧ c ≤ maxLen ∧ LaidK K t w g c n f
/-- A list of structs of K numbers: at the beginning of a block, or empty. -/
def Ls (K : Nat) (w : World) (a : Option Addr) (n : Nat) (f : Nat → Int) : Prop := n = 0 ∨ ∃ g, a = some ⟨g, 0, none⟩ ∧ Recs K w g n f
theorem Ls.below {K : Nat} {w w' : World} {a : Option Addr} {n : Nat} {f : Nat → Int} (h : Ls K w a n f) (hb : Below w.heap.size w w') : Ls K w' a n f :=
  h.imp id (fun ⟨g, e, r⟩ => ⟨g, e, r.below hb⟩)
theorem Ls.some {K : Nat} {w : World} {a : Option Addr} {n k : Nat} {f : Nat → Int} (h : Ls K w a n f) (hk : k < n) : ∃ g, a = some ⟨g, 0, none⟩ ∧ Recs K w g n f := by
  rcases h with h | h
  · omega
  · exact h
theorem Recs.less {K : Nat} {w : World} {g n m : Nat} {f : Nat → Int} (h : Recs K w g n f) (hm : m ≤ n) : Recs K w g m f :=
  ⟨h.1, fun i hi => h.2 i (Nat.lt_of_lt_of_le hi (Nat.mul_le_mul_right K hm))⟩
theorem Recs.same {K : Nat} {w : World} {g n : Nat} {f f' : Nat → Int} (h : Recs K w g n f) (e : ∀ i, i < n * K → f i = f' i) : Recs K w g n f' :=
  ⟨h.1, fun i hi => by rw [← e i hi]; exact h.2 i hi⟩
theorem Ls.same {K : Nat} {w : World} {a : Option Addr} {n : Nat} {f f' : Nat → Int} (h : Ls K w a n f) (e : ∀ i, i < n * K → f i = f' i) : Ls K w a n f' :=
  h.imp id (fun ⟨g, e1, r⟩ => ⟨g, e1, r.same e⟩)
theorem Ls.less {K : Nat} {w : World} {a : Option Addr} {n m : Nat} {f : Nat → Int} (h : Ls K w a n f) (hm : m ≤ n) : Ls K w a m f := by
  rcases h with h | ⟨g, e, r⟩
  · exact .inl (by omega)
  · exact .inr ⟨g, e, r.less hm⟩
theorem LaidK.recsN {K : Nat} {t : TypeId} {w : World} {g c n : Nat} {f : Nat → Int} (h : LaidK K t w g c n f) : Recs K w g n f := by
  obtain ⟨cur, h1, h2, h3⟩ := h
  exact ⟨h1.lt, fun i hi => h1.cell _ (h3 i hi)⟩
theorem LaidK.same {K : Nat} {t : TypeId} {w : World} {g c n : Nat} {f f' : Nat → Int} (h : LaidK K t w g c n f) (e : ∀ i, i < n * K → f i = f' i) : LaidK K t w g c n f' := by
  obtain ⟨cur, h1, h2, h3⟩ := h
  exact ⟨cur, h1, h2, fun i hi => by rw [← e i hi]; exact h3 i hi⟩
theorem LaidK.lt {K : Nat} {t : TypeId} {w : World} {g c n : Nat} {f : Nat → Int} (h : LaidK K t w g c n f) : g < w.heap.size := by
  obtain ⟨cur, h1, -⟩ := h
  exact h1.lt
theorem LaidK.setOther {K : Nat} {t : TypeId} {w : World} {g c n q i : Nat} {f : Nat → Int} (h : LaidK K t w g c n f) (hq : g ≠ q) (v : Value) : LaidK K t (w.setCell ⟨q, i, none⟩ v) g c n f := by
  obtain ⟨cur, h1, h2⟩ := h
  exact ⟨cur, h1.setOther hq v, h2⟩
theorem LaidK.kept {K : Nat} {t : TypeId} {w w' : World} {g c n q : Nat} {f : Nat → Int} (h : LaidK K t w g c n f) (hk : Kept q w w') (hq : g ≠ q) : LaidK K t w' g c n f := by
  obtain ⟨cur, h1, h2⟩ := h
  exact ⟨cur, (hk.block g h1.lt hq).trans h1, h2⟩
/-- Two blocks of unlike types are two. -/
theorem At.apart {t u : TypeId} {w : World} {g h : Nat} {vs us : Array Value} (a : At t w g vs) (b : At u w h us) (htu : t ≠ u) : g ≠ h := by
  intro e
  subst e
  have := a.symm.trans b
  simp at this
  exact htu this.2
theorem LaidK.apart {K L : Nat} {t u : TypeId} {w : World} {g h c d n m : Nat} {f k : Nat → Int} (a : LaidK K t w g c n f) (b : LaidK L u w h d m k) (htu : t ≠ u) : g ≠ h := by
  obtain ⟨_, a1, -⟩ := a
  obtain ⟨_, b1, -⟩ := b
  exact a1.apart b1 htu
theorem LaidK.apartA {K : Nat} {t u : TypeId} {w : World} {g h c n : Nat} {f : Nat → Int} {us : Array Value} (a : LaidK K t w g c n f) (b : At u w h us) (htu : t ≠ u) : g ≠ h := by
  obtain ⟨_, a1, -⟩ := a
  exact a1.apart b htu
/-- One number of the list is turned. -/
def upd (f : Nat → Int) (i : Nat) (x : Int) : Nat → Int := fun j => if j = i then x else f j
theorem LaidK.upd {K : Nat} {t : TypeId} {w : World} {g c n i : Nat} {f : Nat → Int} (h : LaidK K t w g c n f) (hi : i < c * K) (x : Int) : LaidK K t (w.setCell ⟨g, i, none⟩ (.int .i64 x)) g c n (Go.Proofs.Ytealbihplfpgeaa.upd f i x) := by
  obtain ⟨cur, h1, h2, h3⟩ := h
  refine ⟨_, h1.set i _, by simpa using h2, fun j hj => ?_⟩
  by_cases e : j = i
  · subst e
    rw [Array.getElem?_setIfInBounds, if_pos rfl, if_pos (by omega), Go.Proofs.Ytealbihplfpgeaa.upd, if_pos rfl]
  · rw [Array.getElem?_setIfInBounds, if_neg (by omega), Go.Proofs.Ytealbihplfpgeaa.upd, if_neg e]
    exact h3 j hj
theorem ArK.own {K : Nat} {t : TypeId} {w : World} {lo g c n : Nat} {f : Nat → Int} (h : LaidK K t w g c n f) (hl : lo ≤ g) (hn : n ≤ c) (hc : c ≤ maxLen) : ArK K t w lo w.heap.size (.slice (some ⟨g, 0, none⟩) n c) n f :=
  .inr ⟨g, c, rfl, hl, h.lt, hn, hc, h⟩
theorem ArK.ls {K : Nat} {t : TypeId} {w : World} {lo hi : Nat} {v : Value} {n : Nat} {f : Nat → Int} (h : ArK K t w lo hi v n f) : ∃ a c, v = .slice a n c ∧ n ≤ c ∧ Ls K w a n f := by
  rcases h with ⟨rfl, rfl⟩ | ⟨g, c, rfl, _, _, h1, h2, h3⟩
  · exact ⟨none, 0, rfl, Nat.le_refl _, .inl rfl⟩
  · exact ⟨_, c, rfl, h1, .inr ⟨g, rfl, h3.recsN⟩⟩
theorem ArK.below {K : Nat} {t : TypeId} {w w' : World} {lo hi : Nat} {v : Value} {n : Nat} {f : Nat → Int} (h : ArK K t w lo hi v n f) (hb : Below w.heap.size w w') : ArK K t w' lo hi v n f :=
  h.imp id (fun ⟨g, c, e, a, b, d, e1, l⟩ => ⟨g, c, e, a, b, d, e1, l.below hb⟩)
theorem ArK.same {K : Nat} {t : TypeId} {w : World} {lo hi : Nat} {v : Value} {n : Nat} {f f' : Nat → Int} (h : ArK K t w lo hi v n f) (e : ∀ i, i < n * K → f i = f' i) : ArK K t w lo hi v n f' :=
  h.imp id (fun ⟨g, c, e1, a, b, d, e2, l⟩ => ⟨g, c, e1, a, b, d, e2, l.same e⟩)
theorem ArK.wide {K : Nat} {t : TypeId} {w : World} {lo hi lo' hi' : Nat} {v : Value} {n : Nat} {f : Nat → Int} (h : ArK K t w lo hi v n f) (h1 : lo' ≤ lo) (h2 : hi ≤ hi') : ArK K t w lo' hi' v n f :=
  h.imp id (fun ⟨g, c, e1, a, b, d⟩ => ⟨g, c, e1, by omega, by omega, d⟩)
theorem ArK.turn {K : Nat} {t : TypeId} {w w' : World} {lo hi a b : Nat} {v : Value} {n : Nat} {f : Nat → Int} (h : ArK K t w a b v n f) (ht : Turn lo hi w w') (hd : b ≤ lo ∨ hi ≤ a) : ArK K t w' a b v n f := by
  refine h.imp id ?_
  rintro ⟨g, c, e1, h1, h2, h3, h4, cur, k1, k2⟩
  exact ⟨g, c, e1, h1, h2, h3, h4, cur, (ht.block g k1.lt (by omega)).trans k1, k2⟩
theorem ArK.only {K : Nat} {t : TypeId} {w w' : World} {lo hi : Nat} {v u : Value} {n : Nat} {f : Nat → Int} (h : ArK K t w lo hi v n f) (hb : Only u w w') (hu : Apart u v) : ArK K t w' lo hi v n f := by
  refine h.imp id ?_
  rintro ⟨g, c, rfl, h1, h2, h3, h4, cur, k1, k2⟩
  exact ⟨g, c, rfl, h1, h2, h3, h4, cur, (hb.block g k1.lt (fun e => hu g e rfl)).trans k1, k2⟩
theorem ArK.apart {K L : Nat} {t u : TypeId} {w : World} {lo hi lo' hi' : Nat} {v x : Value} {n m : Nat} {f k : Nat → Int} (a : ArK K t w lo hi v n f) (b : ArK L u w lo' hi' x m k) (htu : t ≠ u) : Apart v x := by
  intro j h1 h2
  rcases a with ⟨rfl, -⟩ | ⟨g, c, rfl, _, _, _, _, l1⟩
  · cases h1
  rcases b with ⟨rfl, -⟩ | ⟨g', c', rfl, _, _, _, _, l2⟩
  · cases h2
  cases h1
  have : g' = g := by simpa [Value.ownBlock] using h2
  exact (l1.apart l2 htu) this.symm
theorem ArK.lt {K : Nat} {t : TypeId} {w : World} {lo hi : Nat} {v : Value} {n : Nat} {f : Nat → Int} (h : ArK K t w lo hi v n f) {k : Nat} (hk : v.ownBlock = some k) : lo ≤ k ∧ k < hi ∧ k < w.heap.size := by
  rcases h with ⟨rfl, _⟩ | ⟨g, c, rfl, h1, h2, _, _, h4⟩
  · cases hk
  · cases hk
    exact ⟨h1, h2, h4.lt⟩
theorem Turn.of_onlyK {K : Nat} {t : TypeId} {lo hi : Nat} {v : Value} {w w' : World} {n : Nat} {f : Nat → Int} (h : Only v w w') (ha : ArK K t w lo hi v n f) : Turn lo hi w w' :=
  ⟨h.os, h.tape, h.output, h.size, fun k hk hd => h.block k hk (fun e => by have := ha.lt e; omega)⟩
end Go.Proofs.Ytealbihplfpgeaa
