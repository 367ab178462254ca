/-
  Lists of structs of K numbers: read, handed on, one's own. No function of the program.
-/
import Derived.Test.YtiocneailhplkaaGreatMA
import Derived.Test.YtiocneailhplkaaGreatMC
import Derived.Test.YtiocneailhplkaaGreatME
import Derived.Maps.AppendAt
import Derived.Lib.SliceRun
import Derived.Lib.SlicesCompact
import Derived.Shelf.RegionOpenPlain
import Derived.Test.YtiocneailhplkaaGreatMH
import Derived.Test.YtiocneailhplkaaGreatMK
namespace Go.Proofs.YtiocneailhplkaaGreat
open Go.RowKit


theorem bx2 (w : World) (t u : TypeId) (vs us : Array Value) : ∃ W, (w.alloc (.cells vs t)).alloc (.cells us u) = W ∧ At t W w.heap.size vs ∧ At u W (w.heap.size + 1) us ∧ Below w.heap.size w W ∧ w.heap.size + 1 < W.heap.size := by
  refine ⟨_, rfl, (at_new t w vs).below (below_alloc _ _), ?_, (below_alloc _ _).trans ((below_alloc _ _).mono (by simp)), by simp⟩
  have := at_new u (w.alloc (.cells vs t)) us
  simpa using this
/-- n structs of K numbers lie in block g. -/
def Recs (K : Nat) (w : World) (g n : Nat) (f : Nat → Int) : Prop := g < w.heap.size ∧ ∀ i, i < n * K → w.cell? ⟨g, i, none⟩ = some (.int .i64 (f i))
theorem Recs.below {K : Nat} {w w' : World} {g n : Nat} {f : Nat → Int} (h : Recs K w g n f) (hb : Below w.heap.size w w') : Recs K w' g n f :=
  ⟨Nat.lt_of_lt_of_le h.1 hb.size, fun i hi => (hb.cell (p := ⟨g, i, none⟩) h.1).trans (h.2 i hi)⟩
theorem Recs.kept {K : Nat} {w w' : World} {g p n : Nat} {f : Nat → Int} (h : Recs K w g n f) (hb : Kept p w w') (hp : g ≠ p) : Recs K w' g n f :=
  ⟨Nat.lt_of_lt_of_le h.1 hb.size, fun i hi => (hb.cell hp h.1).trans (h.2 i hi)⟩
/-- A block of n structs of K, of which the first k are laid. -/
def LaidK (K : Nat) (t : TypeId) (w : World) (g n k : Nat) (f : Nat → Int) : Prop :=
  ∃ cur : Array Value, At t w g cur ∧ cur.size = n * K ∧ ∀ i, i < k * K → cur[i]? = some (.int .i64 (f i))
theorem LaidK.below {K : Nat} {t : TypeId} {w w' : World} {g n k : Nat} {f : Nat → Int} (h : LaidK K t w g n k f) (hb : Below w.heap.size w w') : LaidK K t w' g n k f := by
  obtain ⟨cur, h1, h2, h3⟩ := h
  exact ⟨cur, h1.below hb, h2, h3⟩
theorem LaidK.cells {K : Nat} {t : TypeId} {w : World} {g n k j : Nat} {f : Nat → Int} (h : LaidK K t w g n k f) (hj : j < n * K) : w.cell? ⟨g, j, none⟩ = some (cv w g j) ∧ w.frozen? ⟨g, j, none⟩ = false := by
  obtain ⟨cur, h1, h2, h3⟩ := h
  have hl : j < cur.size := by omega
  have := h1.cell j (Array.getElem?_eq_getElem hl)
  exact ⟨by rw [cv, this]; rfl, h1.frozen j⟩
theorem LaidK.recs {K : Nat} {t : TypeId} {w : World} {g n : Nat} {f : Nat → Int} (h : LaidK K t w g n n f) : Recs K w g n f := by
  obtain ⟨cur, h1, h2, h3⟩ := h
  exact ⟨h1.lt, fun i hi => h1.cell _ (h3 i hi)⟩
/-- Room for n structs of K. -/
def RoomK (K : Nat) (t : TypeId) (w : World) (g n : Nat) : Prop := ∃ cur : Array Value, At t w g cur ∧ cur.size = n * K
theorem RoomK.cell {K : Nat} {t : TypeId} {w : World} {g n : Nat} (h : RoomK K t w g n) {i : Nat} (hi : i < n * K) : w.cell? ⟨g, i, none⟩ = some (cv w g i) ∧ w.frozen? ⟨g, i, none⟩ = false := by
  obtain ⟨cur, h1, h2⟩ := h
  have e := h1.cell i (v := cur[i]) (Array.getElem?_eq_getElem (by omega))
  exact ⟨by rw [cv, e]; rfl, h1.frozen i⟩
theorem RoomK.set {K : Nat} {t : TypeId} {w : World} {g n : Nat} (h : RoomK K t w g n) (i : Nat) (v : Value) : RoomK K t (w.setCell ⟨g, i, none⟩ v) g n := by
  obtain ⟨cur, h1, h2⟩ := h
  exact ⟨_, h1.set i v, by simpa using h2⟩
theorem LaidK.room {K : Nat} {t : TypeId} {w : World} {g n k : Nat} {f : Nat → Int} (h : LaidK K t w g n k f) : RoomK K t w g n := by
  obtain ⟨cur, h1, h2, -⟩ := h
  exact ⟨cur, h1, h2⟩

/-- A list of structs of its own memory, in a block from lo up to hi; or nothing. -/
def ArK (K : Nat) (t : TypeId) (w : World) (lo hi : Nat) (v : Value) (n : Nat) (f : Nat → Int) : Prop :=
  (v = .slice none 0 0 ∧ n = 0) ∨ ∃ g c, v = .slice (some ⟨g, 0, none⟩) n c ∧ lo ≤ g ∧ g < hi ∧ n ≤ c ∧ c ≤ maxLen ∧ LaidK K t w g c n f
/-- A list of structs of K numbers: at the beginning of a block, or empty. -/
def Ls (K : Nat) (w : World) (a : Option Addr) (n : Nat) (f : Nat → Int) : Prop := n = 0 ∨ ∃ g, a = some ⟨g, 0, none⟩ ∧ Recs K w g n f
theorem Ls.below {K : Nat} {w w' : World} {a : Option Addr} {n : Nat} {f : Nat → Int} (h : Ls K w a n f) (hb : Below w.heap.size w w') : Ls K w' a n f :=
  h.imp id (fun ⟨g, e, r⟩ => ⟨g, e, r.below hb⟩)
theorem Ls.some {K : Nat} {w : World} {a : Option Addr} {n k : Nat} {f : Nat → Int} (h : Ls K w a n f) (hk : k < n) : ∃ g, a = some ⟨g, 0, none⟩ ∧ Recs K w g n f := by
  rcases h with h | h
  · omega
  · exact h
theorem Recs.less {K : Nat} {w : World} {g n m : Nat} {f : Nat → Int} (h : Recs K w g n f) (hm : m ≤ n) : Recs K w g m f :=
  ⟨h.1, fun i hi => h.2 i (Nat.lt_of_lt_of_le hi (Nat.mul_le_mul_right K hm))⟩
theorem Recs.same {K : Nat} {w : World} {g n : Nat} {f f' : Nat → Int} (h : Recs K w g n f) (e : ∀ i, i < n * K → f i = f' i) : Recs K w g n f' :=
  ⟨h.1, fun i hi => by rw [← e i hi]; exact h.2 i hi⟩
theorem Ls.same {K : Nat} {w : World} {a : Option Addr} {n : Nat} {f f' : Nat → Int} (h : Ls K w a n f) (e : ∀ i, i < n * K → f i = f' i) : Ls K w a n f' :=
  h.imp id (fun ⟨g, e1, r⟩ => ⟨g, e1, r.same e⟩)
theorem Ls.less {K : Nat} {w : World} {a : Option Addr} {n m : Nat} {f : Nat → Int} (h : Ls K w a n f) (hm : m ≤ n) : Ls K w a m f := by
  rcases h with h | ⟨g, e, r⟩
  · exact .inl (by omega)
  · exact .inr ⟨g, e, r.less hm⟩
theorem LaidK.recsN {K : Nat} {t : TypeId} {w : World} {g c n : Nat} {f : Nat → Int} (h : LaidK K t w g c n f) : Recs K w g n f := by
  obtain ⟨cur, h1, h2, h3⟩ := h
  exact ⟨h1.lt, fun i hi => h1.cell _ (h3 i hi)⟩
theorem LaidK.same {K : Nat} {t : TypeId} {w : World} {g c n : Nat} {f f' : Nat → Int} (h : LaidK K t w g c n f) (e : ∀ i, i < n * K → f i = f' i) : LaidK K t w g c n f' := by
  obtain ⟨cur, h1, h2, h3⟩ := h
  exact ⟨cur, h1, h2, fun i hi => by rw [← e i hi]; exact h3 i hi⟩
theorem LaidK.lt {K : Nat} {t : TypeId} {w : World} {g c n : Nat} {f : Nat → Int} (h : LaidK K t w g c n f) : g < w.heap.size := by
  obtain ⟨cur, h1, -⟩ := h
  exact h1.lt
theorem LaidK.setOther {K : Nat} {t : TypeId} {w : World} {g c n q i : Nat} {f : Nat → Int} (h : LaidK K t w g c n f) (hq : g ≠ q) (v : Value) : LaidK K t (w.setCell ⟨q, i, none⟩ v) g c n f := by
  obtain ⟨cur, h1, h2⟩ := h
  exact ⟨cur, h1.setOther hq v, h2⟩
theorem LaidK.kept {K : Nat} {t : TypeId} {w w' : World} {g c n q : Nat} {f : Nat → Int} (h : LaidK K t w g c n f) (hk : Kept q w w') (hq : g ≠ q) : LaidK K t w' g c n f := by
  obtain ⟨cur, h1, h2⟩ := h
  exact ⟨cur, (hk.block g h1.lt hq).trans h1, h2⟩
/-- Two blocks of unlike types are two. -/
theorem At.apart {t u : TypeId} {w : World} {g h : Nat} {vs us : Array Value} (a : At t w g vs) (b : At u w h us) (htu : t ≠ u) : g ≠ h := by
  intro e
  subst e
  have := a.symm.trans b
  simp at this
  exact htu this.2
theorem LaidK.apart {K L : Nat} {t u : TypeId} {w : World} {g h c d n m : Nat} {f k : Nat → Int} (a : LaidK K t w g c n f) (b : LaidK L u w h d m k) (htu : t ≠ u) : g ≠ h := by
  obtain ⟨_, a1, -⟩ := a
  obtain ⟨_, b1, -⟩ := b
  exact a1.apart b1 htu
theorem LaidK.apartA {K : Nat} {t u : TypeId} {w : World} {g h c n : Nat} {f : Nat → Int} {us : Array Value} (a : LaidK K t w g c n f) (b : At u w h us) (htu : t ≠ u) : g ≠ h := by
  obtain ⟨_, a1, -⟩ := a
  exact a1.apart b htu
/-- One number of the list is turned. -/
def upd (f : Nat → Int) (i : Nat) (x : Int) : Nat → Int := fun j => if j = i then x else f j
theorem LaidK.upd {K : Nat} {t : TypeId} {w : World} {g c n i : Nat} {f : Nat → Int} (h : LaidK K t w g c n f) (hi : i < c * K) (x : Int) : LaidK K t (w.setCell ⟨g, i, none⟩ (.int .i64 x)) g c n (Go.Proofs.YtiocneailhplkaaGreat.upd f i x) := by
  obtain ⟨cur, h1, h2, h3⟩ := h
  refine ⟨_, h1.set i _, by simpa using h2, fun j hj => ?_⟩
  by_cases e : j = i
  · subst e
    rw [Array.getElem?_setIfInBounds, if_pos rfl, if_pos (by omega), Go.Proofs.YtiocneailhplkaaGreat.upd, if_pos rfl]
  · rw [Array.getElem?_setIfInBounds, if_neg (by omega), Go.Proofs.YtiocneailhplkaaGreat.upd, if_neg e]
    exact h3 j hj
theorem ArK.own {K : Nat} {t : TypeId} {w : World} {lo g c n : Nat} {f : Nat → Int} (h : LaidK K t w g c n f) (hl : lo ≤ g) (hn : n ≤ c) (hc : c ≤ maxLen) : ArK K t w lo w.heap.size (.slice (some ⟨g, 0, none⟩) n c) n f :=
  .inr ⟨g, c, rfl, hl, h.lt, hn, hc, h⟩
theorem ArK.ls {K : Nat} {t : TypeId} {w : World} {lo hi : Nat} {v : Value} {n : Nat} {f : Nat → Int} (h : ArK K t w lo hi v n f) : ∃ a c, v = .slice a n c ∧ n ≤ c ∧ Ls K w a n f := by
  rcases h with ⟨rfl, rfl⟩ | ⟨g, c, rfl, _, _, h1, h2, h3⟩
  · exact ⟨none, 0, rfl, Nat.le_refl _, .inl rfl⟩
  · exact ⟨_, c, rfl, h1, .inr ⟨g, rfl, h3.recsN⟩⟩
theorem ArK.below {K : Nat} {t : TypeId} {w w' : World} {lo hi : Nat} {v : Value} {n : Nat} {f : Nat → Int} (h : ArK K t w lo hi v n f) (hb : Below w.heap.size w w') : ArK K t w' lo hi v n f :=
  h.imp id (fun ⟨g, c, e, a, b, d, e1, l⟩ => ⟨g, c, e, a, b, d, e1, l.below hb⟩)
theorem ArK.same {K : Nat} {t : TypeId} {w : World} {lo hi : Nat} {v : Value} {n : Nat} {f f' : Nat → Int} (h : ArK K t w lo hi v n f) (e : ∀ i, i < n * K → f i = f' i) : ArK K t w lo hi v n f' :=
  h.imp id (fun ⟨g, c, e1, a, b, d, e2, l⟩ => ⟨g, c, e1, a, b, d, e2, l.same e⟩)
theorem ArK.wide {K : Nat} {t : TypeId} {w : World} {lo hi lo' hi' : Nat} {v : Value} {n : Nat} {f : Nat → Int} (h : ArK K t w lo hi v n f) (h1 : lo' ≤ lo) (h2 : hi ≤ hi') : ArK K t w lo' hi' v n f :=
  h.imp id (fun ⟨g, c, e1, a, b, d⟩ => ⟨g, c, e1, by omega, by omega, d⟩)
theorem ArK.turn {K : Nat} {t : TypeId} {w w' : World} {lo hi a b : Nat} {v : Value} {n : Nat} {f : Nat → Int} (h : ArK K t w a b v n f) (ht : Turn lo hi w w') (hd : b ≤ lo ∨ hi ≤ a) : ArK K t w' a b v n f := by
  refine h.imp id ?_
  rintro ⟨g, c, e1, h1, h2, h3, h4, cur, k1, k2⟩
  exact ⟨g, c, e1, h1, h2, h3, h4, cur, (ht.block g k1.lt (by omega)).trans k1, k2⟩
theorem ArK.only {K : Nat} {t : TypeId} {w w' : World} {lo hi : Nat} {v u : Value} {n : Nat} {f : Nat → Int} (h : ArK K t w lo hi v n f) (hb : Only u w w') (hu : Apart u v) : ArK K t w' lo hi v n f := by
  refine h.imp id ?_
  rintro ⟨g, c, rfl, h1, h2, h3, h4, cur, k1, k2⟩
  exact ⟨g, c, rfl, h1, h2, h3, h4, cur, (hb.block g k1.lt (fun e => hu g e rfl)).trans k1, k2⟩
theorem ArK.apart {K L : Nat} {t u : TypeId} {w : World} {lo hi lo' hi' : Nat} {v x : Value} {n m : Nat} {f k : Nat → Int} (a : ArK K t w lo hi v n f) (b : ArK L u w lo' hi' x m k) (htu : t ≠ u) : Apart v x := by
  intro j h1 h2
  rcases a with ⟨rfl, -⟩ | ⟨g, c, rfl, _, _, _, _, l1⟩
  · cases h1
  rcases b with ⟨rfl, -⟩ | ⟨g', c', rfl, _, _, _, _, l2⟩
  · cases h2
  cases h1
  have : g' = g := by simpa [Value.ownBlock] using h2
  exact (l1.apart l2 htu) this.symm
theorem ArK.lt {K : Nat} {t : TypeId} {w : World} {lo hi : Nat} {v : Value} {n : Nat} {f : Nat → Int} (h : ArK K t w lo hi v n f) {k : Nat} (hk : v.ownBlock = some k) : lo ≤ k ∧ k < hi ∧ k < w.heap.size := by
  rcases h with ⟨rfl, _⟩ | ⟨g, c, rfl, h1, h2, _, _, h4⟩
  · cases hk
  · cases hk
    exact ⟨h1, h2, h4.lt⟩
theorem Turn.of_onlyK {K : Nat} {t : TypeId} {lo hi : Nat} {v : Value} {w w' : World} {n : Nat} {f : Nat → Int} (h : Only v w w') (ha : ArK K t w lo hi v n f) : Turn lo hi w w' :=
  ⟨h.os, h.tape, h.output, h.size, fun k hk hd => h.block k hk (fun e => by have := ha.lt e; omega)⟩
end Go.Proofs.YtiocneailhplkaaGreat
/-
  Lists of structs of K numbers that grow. No function of the program.
-/
namespace Go.Proofs.YtiocneailhplkaaGreat
open Go.RowKit


theorem iCells_ext {f : Nat → Int} {n : Nat} {l : List Value} (h1 : l.length = n) (h2 : ∀ i, i < n → l[i]? = some (.int .i64 (f i))) : l = iCells f n := by
  apply List.ext_getElem?
  intro i
  by_cases hi : i < n
  · rw [h2 i hi, iCells_at f hi]
  · rw [List.getElem?_eq_none (by omega), List.getElem?_eq_none (by rw [iCells_len]; omega)]
/-- One list behind another. -/
def catK (f : Nat → Int) (k : Nat) (g : Nat → Int) : Nat → Int := fun i => if i < k then f i else g (i - k)
theorem iCells_catK (f g : Nat → Int) (k m : Nat) : iCells f k ++ iCells g m = iCells (catK f k g) (k + m) := by
  refine iCells_ext (by simp [iCells_len]) (fun i hi => ?_)
  by_cases e : i < k
  · rw [List.getElem?_append_left (by rw [iCells_len]; exact e), iCells_at f e, catK, if_pos e]
  · rw [List.getElem?_append_right (by rw [iCells_len]; omega), iCells_len, iCells_at g (by omega), catK, if_neg e]
theorem ArK.row {K : Nat} {t : TypeId} {w : World} {lo hi : Nat} {v : Value} {n : Nat} {f : Nat → Int} (h : ArK K t w lo hi v n f) : w.ownsRow lo t K v n (iCells f (n * K)) := by
  refine ⟨iCells_len _ _, ?_⟩
  rcases h with h | ⟨g, c, rfl, h1, h2, h3, h4, cur, k1, k2, k3⟩
  · exact .inl h
  · have hle : n * K ≤ c * K := Nat.mul_le_mul_right K h3
    refine .inr ⟨g, c, cur, rfl, h1, k1, h3, h4, k2, ?_⟩
    refine iCells_ext (by simp; omega) (fun i hi => ?_)
    rw [List.getElem?_take_of_lt hi]
    simpa using k3 i hi
theorem ArK.of_row {K : Nat} {t : TypeId} {w : World} {lo : Nat} {v : Value} {n : Nat} {f : Nat → Int} (h : w.ownsRow lo t K v n (iCells f (n * K))) : ArK K t w lo w.heap.size v n f := by
  rcases h.2 with h | ⟨g, c, cur, rfl, h1, h2, h3, h4, h5, h6⟩
  · exact .inl h
  · refine .inr ⟨g, c, rfl, h1, (Array.getElem?_eq_some_iff.1 h2).1, h3, h4, cur, h2, h5, fun i hi => ?_⟩
    have := iCells_at f hi
    rw [← h6, List.getElem?_take_of_lt hi] at this
    simpa using this
theorem recs_news {K : Nat} {w : World} {b m : Nat} {g : Nat → Int} (h : Recs K w b m g) : ∀ j u, (iCells g (m * K))[j]? = some u → w.cell? ((⟨b, 0, none⟩ : Addr).add j) = some u := by
  intro j u hu
  have hj : j < m * K := by
    have := (List.getElem?_eq_some_iff.1 hu).1
    rwa [iCells_len] at this
  rw [iCells_at g hj] at hu
  have hc := h.2 j hj
  rw [hu] at hc
  by_cases e : j = 0
  · subst e; simpa [Addr.add] using hc
  · simpa [Addr.add, e] using hc
theorem only_grown {v : Value} {w w' : World} (h : w.grownBy w' v.ownBlock) : Only v w w' := ⟨h.os, h.tape, h.output, h.size, fun k hk hv => h.block k hk (fun e => hv e.symm)⟩
theorem Only.belowK {K : Nat} {t : TypeId} {w0 w w' : World} {lo hi : Nat} {v : Value} {n : Nat} {f : Nat → Int} {N : Nat} (ho : Only v w w') (h : ArK K t w lo hi v n f) (hN : N ≤ lo) (hb : Below N w0 w) (hs : N ≤ w.heap.size) : Below N w0 w' :=
  hb.trans ⟨ho.os, ho.tape, ho.output, ho.size, fun k hk => ho.block k (by omega) (fun e => by have := h.lt e; omega)⟩
theorem At.only {t : TypeId} {w w' : World} {q : Nat} {v : Value} {vs : Array Value} (h : At t w q vs) (ho : Only v w w') (hq : v.ownBlock ≠ some q) : At t w' q vs := (ho.block q h.lt hq).trans h
theorem Recs.only {K : Nat} {w w' : World} {g n : Nat} {v : Value} {f : Nat → Int} (h : Recs K w g n f) (ho : Only v w w') (hq : v.ownBlock ≠ some g) : Recs K w' g n f :=
  ⟨Nat.lt_of_lt_of_le h.1 ho.size, fun i hi => (World.cell?_of_block (w := w) (ho.block g h.1 hq)).trans (h.2 i hi)⟩
/-- The box is none of the list's. -/
theorem ArK.box {K : Nat} {t u : TypeId} {w : World} {lo hi q : Nat} {v : Value} {n : Nat} {f : Nat → Int} {vs : Array Value} (h : ArK K t w lo hi v n f) (b : At u w q vs) (htu : t ≠ u) : v.ownBlock ≠ some q := by
  rcases h with ⟨rfl, -⟩ | ⟨g, c, rfl, _, _, _, _, l1⟩
  · intro e; cases e
  · intro e
    cases e
    exact l1.apartA b htu rfl
theorem ArK.nn {K : Nat} {t : TypeId} {w : World} {lo hi : Nat} {v : Value} {n : Nat} {f : Nat → Int} (h : ArK K t w lo hi v n f) (hv : v ≠ .slice none 0 0) : ∃ g c, v = .slice (some ⟨g, 0, none⟩) n c ∧ lo ≤ g ∧ n ≤ c ∧ c ≤ maxLen ∧ LaidK K t w g c n f := by
  rcases h with ⟨rfl, -⟩ | ⟨g, c, rfl, h1, _, h3, h4, h5⟩
  · exact absurd rfl hv
  · exact ⟨g, c, rfl, h1, h3, h4, h5⟩
section
variable {K bytes : Nat} {sl el : TypeId} {z : Value}
theorem run_appendK (hU : Tryz.prog.underlying sl = some (.slice el)) (hI : (Tryz.prog.info? el).map (fun i => (i.zero, i.size, i.bytes)) = some (some z, K, bytes)) (hz : z.cells.size = K) (hK : 0 < K) (hby : bytes ≤ 100)
    {w : World} {B hi : Nat} {v : Value} {n : Nat} {f : Nat → Int} (hA : ArK K el w B hi v n f) {ad : Option Addr} {m : Nat} (c : Nat) {g : Nat → Int} (hL : Ls K w ad m g) (hc0 : ad = none → m = 0 ∧ c = 0) (hnm : n + m ≤ 1000000) (hB : B ≤ w.heap.size) (ty : TypeId) :
    ∃ v' w', (Builtin.append_ #[sl, sl] ty #[v, .slice ad m c]).run Tryz.prog w = .ok v' w' ∧ ArK K el w' B w'.heap.size v' (n + m) (catK f (n * K) g) ∧ Only v w w' ∧ (v ≠ .slice none 0 0 → v' ≠ .slice none 0 0) := by
  obtain ⟨i0, hi0, hz0, hz1, hz2⟩ := info_parts hI
  have hb : (n + m) * bytes ≤ 140737488355328 := Nat.le_trans (Nat.mul_le_mul hnm hby) (by decide)
  have key : ∀ (a : Addr), (∀ j u, (iCells g (m * K))[j]? = some u → w.cell? (a.add j) = some u) → ∃ v' w', (Builtin.append_ #[sl, sl] ty #[v, .slice (some a) m c]).run Tryz.prog w = .ok v' w' ∧ ArK K el w' B w'.heap.size v' (n + m) (catK f (n * K) g) ∧ Only v w w' ∧ (v ≠ .slice none 0 0 → v' ≠ .slice none 0 0) := by
    intro a hn
    obtain ⟨v', w', hr, h2, h3, h4, h5⟩ := run_append_own_at (P := Tryz.prog) w B sl ty el i0 z K bytes hU hi0 hz0 hz1 hz2 hz hK v n _ hA.row a m c (iCells g (m * K)) (iCells_len _ _) hn (iCells_one _ _) (by unfold maxLen; omega) hb hB
    rw [iCells_catK, ← Nat.add_mul] at h2
    exact ⟨v', w', hr, ArK.of_row h2, only_grown h3, fun k e => k (h4.1 e).1⟩
  rcases hL with rfl | ⟨b, rfl, hr⟩
  · cases ad with
    | some a => exact key a (fun j u hu => by rw [List.getElem?_eq_none (by rw [iCells_len]; omega)] at hu; cases hu)
    | none =>
      obtain ⟨-, rfl⟩ := hc0 rfl
      have e0 : ∀ i, i < (n + 0) * K → catK f (n * K) g i = f i := fun i hi => by rw [catK, if_pos (by simpa using hi)]
      refine ⟨v, w, ?_, (hA.wide (Nat.le_refl _) (Nat.le_refl _) |>.same (fun i hi => (e0 i hi).symm) |> fun h => ?_), .of_below (Below.refl _ _), fun h => h⟩
      · rcases hA with ⟨rfl, rfl⟩ | ⟨b, d, rfl, _, _, h3, _⟩
        · simp [Builtin.append_, run_underlying hU, sizeOf, typeInfo, hi0, Builtin.lenOf, Builtin.firstCells]
        · simp [Builtin.append_, run_underlying hU, sizeOf, typeInfo, hi0, Builtin.lenOf, Builtin.firstCells, h3, storeCells]
      · refine h.imp id ?_
        rintro ⟨b, d, e1, e2, e3, e4, e5, e6⟩
        exact ⟨b, d, e1, e2, e6.lt, e4, e5, e6⟩
  · exact key ⟨b, 0, none⟩ (recs_news hr)
theorem stepK_append (hU : Tryz.prog.underlying sl = some (.slice el)) (hI : (Tryz.prog.info? el).map (fun i => (i.zero, i.size, i.bytes)) = some (some z, K, bytes)) (hz : z.cells.size = K) (hK : 0 < K) (hby : bytes ≤ 100)
    (w : World) {ops : Array Oper} {o : Oper} {a : Act} {KK : Act → World → Prop} {Q : Exit → Act → World → Prop} {E : Prop} (hgd : o.guard = none) (s x : Operand)
    (ho : o.op = .call { callee := .builtin .append, args := #[s, x], argTypes := #[sl, sl] })
    {B hi : Nat} {v : Value} {n : Nat} {f : Nat → Int} (hs : a.eval s = v) (hA : ArK K el w B hi v n f) {ad : Option Addr} {m c : Nat} {g : Nat → Int} (hx : a.eval x = .slice ad m c) (hL : Ls K w ad m g) (hc0 : ad = none → m = 0 ∧ c = 0) (hnm : n + m ≤ 1000000) (hB : B ≤ w.heap.size)
    (h : ∀ v' w', ArK K el w' B w'.heap.size v' (n + m) (catK f (n * K) g) → Only v w w' → (v ≠ .slice none 0 0 → v' ≠ .slice none 0 0) → KK (a.put o.dst v') w') :
    if Region.wanted o (yielded ops a.tmps) = true then Oper.wp Tryz.prog o a w KK Q else E := by
  have hw : Region.wanted o (yielded ops a.tmps) = true := by simp [Region.wanted, hgd]
  rw [if_pos hw]
  obtain ⟨v', w', hr, h2, h3, h4⟩ := run_appendK hU hI hz hK hby hA c hL hc0 hnm hB o.type
  unfold Oper.wp execOp
  simp only [ho, resolve, invoke, builtin, Sem.run_bind, Sem.run_pure, Result.andThen_ok, List.map_toArray, List.map_cons, List.map_nil, hs, hx, hr]
  exact h v' w' h2 h3 h4
theorem wpListK_append (hU : Tryz.prog.underlying sl = some (.slice el)) (hI : (Tryz.prog.info? el).map (fun i => (i.zero, i.size, i.bytes)) = some (some z, K, bytes)) (hz : z.cells.size = K) (hK : 0 < K) (hby : bytes ≤ 100)
    (w : World) {ops : Array Oper} {rest : List Oper} {o : Oper} {a : Act} {Q : Exit → Act → World → Prop} (hgd : o.guard = none) (s x : Operand)
    (ho : o.op = .call { callee := .builtin .append, args := #[s, x], argTypes := #[sl, sl] })
    {B hi : Nat} {v : Value} {n : Nat} {f : Nat → Int} (hs : a.eval s = v) (hA : ArK K el w B hi v n f) {ad : Option Addr} {m c : Nat} {g : Nat → Int} (hx : a.eval x = .slice ad m c) (hL : Ls K w ad m g) (hc0 : ad = none → m = 0 ∧ c = 0) (hnm : n + m ≤ 1000000) (hB : B ≤ w.heap.size)
    (h : ∀ v' w', ArK K el w' B w'.heap.size v' (n + m) (catK f (n * K) g) → Only v w w' → (v ≠ .slice none 0 0 → v' ≠ .slice none 0 0) → wpList Tryz.prog ops Q rest (a.put o.dst v') w') :
    wpList Tryz.prog ops Q (o :: rest) a w := by
  obtain ⟨v', w', hr, h2, h3, h4⟩ := run_appendK hU hI hz hK hby hA c hL hc0 hnm hB o.type
  refine wpList_plain hgd fun _ hK => ?_
  unfold Oper.wp execOp
  simp only [ho, resolve, invoke, builtin, Sem.run_bind, Sem.run_pure, Result.andThen_ok, List.map_toArray, List.map_cons, List.map_nil, hs, hx, hr]
  exact hK _ _ (h v' w' h2 h3 h4)
end
end Go.Proofs.YtiocneailhplkaaGreat
/-
  slices.Compact at structs of three numbers: what it computes, how the list lies; walked.
-/
namespace Go.Proofs.YtiocneailhplkaaGreat
open Go.RowKit Go.Shelf Go.Sort Go.Lib


abbrev T3 := Int × Int × Int
/-- The list d of triples lies at the head of block g, whose cells are c times three. -/
def C3 (w : World) (g c : Nat) (d : Array T3) : Prop := ∃ cur, At 54 w g cur ∧ cur.size = c * 3 ∧ ∀ i, i < d.size → cur[i * 3]? = some (.int .i64 d[i]!.1) ∧ cur[i * 3 + 1]? = some (.int .i64 d[i]!.2.1) ∧ cur[i * 3 + 2]? = some (.int .i64 d[i]!.2.2)
theorem C3.drew {w : World} {g c : Nat} {d : Array T3} (h : C3 w g c d) : C3 w.drew g c d := by
  obtain ⟨cur, h1, h2, h3⟩ := h
  exact ⟨cur, h1, h2, h3⟩
theorem C3.lt {w : World} {g c : Nat} {d : Array T3} (h : C3 w g c d) : g < w.heap.size := by
  obtain ⟨cur, h1, -⟩ := h
  exact h1.lt
theorem C3.at {w : World} {g c : Nat} {d : Array T3} (h : C3 w g c d) {i : Nat} (hi : i < d.size) : w.cell? ⟨g, i * 3, none⟩ = some (.int .i64 d[i]!.1) ∧ w.cell? ⟨g, i * 3 + 1, none⟩ = some (.int .i64 d[i]!.2.1) ∧ w.cell? ⟨g, i * 3 + 2, none⟩ = some (.int .i64 d[i]!.2.2) := by
  obtain ⟨cur, h1, h2, h3⟩ := h
  obtain ⟨a, b, c⟩ := h3 i hi
  exact ⟨h1.cell _ a, h1.cell _ b, h1.cell _ c⟩
theorem C3.warm {w : World} {g c : Nat} {d : Array T3} (h : C3 w g c d) (i : Nat) : w.frozen? ⟨g, i, none⟩ = false := by
  obtain ⟨cur, h1, -⟩ := h
  exact h1.frozen i
theorem C3.any {w : World} {g c : Nat} {d : Array T3} (h : C3 w g c d) {i : Nat} (hi : i < c * 3) : (w.cell? ⟨g, i, none⟩).isSome = true := by
  obtain ⟨cur, h1, h2, -⟩ := h
  rw [h1.cell i (v := cur[i]) (Array.getElem?_eq_getElem (by omega))]
  rfl
theorem C3.put {w : World} {g c : Nat} {d : Array T3} (h : C3 w g c d) {i : Nat} (hi : i < d.size) (x : T3) : C3 (((w.setCell ⟨g, i * 3, none⟩ (.int .i64 x.1)).setCell ⟨g, i * 3 + 1, none⟩ (.int .i64 x.2.1)).setCell ⟨g, i * 3 + 2, none⟩ (.int .i64 x.2.2)) g c (d.setIfInBounds i x) := by
  obtain ⟨cur, h1, h2, h3⟩ := h
  refine ⟨_, ((h1.set (i * 3) _).set (i * 3 + 1) _).set (i * 3 + 2) _, by simpa using h2, fun j hj => ?_⟩
  have hj' : j < d.size := by simpa using hj
  obtain ⟨a, b, e⟩ := h3 j hj'
  have q0 := (Array.getElem?_eq_some_iff.1 (h3 i hi).1).1
  have q1 := (Array.getElem?_eq_some_iff.1 (h3 i hi).2.1).1
  have q2 := (Array.getElem?_eq_some_iff.1 (h3 i hi).2.2).1
  by_cases e0 : i = j
  · subst e0
    rw [getElem!_pos _ i hj]
    simp only [Array.getElem_setIfInBounds_self, Array.getElem?_setIfInBounds, Array.size_setIfInBounds]
    refine ⟨?_, ?_, ?_⟩ <;> simp <;> omega
  · rw [show (d.setIfInBounds i x)[j]! = d[j]! by rw [getElem!_pos _ j hj, getElem!_pos _ j hj']; first | exact Array.getElem_setIfInBounds_ne hj' e0 | grind]
    simp only [Array.getElem?_setIfInBounds, Array.size_setIfInBounds]
    refine ⟨?_, ?_, ?_⟩
    · rw [if_neg (by omega), if_neg (by omega), if_neg (by omega)]; exact a
    · rw [if_neg (by omega), if_neg (by omega), if_neg (by omega)]; exact b
    · rw [if_neg (by omega), if_neg (by omega), if_neg (by omega)]; exact e
theorem C3.clear {w : World} {g c : Nat} {d : Array T3} (h : C3 w g c d) {k : Nat} (hk : k ≤ d.size) (n : Nat) : C3 (w.setCells g (k * 3) (List.replicate n (.int .i64 0))) g c (d.extract 0 k) := by
  have gen : ∀ (n o : Nat) (w : World) (cur : Array Value), k * 3 ≤ o → At 54 w g cur → ∃ cur', At 54 (w.setCells g o (List.replicate n (.int .i64 0))) g cur' ∧ cur'.size = cur.size ∧ ∀ i, i < k * 3 → cur'[i]? = cur[i]? := by
    intro n
    induction n with
    | zero => exact fun o w cur _ h => ⟨cur, by simpa [World.setCells] using h, rfl, fun _ _ => rfl⟩
    | succ n ih =>
      intro o w cur ho h
      obtain ⟨cur', h1, h2, h3⟩ := ih (o + 1) _ _ (by omega) (h.set o (.int .i64 0))
      refine ⟨cur', by simpa [List.replicate_succ, World.setCells] using h1, by rw [h2]; simp, fun i hi => ?_⟩
      rw [h3 i hi, Array.getElem?_setIfInBounds, if_neg (by omega)]
  obtain ⟨cur, h1, h2, h3⟩ := h
  obtain ⟨cur', q1, q2, q3⟩ := gen n (k * 3) w cur (Nat.le_refl _) h1
  refine ⟨cur', q1, by rw [q2, h2], fun i hi => ?_⟩
  have hi' : i < k := by simp at hi; omega
  obtain ⟨a, b, e⟩ := h3 i (by omega)
  rw [q3 _ (by omega), q3 _ (by omega), q3 _ (by omega), show (d.extract 0 k)[i]! = d[i]! by rw [getElem!_pos _ i hi, getElem!_pos _ i (by omega)]; simp]
  exact ⟨a, b, e⟩

theorem compCut {d dk : Array T3} {m k : Nat} (h : CompInv d m k dk) (hk : k ≤ dk.size) : dk.extract 0 k = (compactUpTo d m).toArray := by
  apply Array.ext_getElem?
  intro j
  have hl := h.len
  by_cases hj : j < k
  · have := h.low j hj
    rw [show (compactUpTo d m).toArray[j]? = (compactUpTo d m)[j]? by simp, this, Array.getElem?_extract, if_pos (by omega), getElem!_pos _ j (by omega), Nat.zero_add, Array.getElem?_eq_getElem]
  · rw [Array.getElem?_eq_none (by simp; omega), Array.getElem?_eq_none (by simp; omega)]
theorem below_setCells {B g : Nat} {v : Value} : ∀ {n o : Nat} {w0 w : World}, Below B w0 w → B ≤ g → Below B w0 (w.setCells g o (List.replicate n v))
  | 0, _, _, _, h, _ => by simpa [World.setCells] using h
  | n + 1, o, w0, w, h, hg => by
    have := below_setCells (n := n) (o := o + 1) (v := v) (h.setCell (p := ⟨g, o, none⟩) hg v) hg
    simpa [List.replicate_succ, World.setCells] using this
/-- What Compact leaves. -/
def Comp (d : Array T3) (g c B : Nat) (w w' : World) : Prop := C3 w' g c (compactUpTo d d.size).toArray ∧ Below B w w'
end Go.Proofs.YtiocneailhplkaaGreat
/-
  Structs of three numbers compared: walked.
-/
namespace Go.Proofs.YtiocneailhplkaaGreat
open Go.RowKit Go.Shelf Go.Sort Go.Lib

/-- The cells of three numbers. -/
def e3 (x : T3) : List Value := [.int .i64 x.1, .int .i64 x.2.1, .int .i64 x.2.2]
def t3f (x : T3) : Nat → Int := fun i => if i = 0 then x.1 else if i = 1 then x.2.1 else x.2.2
def c3 (x y : T3) : Int := lexC 3 (t3f x) (t3f y)
theorem e3_one (x : T3) : ∀ u ∈ e3 x, u.oneCell' = true := by
  intro u hu
  simp only [e3, List.mem_cons, List.not_mem_nil, or_false] at hu
  rcases hu with rfl | rfl | rfl <;> rfl
theorem c3_swo : SWO (ltOf c3) where
  irrefl x := by
    unfold ltOf c3
    rw [decide_eq_false (lexC_irrefl 3 _)]
  trans x y z h1 h2 := by
    unfold ltOf c3 at *
    rw [decide_eq_true_eq] at *
    exact lexC_trans h1 h2
  ntrans x y z h1 h2 := by
    unfold ltOf c3 at *
    rw [decide_eq_false_iff_not] at *
    intro h3
    rcases lexC_cases 3 (t3f y) (t3f z) with ⟨_, e⟩ | ⟨p, hp, c, ⟨d, _⟩ | ⟨d, _⟩⟩
    · exact h1 ((lexC_congr (fun _ _ => rfl) (fun j hj => (e j hj).symm)).1 h3)
    · exact h2 (lexC_neg.2 ⟨p, hp, c, d⟩)
    · exact h1 (lexC_trans h3 (lexC_neg.2 ⟨p, hp, fun j hj => (c j hj).symm, d⟩))
theorem e3_get (x : T3) (j : Nat) (hj : j < 3) : (e3 x)[j]! = .int .i64 (t3f x j) := by
  rcases (by omega : j = 0 ∨ j = 1 ∨ j = 2) with rfl | rfl | rfl <;> rfl
/-- The first that is not 0. -/
def orF (z : Nat → Int) : Nat → Int
  | 0 => 0
  | m + 1 => if orF z m = 0 then z m else orF z m
theorem orF_zero {z : Nat → Int} {m : Nat} (h : orF z m = 0) : orF z (m + 1) = z m := by rw [orF, if_pos h]
theorem orF_stay {z : Nat → Int} {k m : Nat} (h : orF z k ≠ 0) (hm : k ≤ m) : orF z m = orF z k := by
  induction m with
  | zero => obtain rfl : k = 0 := by omega
            rfl
  | succ m ih =>
    by_cases e : k = m + 1
    · rw [e]
    · have := ih (by omega)
      rw [orF, if_neg (by rw [this]; exact h), this]
set_option maxHeartbeats 1000000 in
theorem or_any {w : World} {g m cap : Nat} (z : Nat → Int) (h : Ints w g 0 m z) (_ : g < w.heap.size) (hm : m ≤ 1000) :
    Calls Tryz.prog 108 #[.slice (some ⟨g, 0, none⟩) m cap] w fun e w' => e = .returned (.int .i64 (orF z m)) ∧ w = w' := by
  obtain ⟨R, hR⟩ : ∃ R, orF z m = R := ⟨_, rfl⟩
  rw [hR]
  have hm' : (m : Int) ≤ 1000 := by omega
  go_enter Tryz.func108, Tryz.ntmps108
  go_wp2
  go_loopw [8] (fun s wr => ∃ k : Nat, k ≤ m ∧ s = .int .i64 k ∧ w = wr ∧ orF z k = 0) (fun s _ => m - (intOf s).toNat)
  case atStart => exact ⟨0, Nat.zero_le _, rfl, rfl, rfl⟩
  case round =>
    obtain ⟨k, hk, rfl, rfl, h0⟩ := hrel
    by_cases hlt : k < m
    · have hlt' : (k : Int) < (m : Int) := by omega
      have c0 := h k hlt
      rw [Nat.zero_add] at c0
      have h1 := orF_zero h0
      have h2 := fun hh => orF_stay (z := z) (k := k + 1) (m := m) hh (by omega)
      rw [hR] at h2
      obtain ⟨X, hX⟩ : ∃ X, z k = X := ⟨_, rfl⟩
      rw [hX] at c0 h1
      rw [h1] at h2
      by_cases hz : X = 0
      · have hz' : (X != 0) = false := by simp [hz]
        have HZ : Hid (orF z (k + 1) = 0) := h1.trans hz
        clear hz h1 h2 h0 hX hR
        go_wp2
        exact ⟨⟨k + 1, by omega, by go_num, by trivial, HZ.out⟩, by simp [intOf]; omega⟩
      · have hz' : (X != 0) = true := by simp [hz]
        obtain rfl := h2 hz
        clear h1 h2 h0 hX hR
        go_wp2
        go_ret
        exact ⟨rfl, rfl⟩
    · have hlt' : ¬ (k : Int) < (m : Int) := by omega
      obtain rfl : k = m := by omega
      obtain rfl : R = 0 := hR.symm.trans h0
      clear h0 hR
      go_wp2
      go_ret
      exact ⟨rfl, rfl⟩
theorem Grew.trans {w w' w'' : World} (h : Grew w w') (h' : Grew w' w'') : Grew w w'' := by
  obtain ⟨q, os, rfl⟩ := h
  obtain ⟨q', os', rfl⟩ := h'
  refine ⟨q + q', os ++ os', ?_⟩
  simp [Go.Sort.grow, World.drewN, Nat.add_assoc]
theorem or_c3 (x y : T3) (z : Nat → Int) (h0 : cmp3 x.1 y.1 = z 0) (h1 : cmp3 x.2.1 y.2.1 = z 1) (h2 : cmp3 x.2.2 y.2.2 = z 2) : orF z 3 = c3 x y := by
  obtain ⟨a, b, c⟩ := x
  obtain ⟨a', b', c'⟩ := y
  simp only at h0 h1 h2
  have hz : orF z 3 = if (if z 0 = 0 then z 1 else z 0) = 0 then z 2 else (if z 0 = 0 then z 1 else z 0) := by
    simp only [orF, if_true]
  rw [hz, ← h0, ← h1, ← h2]
  clear hz h0 h1 h2
  unfold c3 cmp3
  rcases lexC_cases 3 (t3f (a, b, c)) (t3f (a', b', c')) with ⟨e, h⟩ | ⟨p, hp, h, ⟨d, e⟩ | ⟨d, e⟩⟩
  · have k0 : a = a' := h 0 (by omega)
    have k1 : b = b' := h 1 (by omega)
    have k2 : c = c' := h 2 (by omega)
    subst k0 k1 k2
    rw [e]
    simp
  · rw [e]
    rcases (by omega : p = 0 ∨ p = 1 ∨ p = 2) with rfl | rfl | rfl
    · have k0 : a < a' := d
      simp [k0]
    · have k0 : a = a' := h 0 (by omega)
      have k1 : b < b' := d
      subst k0
      simp [k1]
    · have k0 : a = a' := h 0 (by omega)
      have k1 : b = b' := h 1 (by omega)
      have k2 : c < c' := d
      subst k0 k1
      simp [k2]
  · rw [e]
    rcases (by omega : p = 0 ∨ p = 1 ∨ p = 2) with rfl | rfl | rfl
    · have k0 : a' < a := d
      have k0' : ¬ a < a' := by omega
      simp [k0, k0']
    · have k0 : a = a' := h 0 (by omega)
      have k1 : b' < b := d
      have k1' : ¬ b < b' := by omega
      subst k0
      simp [k1, k1']
    · have k0 : a = a' := h 0 (by omega)
      have k1 : b = b' := h 1 (by omega)
      have k2 : c' < c := d
      have k2' : ¬ c < c' := by omega
      subst k0 k1
      simp [k2, k2']
/-- Such a struct as a value. -/
abbrev tV (x : T3) : Value := .agg #[.int .i64 x.1, .int .i64 x.2.1, .int .i64 x.2.2]
end Go.Proofs.YtiocneailhplkaaGreat
/-
  The library's sort at structs of three numbers: its contract laid over this program.
-/
namespace Go.Proofs.YtiocneailhplkaaGreat
open Go.RowKit Go.Shelf Go.Sort Go.Lib

theorem C3.cellT {w : World} {g c : Nat} {d : Array T3} (h : C3 w g c d) {t : Nat} (ht : t < d.size * 3) : w.cell? ⟨g, t, none⟩ = some (.int .i64 (t3f d[t / 3]! (t % 3))) := by
  obtain ⟨cur, a, hs, hd⟩ := h
  have hi : t / 3 < d.size := by omega
  obtain ⟨p0, p1, p2⟩ := hd (t / 3) hi
  rcases (by omega : t % 3 = 0 ∨ t % 3 = 1 ∨ t % 3 = 2) with e | e | e <;> rw [e]
  · have := a.cell _ p0
    rwa [show t / 3 * 3 = t by omega] at this
  · have := a.cell _ p1
    rwa [show t / 3 * 3 + 1 = t by omega] at this
  · have := a.cell _ p2
    rwa [show t / 3 * 3 + 2 = t by omega] at this
theorem holdsP {w : World} {g c : Nat} {d : Array T3} (h : C3 w g c d) : HoldsK e3 3 w g 0 d := by
  intro t ht
  rw [size_flatK] at ht
  rw [get_flatK _ _ _ _ ht, e3_get _ _ (by omega)]
  have h1 := h.cellT ht
  obtain ⟨cur, a, -⟩ := h
  exact ⟨by rw [Nat.zero_add]; exact h1, a.frozen _⟩
theorem sortedP {w : World} {g c m : Nat} {d d' : Array T3} {os : Array Obj} (h : C3 w g c d) (hs : d'.size = d.size) (hc : d.size ≤ c) : C3 (sortWorldK e3 3 w g 0 m d' os) g c d' ∧ Kept g w (sortWorldK e3 3 w g 0 m d' os) := by
  obtain ⟨cur, hh, hsz, hd⟩ := h
  have hlt : g < w.heap.size := hh.lt
  have hg : (sortWorldK e3 3 w g 0 m d' os).heap[g]? = some (.cells (putCells id 0 (flatK e3 3 d') cur) 54 (0, 0)) := by
    unfold sortWorldK grow putRowK putRow mapBlock Go.Sort.ahead
    dsimp only
    rw [Array.getElem?_append_left (by simpa using hlt), Array.getElem?_modify, hh]
    simp [onCells]
  have hc3 : d.size * 3 ≤ c * 3 := Nat.mul_le_mul_right 3 hc
  refine ⟨⟨_, hg, by simpa [putCells] using hsz, fun i hi => ?_⟩, ?_⟩
  · have hsf : (flatK e3 3 d').size = d'.size * 3 := by rw [size_flatK]
    have get : ∀ t, t < d'.size * 3 → (putCells id 0 (flatK e3 3 d') cur)[t]? = some (.int .i64 (t3f d'[t / 3]! (t % 3))) := fun t ht => by
      have hl : t < cur.size := by omega
      have hfl := get_flatK e3 3 d' t ht
      simp only [putCells, Array.getElem?_mapIdx, Array.getElem?_eq_getElem hl, Option.map_some]
      rw [if_pos ⟨Nat.zero_le _, by omega⟩, Nat.sub_zero, hfl, e3_get _ _ (by omega)]
      rfl
    have g0 := get (i * 3) (by omega)
    have g1 := get (i * 3 + 1) (by omega)
    have g2 := get (i * 3 + 2) (by omega)
    rw [show i * 3 / 3 = i by omega, show i * 3 % 3 = 0 by omega] at g0
    rw [show (i * 3 + 1) / 3 = i by omega, show (i * 3 + 1) % 3 = 1 by omega] at g1
    rw [show (i * 3 + 2) / 3 = i by omega, show (i * 3 + 2) % 3 = 2 by omega] at g2
    exact ⟨g0, g1, g2⟩
  · refine ⟨rfl, rfl, rfl, ?_, fun k hk hne => ?_⟩
    · unfold sortWorldK grow putRowK putRow mapBlock Go.Sort.ahead
      simp
    · unfold sortWorldK grow putRowK putRow mapBlock Go.Sort.ahead
      dsimp only
      rw [Array.getElem?_append_left (by simpa using hk), Array.getElem?_modify, if_neg (fun e => hne (by rw [e]))]
end Go.Proofs.YtiocneailhplkaaGreat
