/-
  Lists of structs of K numbers: read, handed on, one's own. No function of the program.
-/
import Derived.Test.YtehbpcoiciodhaaGreatMA
namespace Go.Proofs.YtehbpcoiciodhaaGreat
open Go.RowKit


theorem bx2 (w : World) (t u : TypeId) (vs us : Array Value) : ∃ W, (w.alloc (.cells vs t)).alloc (.cells us u) = W ∧ At t W w.heap.size vs ∧ At u W (w.heap.size + 1) us ∧ Below w.heap.size w W ∧ w.heap.size + 1 < W.heap.size := by
  refine ⟨_, rfl, (at_new t w vs).below (below_alloc _ _), ?_, (below_alloc _ _).trans ((below_alloc _ _).mono (by simp)), by simp⟩
  have := at_new u (w.alloc (.cells vs t)) us
  simpa using this
/-- n structs of K numbers lie in block g. -/
def Recs (K : Nat) (w : World) (g n : Nat) (f : Nat → Int) : Prop := g < w.heap.size ∧ ∀ i, i < n * K → w.cell? ⟨g, i, none⟩ = some (.int .i64 (f i))
theorem Recs.below {K : Nat} {w w' : World} {g n : Nat} {f : Nat → Int} (h : Recs K w g n f) (hb : Below w.heap.size w w') : Recs K w' g n f :=
  ⟨Nat.lt_of_lt_of_le h.1 hb.size, fun i hi => (hb.cell (p := ⟨g, i, none⟩) h.1).trans (h.2 i hi)⟩
theorem Recs.kept {K : Nat} {w w' : World} {g p n : Nat} {f : Nat → Int} (h : Recs K w g n f) (hb : Kept p w w') (hp : g ≠ p) : Recs K w' g n f :=
  ⟨Nat.lt_of_lt_of_le h.1 hb.size, fun i hi => (hb.cell hp h.1).trans (h.2 i hi)⟩
/-- A block of n structs of K, of which the first k are laid. -/
def LaidK (K : Nat) (t : TypeId) (w : World) (g n k : Nat) (f : Nat → Int) : Prop :=
  ∃ cur : Array Value, At t w g cur ∧ cur.size = n * K ∧ ∀ i, i < k * K → cur[i]? = some (.int .i64 (f i))
theorem LaidK.below {K : Nat} {t : TypeId} {w w' : World} {g n k : Nat} {f : Nat → Int} (h : LaidK K t w g n k f) (hb : Below w.heap.size w w') : LaidK K t w' g n k f := by
  obtain ⟨cur, h1, h2, h3⟩ := h
  exact ⟨cur, h1.below hb, h2, h3⟩
theorem LaidK.cells {K : Nat} {t : TypeId} {w : World} {g n k j : Nat} {f : Nat → Int} (h : LaidK K t w g n k f) (hj : j < n * K) : w.cell? ⟨g, j, none⟩ = some (cv w g j) ∧ w.frozen? ⟨g, j, none⟩ = false := by
  obtain ⟨cur, h1, h2, h3⟩ := h
  have hl : j < cur.size := by omega
  have := h1.cell j (Array.getElem?_eq_getElem hl)
  exact ⟨by rw [cv, this]; rfl, h1.frozen j⟩
theorem LaidK.recs {K : Nat} {t : TypeId} {w : World} {g n : Nat} {f : Nat → Int} (h : LaidK K t w g n n f) : Recs K w g n f := by
  obtain ⟨cur, h1, h2, h3⟩ := h
  exact ⟨h1.lt, fun i hi => h1.cell _ (h3 i hi)⟩
/-- Room for n structs of K. -/
def RoomK (K : Nat) (t : TypeId) (w : World) (g n : Nat) : Prop := ∃ cur : Array Value, At t w g cur ∧ cur.size = n * K
theorem RoomK.cell {K : Nat} {t : TypeId} {w : World} {g n : Nat} (h : RoomK K t w g n) {i : Nat} (hi : i < n * K) : w.cell? ⟨g, i, none⟩ = some (cv w g i) ∧ w.frozen? ⟨g, i, none⟩ = false := by
  obtain ⟨cur, h1, h2⟩ := h
  have e := h1.cell i (v := cur[i]) (Array.getElem?_eq_getElem (by omega))
  exact ⟨by rw [cv, e]; rfl, h1.frozen i⟩
theorem RoomK.set {K : Nat} {t : TypeId} {w : World} {g n : Nat} (h : RoomK K t w g n) (i : Nat) (v : Value) : RoomK K t (w.setCell ⟨g, i, none⟩ v) g n := by
  obtain ⟨cur, h1, h2⟩ := h
  exact ⟨_, h1.set i v, by simpa using h2⟩
theorem LaidK.room {K : Nat} {t : TypeId} {w : World} {g n k : Nat} {f : Nat → Int} (h : LaidK K t w g n k f) : RoomK K t w g n := by
  obtain ⟨cur, h1, h2, -⟩ := h
  exact ⟨cur, h1, h2⟩

/-- A list of structs of its own memory, in a block from lo up to hi; or nothing. -/
def ArK (K : Nat) (t : TypeId) (w : World) (lo hi : Nat) (v : Value) (n : Nat) (f : Nat → Int) : Prop :=
  (v = .slice none 0 0 ∧ n = 0) ∨ ∃ g c, v = .slice (some ⟨g, 0, none⟩) n c ∧ lo ≤ g ∧ g < hi ∧ n ≤ c ∧ c ≤ maxLen ∧ LaidK K t w g c n f
/-- A list of structs of K numbers: at the beginning of a block, or empty. -/
def Ls (K : Nat) (w : World) (a : Option Addr) (n : Nat) (f : Nat → Int) : Prop := n = 0 ∨ ∃ g, a = some ⟨g, 0, none⟩ ∧ Recs K w g n f
theorem Ls.below {K : Nat} {w w' : World} {a : Option Addr} {n : Nat} {f : Nat → Int} (h : Ls K w a n f) (hb : Below w.heap.size w w') : Ls K w' a n f :=
  h.imp id (fun ⟨g, e, r⟩ => ⟨g, e, r.below hb⟩)
theorem Ls.some {K : Nat} {w : World} {a : Option Addr} {n k : Nat} {f : Nat → Int} (h : Ls K w a n f) (hk : k < n) : ∃ g, a = some ⟨g, 0, none⟩ ∧ Recs K w g n f := by
  rcases h with h | h
  · omega
  · exact h
theorem Recs.less {K : Nat} {w : World} {g n m : Nat} {f : Nat → Int} (h : Recs K w g n f) (hm : m ≤ n) : Recs K w g m f :=
  ⟨h.1, fun i hi => h.2 i (Nat.lt_of_lt_of_le hi (Nat.mul_le_mul_right K hm))⟩
theorem Recs.same {K : Nat} {w : World} {g n : Nat} {f f' : Nat → Int} (h : Recs K w g n f) (e : ∀ i, i < n * K → f i = f' i) : Recs K w g n f' :=
  ⟨h.1, fun i hi => by rw [← e i hi]; exact h.2 i hi⟩
theorem Ls.same {K : Nat} {w : World} {a : Option Addr} {n : Nat} {f f' : Nat → Int} (h : Ls K w a n f) (e : ∀ i, i < n * K → f i = f' i) : Ls K w a n f' :=
  h.imp id (fun ⟨g, e1, r⟩ => ⟨g, e1, r.same e⟩)
theorem Ls.less {K : Nat} {w : World} {a : Option Addr} {n m : Nat} {f : Nat → Int} (h : Ls K w a n f) (hm : m ≤ n) : Ls K w a m f := by
  rcases h with h | ⟨g, e, r⟩
  · exact .inl (by omega)
  · exact .inr ⟨g, e, r.less hm⟩
theorem LaidK.recsN {K : Nat} {t : TypeId} {w : World} {g c n : Nat} {f : Nat → Int} (h : LaidK K t w g c n f) : Recs K w g n f := by
  obtain ⟨cur, h1, h2, h3⟩ := h
  exact ⟨h1.lt, fun i hi => h1.cell _ (h3 i hi)⟩
theorem LaidK.same {K : Nat} {t : TypeId} {w : World} {g c n : Nat} {f f' : Nat → Int} (h : LaidK K t w g c n f) (e : ∀ i, i < n * K → f i = f' i) : LaidK K t w g c n f' := by
  obtain ⟨cur, h1, h2, h3⟩ := h
  exact ⟨cur, h1, h2, fun i hi => by rw [← e i hi]; exact h3 i hi⟩
theorem LaidK.lt {K : Nat} {t : TypeId} {w : World} {g c n : Nat} {f : Nat → Int} (h : LaidK K t w g c n f) : g < w.heap.size := by
  obtain ⟨cur, h1, -⟩ := h
  exact h1.lt
theorem LaidK.setOther {K : Nat} {t : TypeId} {w : World} {g c n q i : Nat} {f : Nat → Int} (h : LaidK K t w g c n f) (hq : g ≠ q) (v : Value) : LaidK K t (w.setCell ⟨q, i, none⟩ v) g c n f := by
  obtain ⟨cur, h1, h2⟩ := h
  exact ⟨cur, h1.setOther hq v, h2⟩
theorem LaidK.kept {K : Nat} {t : TypeId} {w w' : World} {g c n q : Nat} {f : Nat → Int} (h : LaidK K t w g c n f) (hk : Kept q w w') (hq : g ≠ q) : LaidK K t w' g c n f := by
  obtain ⟨cur, h1, h2⟩ := h
  exact ⟨cur, (hk.block g h1.lt hq).trans h1, h2⟩
/-- Two blocks of unlike types are two. -/
theorem At.apart {t u : TypeId} {w : World} {g h : Nat} {vs us : Array Value} (a : At t w g vs) (b : At u w h us) (htu : t ≠ u) : g ≠ h := by
  intro e
  subst e
  have := a.symm.trans b
  simp at this
  exact htu this.2
theorem LaidK.apart {K L : Nat} {t u : TypeId} {w : World} {g h c d n m : Nat} {f k : Nat → Int} (a : LaidK K t w g c n f) (b : LaidK L u w h d m k) (htu : t ≠ u) : g ≠ h := by
  obtain ⟨_, a1, -⟩ := a
  obtain ⟨_, b1, -⟩ := b
  exact a1.apart b1 htu
theorem LaidK.apartA {K : Nat} {t u : TypeId} {w : World} {g h c n : Nat} {f : Nat → Int} {us : Array Value} (a : LaidK K t w g c n f) (b : At u w h us) (htu : t ≠ u) : g ≠ h := by
  obtain ⟨_, a1, -⟩ := a
  exact a1.apart b htu
/-- One number of the list is turned. -/
def upd (f : Nat → Int) (i : Nat) (x : Int) : Nat → Int := fun j => if j = i then x else f j
theorem LaidK.upd {K : Nat} {t : TypeId} {w : World} {g c n i : Nat} {f : Nat → Int} (h : LaidK K t w g c n f) (hi : i < c * K) (x : Int) : LaidK K t (w.setCell ⟨g, i, none⟩ (.int .i64 x)) g c n (Go.Proofs.YtehbpcoiciodhaaGreat.upd f i x) := by
  obtain ⟨cur, h1, h2, h3⟩ := h
  refine ⟨_, h1.set i _, by simpa using h2, fun j hj => ?_⟩
  by_cases e : j = i
  · subst e
    rw [Array.getElem?_setIfInBounds, if_pos rfl, if_pos (by omega), Go.Proofs.YtehbpcoiciodhaaGreat.upd, if_pos rfl]
  · rw [Array.getElem?_setIfInBounds, if_neg (by omega), Go.Proofs.YtehbpcoiciodhaaGreat.upd, if_neg e]
    exact h3 j hj
theorem ArK.own {K : Nat} {t : TypeId} {w : World} {lo g c n : Nat} {f : Nat → Int} (h : LaidK K t w g c n f) (hl : lo ≤ g) (hn : n ≤ c) (hc : c ≤ maxLen) : ArK K t w lo w.heap.size (.slice (some ⟨g, 0, none⟩) n c) n f :=
  .inr ⟨g, c, rfl, hl, h.lt, hn, hc, h⟩
theorem ArK.ls {K : Nat} {t : TypeId} {w : World} {lo hi : Nat} {v : Value} {n : Nat} {f : Nat → Int} (h : ArK K t w lo hi v n f) : ∃ a c, v = .slice a n c ∧ n ≤ c ∧ Ls K w a n f := by
  rcases h with ⟨rfl, rfl⟩ | ⟨g, c, rfl, _, _, h1, h2, h3⟩
  · exact ⟨none, 0, rfl, Nat.le_refl _, .inl rfl⟩
  · exact ⟨_, c, rfl, h1, .inr ⟨g, rfl, h3.recsN⟩⟩
theorem ArK.below {K : Nat} {t : TypeId} {w w' : World} {lo hi : Nat} {v : Value} {n : Nat} {f : Nat → Int} (h : ArK K t w lo hi v n f) (hb : Below w.heap.size w w') : ArK K t w' lo hi v n f :=
  h.imp id (fun ⟨g, c, e, a, b, d, e1, l⟩ => ⟨g, c, e, a, b, d, e1, l.below hb⟩)
theorem ArK.same {K : Nat} {t : TypeId} {w : World} {lo hi : Nat} {v : Value} {n : Nat} {f f' : Nat → Int} (h : ArK K t w lo hi v n f) (e : ∀ i, i < n * K → f i = f' i) : ArK K t w lo hi v n f' :=
  h.imp id (fun ⟨g, c, e1, a, b, d, e2, l⟩ => ⟨g, c, e1, a, b, d, e2, l.same e⟩)
theorem ArK.wide {K : Nat} {t : TypeId} {w : World} {lo hi lo' hi' : Nat} {v : Value} {n : Nat} {f : Nat → Int} (h : ArK K t w lo hi v n f) (h1 : lo' ≤ lo) (h2 : hi ≤ hi') : ArK K t w lo' hi' v n f :=
  h.imp id (fun ⟨g, c, e1, a, b, d⟩ => ⟨g, c, e1, by omega, by omega, d⟩)
theorem ArK.turn {K : Nat} {t : TypeId} {w w' : World} {lo hi a b : Nat} {v : Value} {n : Nat} {f : Nat → Int} (h : ArK K t w a b v n f) (ht : Turn lo hi w w') (hd : b ≤ lo ∨ hi ≤ a) : ArK K t w' a b v n f := by
  refine h.imp id ?_
  rintro ⟨g, c, e1, h1, h2, h3, h4, cur, k1, k2⟩
  exact ⟨g, c, e1, h1, h2, h3, h4, cur, (ht.block g k1.lt (by omega)).trans k1, k2⟩
theorem ArK.only {K : Nat} {t : TypeId} {w w' : World} {lo hi : Nat} {v u : Value} {n : Nat} {f : Nat → Int} (h : ArK K t w lo hi v n f) (hb : Only u w w') (hu : Apart u v) : ArK K t w' lo hi v n f := by
  refine h.imp id ?_
  rintro ⟨g, c, rfl, h1, h2, h3, h4, cur, k1, k2⟩
  exact ⟨g, c, rfl, h1, h2, h3, h4, cur, (hb.block g k1.lt (fun e => hu g e rfl)).trans k1, k2⟩
theorem ArK.apart {K L : Nat} {t u : TypeId} {w : World} {lo hi lo' hi' : Nat} {v x : Value} {n m : Nat} {f k : Nat → Int} (a : ArK K t w lo hi v n f) (b : ArK L u w lo' hi' x m k) (htu : t ≠ u) : Apart v x := by
  intro j h1 h2
  rcases a with ⟨rfl, -⟩ | ⟨g, c, rfl, _, _, _, _, l1⟩
  · cases h1
  rcases b with ⟨rfl, -⟩ | ⟨g', c', rfl, _, _, _, _, l2⟩
  · cases h2
  cases h1
  have : g' = g := by simpa [Value.ownBlock] using h2
  exact (l1.apart l2 htu) this.symm
theorem ArK.lt {K : Nat} {t : TypeId} {w : World} {lo hi : Nat} {v : Value} {n : Nat} {f : Nat → Int} (h : ArK K t w lo hi v n f) {k : Nat} (hk : v.ownBlock = some k) : lo ≤ k ∧ k < hi ∧ k < w.heap.size := by
  rcases h with ⟨rfl, _⟩ | ⟨g, c, rfl, h1, h2, _, _, h4⟩
  · cases hk
  · cases hk
    exact ⟨h1, h2, h4.lt⟩
theorem Turn.of_onlyK {K : Nat} {t : TypeId} {lo hi : Nat} {v : Value} {w w' : World} {n : Nat} {f : Nat → Int} (h : Only v w w') (ha : ArK K t w lo hi v n f) : Turn lo hi w w' :=
  ⟨h.os, h.tape, h.output, h.size, fun k hk hd => h.block k hk (fun e => by have := ha.lt e; omega)⟩
end Go.Proofs.YtehbpcoiciodhaaGreat
