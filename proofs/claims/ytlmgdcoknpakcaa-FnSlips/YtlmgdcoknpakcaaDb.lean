/-
  Draws of nets: what stands while one is drawn.
-/
import Derived.Test.YtlmgdcoknpakcaaNm
import Derived.Test.YtlmgdcoknpakcaaDx
import Derived.Deep.CutRange
namespace Go.Proofs.Ytlmgdcoknpakcaa
open Go.RowKit

theorem At.kept {t : TypeId} {w w' : World} {q p : Nat} {vs : Array Value} (h : At t w q vs) (hk : Kept p w w') (hq : q ≠ p) : At t w' q vs := (hk.block q h.lt hq).trans h
theorem Dr.setNew {w0 w : World} {p q i : Nat} {a : Option Addr} {len cap : Nat} (h : Dr w0 p a len cap w) (hq : p < q) (h0 : w0.heap.size ≤ q) (v : Value) : Dr w0 p a len cap (w.setCell ⟨q, i, none⟩ v) := by
  refine ⟨⟨h.1.os, h.1.tape, h.1.output, by simpa [World.setCell] using h.1.size, fun k hk hp => (Below.heap_setCell _ _ _ _ (by show k ≠ q; omega)).trans (h.1.block k hk hp)⟩, ?_⟩
  obtain ⟨j, x, hj, hh, hr⟩ := h.2
  refine ⟨j, x, hj, (Below.heap_setCell _ _ _ _ (by show p ≠ q; omega)).trans hh, hr.1, hr.2.imp id ?_⟩
  rintro ⟨b, off, e, hb, hc⟩
  refine ⟨b, off, e, hb, fun j hj => ?_⟩
  obtain ⟨n, n0, n1, n2⟩ := hc j hj
  exact ⟨n, n0, n1, (World.cell?_of_block (w := w) (Below.heap_setCell _ _ _ _ (by show b ≠ q; omega))).trans n2⟩
/-- What grows from a block that is new leaves the cursor alone. -/
theorem Dr.grown {w0 w w' : World} {p N : Nat} {a : Option Addr} {len cap : Nat} (h : Dr w0 p a len cap w) (hb : Below N w w') (h0 : w0.heap.size ≤ N) (hp : p < N) : Dr w0 p a len cap w' := by
  refine ⟨⟨hb.os.trans h.1.os, hb.tape.trans h.1.tape, hb.output.trans h.1.output, Nat.le_trans h.1.size hb.size, fun k hk hkp => (hb.block k (by omega)).trans (h.1.block k hk hkp)⟩, ?_⟩
  obtain ⟨j, x, hj, hh, hr⟩ := h.2
  refine ⟨j, x, hj, (hb.block p hp).trans hh, hr.1, hr.2.imp id ?_⟩
  rintro ⟨b, off, e, hlt, hc⟩
  refine ⟨b, off, e, hlt, fun j hj => ?_⟩
  obtain ⟨n, n0, n1, n2⟩ := hc j hj
  exact ⟨n, n0, n1, (World.cell?_of_block (w := w) (hb.block b (by omega))).trans n2⟩
theorem own_kept {w w' : World} {B p : Nat} {e : TypeId} {k : Nat} {v : Value} {n : Nat} {xs : List Value} (h : w.ownsRow B e k v n xs) (hk : Kept p w w') (hp : p < B) : w'.ownsRow B e k v n xs := by
  refine ⟨h.1, h.2.imp id ?_⟩
  rintro ⟨g, cap, cur, rfl, h1, h2, h3⟩
  exact ⟨g, cap, cur, rfl, h1, (hk.block g (Array.getElem?_eq_some_iff.1 h2).1 (by omega)).trans h2, h3⟩
theorem own_setOther {w : World} {B q i : Nat} {e : TypeId} {k : Nat} {v : Value} {n : Nat} {xs : List Value} (h : w.ownsRow B e k v n xs) (hq : v.ownBlock ≠ some q) (x : Value) : (w.setCell ⟨q, i, none⟩ x).ownsRow B e k v n xs := by
  refine ⟨h.1, h.2.imp id ?_⟩
  rintro ⟨g, cap, cur, rfl, h1, h2, h3⟩
  exact ⟨g, cap, cur, rfl, h1, (Below.heap_setCell _ _ _ _ (fun e => hq (by simp only [Value.ownBlock]; rw [e]))).trans h2, h3⟩
/-- A list of one's own, maybe nil, told by its numbers. -/
def Lst (w : World) (B : Nat) (v : Value) (n : Nat) (f : Nat → Int) : Prop := w.ownsRow B 2 1 v n (iCells f n)
theorem lst_nil (w : World) (B : Nat) (f : Nat → Int) : Lst w B (.slice none 0 0) 0 f := ⟨rfl, .inl ⟨rfl, rfl⟩⟩
/-- The cursor, the answer's box, a net's box and its lists. -/
structure Dn (w0 : World) (p : Nat) (a : Option Addr) (len cap r q : Nat) (us : Array Value) (W H : Int) (v1 v2 : Value) (n1 : Nat) (f1 : Nat → Int) (n2 : Nat) (f2 : Nat → Int) (w : World) : Prop where
  d : Dr w0 p a len cap w
  ar : At 32 w r us
  aq : At 32 w q #[.int .i64 W, .int .i64 H, v1, v2]
  o1 : Lst w (r + 1) v1 n1 f1
  o2 : Lst w (r + 1) v2 n2 f2
  ap : Apart v1 v2
  q1 : v1.ownBlock ≠ some q
  q2 : v2.ownBlock ≠ some q
  x1 : p < r
  x2 : r < q
  x3 : w0.heap.size ≤ r
theorem Dn.below {w0 w w' : World} {p : Nat} {a : Option Addr} {len cap r q : Nat} {us : Array Value} {W H : Int} {v1 v2 : Value} {n1 n2 : Nat} {f1 f2 : Nat → Int} (h : Dn w0 p a len cap r q us W H v1 v2 n1 f1 n2 f2 w) (hb : Below w.heap.size w w') : Dn w0 p a len cap r q us W H v1 v2 n1 f1 n2 f2 w' :=
  ⟨h.d.below hb, h.ar.below hb, h.aq.below hb, own_below h.o1 hb, own_below h.o2 hb, h.ap, h.q1, h.q2, h.x1, h.x2, h.x3⟩
theorem Dn.kept {w0 w w' : World} {p : Nat} {a : Option Addr} {len cap r q : Nat} {us : Array Value} {W H : Int} {v1 v2 : Value} {n1 n2 : Nat} {f1 f2 : Nat → Int} (h : Dn w0 p a len cap r q us W H v1 v2 n1 f1 n2 f2 w) (hk : Dr w p a len cap w') : Dn w0 p a len cap r q us W H v1 v2 n1 f1 n2 f2 w' := by
  have x1 := h.x1
  have x2 := h.x2
  exact ⟨hk.from h.d.1, h.ar.kept hk.1 (by omega), h.aq.kept hk.1 (by omega), own_kept h.o1 hk.1 (by omega), own_kept h.o2 hk.1 (by omega), h.ap, h.q1, h.q2, h.x1, h.x2, h.x3⟩
theorem below_dn {w0 w : World} {p : Nat} {a : Option Addr} {len cap r q : Nat} {us : Array Value} {W H : Int} {v1 v2 : Value} {n1 n2 : Nat} {f1 f2 : Nat → Int} (h : Dn w0 p a len cap r q us W H v1 v2 n1 f1 n2 f2 w) (n : Int) (hn0 : 0 < n) (hn : n ≤ 1073741824) :
    Calls Try.prog 38 #[.pointer (some ⟨p, 0, none⟩), .int .i64 n] w fun e w' => ∃ x : Int, e = .returned (.int .i64 x) ∧ 0 ≤ x ∧ x < n ∧ Dn w0 p a len cap r q us W H v1 v2 n1 f1 n2 f2 w' :=
  (below_dr (Dr.start h.d.2) n hn0 hn).mono fun _ _ ⟨x, e, x0, x1, k⟩ => ⟨x, e, x0, x1, h.kept k⟩
theorem once_dn {w0 w : World} {p : Nat} {a : Option Addr} {len cap r q : Nat} {us : Array Value} {W H : Int} {v1 v2 : Value} {n1 n2 : Nat} {f1 f2 : Nat → Int} (h : Dn w0 p a len cap r q us W H v1 v2 n1 f1 n2 f2 w) (n : Int) (hn0 : 0 < n) (hn : n ≤ 1073741824) :
    Calls Try.prog 39 #[.pointer (some ⟨p, 0, none⟩), .int .i64 n] w fun e w' => ∃ b : Bool, e = .returned (.bool b) ∧ Dn w0 p a len cap r q us W H v1 v2 n1 f1 n2 f2 w' :=
  (once_dr (Dr.start h.d.2) n hn0 hn).mono fun _ _ ⟨x, e, k⟩ => ⟨x, e, h.kept k⟩
theorem from_dn {w0 w : World} {p : Nat} {a : Option Addr} {len cap r q : Nat} {us : Array Value} {W H : Int} {v1 v2 : Value} {n1 n2 : Nat} {f1 f2 : Nat → Int} (h : Dn w0 p a len cap r q us W H v1 v2 n1 f1 n2 f2 w) (lo hi : Int) (h0 : lo ≤ hi) (h1 : -1000000000 ≤ lo) (h2 : hi ≤ 1000000000) (h3 : hi - lo < 1073741824) :
    Calls Try.prog 57 #[.pointer (some ⟨p, 0, none⟩), .int .i64 lo, .int .i64 hi] w fun e w' => ∃ x : Int, e = .returned (.int .i64 x) ∧ lo ≤ x ∧ x ≤ hi ∧ Dn w0 p a len cap r q us W H v1 v2 n1 f1 n2 f2 w' :=
  (from_dr (Dr.start h.d.2) lo hi h0 h1 h2 h3).mono fun _ _ ⟨x, e, x0, x1, k⟩ => ⟨x, e, x0, x1, h.kept k⟩
theorem own_far' {w w' : World} {B : Nat} {e : TypeId} {k : Nat} {v : Value} {n : Nat} {xs : List Value} {row : Option Nat} (h : w.ownsRow B e k v n xs) (hg : w.grownBy w' row) (hne : ∀ b, v.ownBlock = some b → row ≠ some b) : w'.ownsRow B e k v n xs := by
  refine ⟨h.1, h.2.imp id ?_⟩
  rintro ⟨g, cap, cur, rfl, h1, h2, h3⟩
  exact ⟨g, cap, cur, rfl, h1, (hg.block g (Array.getElem?_eq_some_iff.1 h2).1 (fun e => hne g rfl e.symm)).trans h2, h3⟩
theorem own_lt {w : World} {B : Nat} {e : TypeId} {k : Nat} {v : Value} {n : Nat} {xs : List Value} (h : w.ownsRow B e k v n xs) {b : Nat} (hb : v.ownBlock = some b) : B ≤ b ∧ b < w.heap.size := by
  rcases h.2 with ⟨rfl, _⟩ | ⟨g, cap, cur, rfl, h1, h2, _⟩
  · cases hb
  · cases hb; exact ⟨h1, (Array.getElem?_eq_some_iff.1 h2).1⟩
theorem own_shape {w : World} {B : Nat} {e : TypeId} {k : Nat} {v : Value} {n : Nat} {xs : List Value} (h : w.ownsRow B e k v (n + 1) xs) : ∃ g c, v = .slice (some ⟨g, 0, none⟩) (n + 1) c := by
  rcases h.2 with ⟨_, e⟩ | ⟨g, cap, cur, rfl, _⟩
  · cases e
  · exact ⟨g, cap, rfl⟩
/-- A number is appended to the first list, and the list stored. -/
theorem Dn.app1 {w0 w w' : World} {p : Nat} {a : Option Addr} {len cap r q : Nat} {us : Array Value} {W H : Int} {v1 v2 v' : Value} {n1 n2 : Nat} {f1 f2 : Nat → Int} (h : Dn w0 p a len cap r q us W H v1 v2 n1 f1 n2 f2 w) (x : Int)
    (ho : w'.ownsRow (r + 1) 2 1 v' (n1 + 1) (iCells f1 n1 ++ [.int .i64 x])) (hg : w.grownBy w' v1.ownBlock) (hat : v'.ownBlock = v1.ownBlock ∨ v'.ownBlock = some w.heap.size) :
    At 32 w' q #[.int .i64 W, .int .i64 H, v1, v2] ∧ Dn w0 p a len cap r q us W H v' v2 (n1 + 1) (fun i => if i = n1 then x else f1 i) n2 f2 (w'.setCell ⟨q, 2, none⟩ v') := by
  have x1 := h.x1; have x2 := h.x2; have x3 := h.x3
  have lq := h.aq.lt
  have Bg : Below (r + 1) w w' := Below.grown (Below.refl _ _) hg (by omega) (fun k hk => (own_lt h.o1 hk).1)
  have aq : At 32 w' q #[.int .i64 W, .int .i64 H, v1, v2] := (hg.block q lq (fun e => h.q1 e.symm)).trans h.aq
  have nq : v'.ownBlock ≠ some q := by
    rcases hat with e | e <;> rw [e]
    · exact h.q1
    · intro e; simp only [Option.some.injEq] at e; omega
  have o2 : Lst w' (r + 1) v2 n2 f2 := own_far' h.o2 hg (fun b hb e => h.ap b e hb)
  refine ⟨aq, (h.d.grown Bg (by omega) (by omega)).setNew (by omega) (by omega) _, (h.ar.belowN Bg (by omega)).setOther (by omega) _, by simpa using aq.set 2 v', own_setOther (by rw [iCells_snoc] at ho; exact ho) nq _, own_setOther o2 h.q2 _, ?_, nq, h.q2, x1, x2, x3⟩
  intro k e1 e2
  rcases hat with e | e
  · exact h.ap k (e ▸ e1) e2
  · rw [e] at e1
    simp only [Option.some.injEq] at e1
    have := (own_lt h.o2 e2).2
    omega
theorem Dn.app2 {w0 w w' : World} {p : Nat} {a : Option Addr} {len cap r q : Nat} {us : Array Value} {W H : Int} {v1 v2 v' : Value} {n1 n2 : Nat} {f1 f2 : Nat → Int} (h : Dn w0 p a len cap r q us W H v1 v2 n1 f1 n2 f2 w) (x : Int)
    (ho : w'.ownsRow (r + 1) 2 1 v' (n2 + 1) (iCells f2 n2 ++ [.int .i64 x])) (hg : w.grownBy w' v2.ownBlock) (hat : v'.ownBlock = v2.ownBlock ∨ v'.ownBlock = some w.heap.size) :
    At 32 w' q #[.int .i64 W, .int .i64 H, v1, v2] ∧ Dn w0 p a len cap r q us W H v1 v' n1 f1 (n2 + 1) (fun i => if i = n2 then x else f2 i) (w'.setCell ⟨q, 3, none⟩ v') := by
  have x1 := h.x1; have x2 := h.x2; have x3 := h.x3
  have lq := h.aq.lt
  have Bg : Below (r + 1) w w' := Below.grown (Below.refl _ _) hg (by omega) (fun k hk => (own_lt h.o2 hk).1)
  have aq : At 32 w' q #[.int .i64 W, .int .i64 H, v1, v2] := (hg.block q lq (fun e => h.q2 e.symm)).trans h.aq
  have nq : v'.ownBlock ≠ some q := by
    rcases hat with e | e <;> rw [e]
    · exact h.q2
    · intro e; simp only [Option.some.injEq] at e; omega
  have o1 : Lst w' (r + 1) v1 n1 f1 := own_far' h.o1 hg (fun b hb e => h.ap b hb e)
  refine ⟨aq, (h.d.grown Bg (by omega) (by omega)).setNew (by omega) (by omega) _, (h.ar.belowN Bg (by omega)).setOther (by omega) _, by simpa using aq.set 3 v', own_setOther o1 h.q1 _, own_setOther (by rw [iCells_snoc] at ho; exact ho) nq _, ?_, h.q1, nq, x1, x2, x3⟩
  intro k e1 e2
  rcases hat with e | e
  · exact h.ap k e1 (e ▸ e2)
  · rw [e] at e2
    simp only [Option.some.injEq] at e2
    have := (own_lt h.o1 e1).2
    omega
/-- A list of one's own, or nil. -/
def Rw (w : World) (B : Nat) (v : Value) (n : Nat) (f : Nat → Int) : Prop := (v = .slice none 0 0 ∧ n = 0) ∨ ∃ g c, v = .slice (some ⟨g, 0, none⟩) n c ∧ B ≤ g ∧ n ≤ c ∧ Made w g c n f
theorem Rw.of_lst {w : World} {B : Nat} {v : Value} {n : Nat} {f : Nat → Int} (h : Lst w B v n f) : Rw w B v n f := by
  by_cases hv : v = .slice none 0 0
  · subst hv
    rcases h.2 with ⟨-, e⟩ | ⟨g, cap, cur, e, _⟩
    · exact .inl ⟨rfl, e⟩
    · cases e
  · obtain ⟨g, c, rfl, h1, h2, h3⟩ := made_of h hv
    exact .inr ⟨g, c, rfl, h1, h2, h3⟩
theorem Rw.of_arr {w : World} {B lo hi : Nat} {v : Value} {n : Nat} {f : Nat → Int} (h : Arr w lo hi v n f) (hB : B ≤ lo) : Rw w B v n f := by
  rcases h with h | ⟨g, c, rfl, h1, -, h2, h3⟩
  · exact .inl h
  · exact .inr ⟨g, c, rfl, by omega, h2, h3⟩
theorem Rw.arr {w : World} {B : Nat} {v : Value} {n : Nat} {f : Nat → Int} (h : Rw w B v n f) : Arr w B w.heap.size v n f := by
  rcases h with h | ⟨g, c, rfl, h1, h2, h3⟩
  · exact .inl h
  · exact .inr ⟨g, c, rfl, h1, h3.lt, h2, h3⟩
theorem Rw.below {w w' : World} {B : Nat} {v : Value} {n : Nat} {f : Nat → Int} (h : Rw w B v n f) (hb : Below w.heap.size w w') : Rw w' B v n f := by
  rcases h with h | ⟨g, c, rfl, h1, h2, h3⟩
  · exact .inl h
  · exact .inr ⟨g, c, rfl, h1, h2, h3.bel hb⟩
theorem Rw.kept {w w' : World} {B p : Nat} {v : Value} {n : Nat} {f : Nat → Int} (h : Rw w B v n f) (hk : Kept p w w') (hp : p < B) : Rw w' B v n f := by
  rcases h with h | ⟨g, c, rfl, h1, h2, cur, h3, h4⟩
  · exact .inl h
  · exact .inr ⟨g, c, rfl, h1, h2, cur, (hk.block g h3.lt (by omega)).trans h3, h4⟩
theorem Rw.setOther {w : World} {B q i : Nat} {v : Value} {n : Nat} {f : Nat → Int} (h : Rw w B v n f) (hq : v.ownBlock ≠ some q) (x : Value) : Rw (w.setCell ⟨q, i, none⟩ x) B v n f := by
  rcases h with h | ⟨g, c, rfl, h1, h2, h3⟩
  · exact .inl h
  · exact .inr ⟨g, c, rfl, h1, h2, h3.setOther (fun e => hq (by rw [e]; rfl)) _⟩
theorem Rw.lt {w : World} {B : Nat} {v : Value} {n : Nat} {f : Nat → Int} (h : Rw w B v n f) {b : Nat} (hb : v.ownBlock = some b) : B ≤ b ∧ b < w.heap.size := by
  rcases h with ⟨rfl, -⟩ | ⟨g, c, rfl, h1, h2, h3⟩
  · cases hb
  · cases hb; exact ⟨h1, h3.lt⟩
theorem Rw.wide {w : World} {B C : Nat} {v : Value} {n : Nat} {f : Nat → Int} (h : Rw w B v n f) (hC : C ≤ B) : Rw w C v n f := by
  rcases h with h | ⟨g, c, rfl, h1, h2, h3⟩
  · exact .inl h
  · exact .inr ⟨g, c, rfl, by omega, h2, h3⟩
theorem Rw.shape {w : World} {B : Nat} {v : Value} {n : Nat} {f : Nat → Int} (h : Rw w B v n f) : ∃ a c, v = .slice a n c := by
  rcases h with ⟨rfl, rfl⟩ | ⟨g, c, rfl, -⟩
  · exact ⟨_, _, rfl⟩
  · exact ⟨_, _, rfl⟩
structure Dm (w0 : World) (p : Nat) (a : Option Addr) (len cap r q : Nat) (us : Array Value) (W H : Int) (v1 v2 : Value) (n1 : Nat) (f1 : Nat → Int) (n2 : Nat) (f2 : Nat → Int) (w : World) : Prop where
  d : Dr w0 p a len cap w
  ar : At 32 w r us
  aq : At 32 w q #[.int .i64 W, .int .i64 H, v1, v2]
  o1 : Rw w (r + 1) v1 n1 f1
  o2 : Rw w (r + 1) v2 n2 f2
  ap : Apart v1 v2
  q1 : v1.ownBlock ≠ some q
  q2 : v2.ownBlock ≠ some q
  x1 : p < r
  x2 : r < q
  x3 : w0.heap.size ≤ r
theorem Dm.below {w0 w w' : World} {p : Nat} {a : Option Addr} {len cap r q : Nat} {us : Array Value} {W H : Int} {v1 v2 : Value} {n1 n2 : Nat} {f1 f2 : Nat → Int} (h : Dm w0 p a len cap r q us W H v1 v2 n1 f1 n2 f2 w) (hb : Below w.heap.size w w') : Dm w0 p a len cap r q us W H v1 v2 n1 f1 n2 f2 w' :=
  ⟨h.d.below hb, h.ar.below hb, h.aq.below hb, h.o1.below hb, h.o2.below hb, h.ap, h.q1, h.q2, h.x1, h.x2, h.x3⟩
theorem Dm.kept {w0 w w' : World} {p : Nat} {a : Option Addr} {len cap r q : Nat} {us : Array Value} {W H : Int} {v1 v2 : Value} {n1 n2 : Nat} {f1 f2 : Nat → Int} (h : Dm w0 p a len cap r q us W H v1 v2 n1 f1 n2 f2 w) (hk : Dr w p a len cap w') : Dm w0 p a len cap r q us W H v1 v2 n1 f1 n2 f2 w' := by
  have x1 := h.x1
  have x2 := h.x2
  exact ⟨hk.from h.d.1, h.ar.kept hk.1 (by omega), h.aq.kept hk.1 (by omega), h.o1.kept hk.1 (by omega), h.o2.kept hk.1 (by omega), h.ap, h.q1, h.q2, h.x1, h.x2, h.x3⟩
theorem Dn.dm {w0 w : World} {p : Nat} {a : Option Addr} {len cap r q : Nat} {us : Array Value} {W H : Int} {v1 v2 : Value} {n1 n2 : Nat} {f1 f2 : Nat → Int} (h : Dn w0 p a len cap r q us W H v1 v2 n1 f1 n2 f2 w) : Dm w0 p a len cap r q us W H v1 v2 n1 f1 n2 f2 w := ⟨h.d, h.ar, h.aq, .of_lst h.o1, .of_lst h.o2, h.ap, h.q1, h.q2, h.x1, h.x2, h.x3⟩
theorem below_dm {w0 w : World} {p : Nat} {a : Option Addr} {len cap r q : Nat} {us : Array Value} {W H : Int} {v1 v2 : Value} {n1 n2 : Nat} {f1 f2 : Nat → Int} (h : Dm w0 p a len cap r q us W H v1 v2 n1 f1 n2 f2 w) (n : Int) (hn0 : 0 < n) (hn : n ≤ 1073741824) :
    Calls Try.prog 38 #[.pointer (some ⟨p, 0, none⟩), .int .i64 n] w fun e w' => ∃ x : Int, e = .returned (.int .i64 x) ∧ 0 ≤ x ∧ x < n ∧ Dm w0 p a len cap r q us W H v1 v2 n1 f1 n2 f2 w' :=
  (below_dr (Dr.start h.d.2) n hn0 hn).mono fun _ _ ⟨x, e, x0, x1, k⟩ => ⟨x, e, x0, x1, h.kept k⟩
theorem once_dm {w0 w : World} {p : Nat} {a : Option Addr} {len cap r q : Nat} {us : Array Value} {W H : Int} {v1 v2 : Value} {n1 n2 : Nat} {f1 f2 : Nat → Int} (h : Dm w0 p a len cap r q us W H v1 v2 n1 f1 n2 f2 w) (n : Int) (hn0 : 0 < n) (hn : n ≤ 1073741824) :
    Calls Try.prog 39 #[.pointer (some ⟨p, 0, none⟩), .int .i64 n] w fun e w' => ∃ b : Bool, e = .returned (.bool b) ∧ Dm w0 p a len cap r q us W H v1 v2 n1 f1 n2 f2 w' :=
  (once_dr (Dr.start h.d.2) n hn0 hn).mono fun _ _ ⟨x, e, k⟩ => ⟨x, e, h.kept k⟩
theorem Dm.net {w0 w : World} {p : Nat} {a : Option Addr} {len cap r q : Nat} {us : Array Value} {W H : Int} {v1 v2 : Value} {n1 n2 : Nat} {f1 f2 : Nat → Int} (h : Dm w0 p a len cap r q us W H v1 v2 n1 f1 n2 f2 w) : NetAt w (r + 1) w.heap.size (nV W H v1 v2) W H n1 f1 n2 f2 := ⟨_, _, rfl, h.o1.arr, h.o2.arr, h.ap⟩
/-- A net of later memory is stored into the box. -/
theorem Dm.fill {w0 w : World} {p : Nat} {a : Option Addr} {len cap r q : Nat} {us : Array Value} {W H : Int} {v1 v2 : Value} {n1 n2 : Nat} {f1 f2 : Nat → Int} (h : Dm w0 p a len cap r q us W H v1 v2 n1 f1 n2 f2 w) {W' H' : Int} {y1 y2 : Value} {m1 m2 : Nat} {h1 h2 : Nat → Int} (k1 : Rw w (r + 1) y1 m1 h1) (k2 : Rw w (r + 1) y2 m2 h2) (ka : Apart y1 y2) (kq1 : y1.ownBlock ≠ some q) (kq2 : y2.ownBlock ≠ some q) :
    Dm w0 p a len cap r q us W' H' y1 y2 m1 h1 m2 h2 ((((w.setCell ⟨q, 0, none⟩ (.int .i64 W')).setCell ⟨q, 1, none⟩ (.int .i64 H')).setCell ⟨q, 2, none⟩ y1).setCell ⟨q, 3, none⟩ y2) := by
  have x1 := h.x1; have x2 := h.x2; have x3 := h.x3
  exact ⟨(((h.d.setNew (by omega) (by omega) _).setNew (by omega) (by omega) _).setNew (by omega) (by omega) _).setNew (by omega) (by omega) _, (((h.ar.setOther (by omega) _).setOther (by omega) _).setOther (by omega) _).setOther (by omega) _, put4_at h.aq _ _ _ _, (((k1.setOther kq1 _).setOther kq1 _).setOther kq1 _).setOther kq1 _, (((k2.setOther kq2 _).setOther kq2 _).setOther kq2 _).setOther kq2 _, ka, kq1, kq2, x1, x2, x3⟩
theorem NetAt.ints' {w : World} {lo hi : Nat} {m : Value} {W H : Int} {lr lu : Nat} {r u : Nat → Int} (h : NetAt w lo hi m W H lr r lu u) (h1 : 0 < lr) (h2 : 0 < lu) : ∃ g c g' c', m = nV W H (.slice (some ⟨g, 0, none⟩) lr c) (.slice (some ⟨g', 0, none⟩) lu c') ∧ Ints w g 0 lr r ∧ Ints w g' 0 lu u ∧ g < w.heap.size ∧ g' < w.heap.size := by
  obtain ⟨v, v', rfl, a1, a2, -⟩ := h
  rcases a1 with ⟨-, e⟩ | ⟨g, c, rfl, -, -, -, m1⟩
  · omega
  rcases a2 with ⟨-, e⟩ | ⟨g', c', rfl, -, -, -, m2⟩
  · omega
  exact ⟨g, c, g', c', rfl, m1.ints, m2.ints, m1.lt, m2.lt⟩
theorem sq_pos {W H x y : Int} {lr lu : Nat} {r u : Nat → Int} (hok : netOk W H lr r lu u = true) (hs : sq W H x y = true) : 0 < lr ∧ 0 < lu := by
  obtain ⟨hW, hH, ⟨e1, -⟩, e2, -⟩ := netOk_of_true hok
  simp only [sq, Bool.and_eq_true, decide_eq_true_eq] at hs
  have p1 : 1 * 1 ≤ (W - 1) * H := Int.mul_le_mul (by omega) (by omega) (by omega) (by omega)
  have p2 : 1 * 1 ≤ W * (H - 1) := Int.mul_le_mul (by omega) (by omega) (by omega) (by omega)
  omega
/-- Slip by the specification at any net: a net of new memory. -/
theorem specSlip_tot {w : World} {lo hi : Nat} {m : Value} {W H : Int} {lr lu : Nat} {r u : Nat → Int} (hN : NetAt w lo hi m W H lr r lu u) (x y b : Int) (hlr : lr ≤ 1048576) (hlu : lu ≤ 1048576) :
    Calls Try.prog 22 #[m, .int .i64 x, .int .i64 y, .int .i64 b] w fun e w' => ∃ v1 v2 k W' H' lr' r' lu' u', e = .returned (.tuple #[nV W' H' v1 v2, .bool k]) ∧ NetAt w' w.heap.size w'.heap.size (nV W' H' v1 v2) W' H' lr' r' lu' u' ∧ (k = true → W' = W ∧ H' = H ∧ lr' = lr ∧ lu' = lu) ∧ Below w.heap.size w w' := by
  by_cases h : netOk W H lr r lu u = true ∧ sq W H x y = true ∧ -2000000 ≤ b ∧ b ≤ 2000000
  · obtain ⟨hok, hs, hd⟩ := h
    have hl := sq_pos hok hs
    obtain ⟨g, c, g', c', rfl, i1, i2, l1, l2⟩ := hN.ints' hl.1 hl.2
    refine (specSlip_yes W H x y b i1 i2 l1 l2 hlr hlu hok hs hd).mono ?_
    rintro e w' ⟨v, k, rfl, ⟨-, hv⟩, hb⟩
    rcases hv with ⟨rfl, hn⟩ | ⟨rfl, rfl⟩
    · have hn0 := hn
      obtain ⟨v1, v2, rfl, -⟩ := hn0
      exact ⟨v1, v2, true, W, H, _, _, _, _, rfl, hn, fun _ => ⟨rfl, rfl, rfl, rfl⟩, hb⟩
    · exact ⟨_, _, false, 0, 0, 0, r, 0, u, rfl, netZero _ _ _ _ _, (fun e => by cases e), hb⟩
  · obtain ⟨a, c, a', c', rfl, s1, s2⟩ := hN.open
    refine (specSlip_no W H x y b s1 s2 hlr hlu h).mono ?_
    rintro e w' ⟨rfl, hb⟩
    exact ⟨_, _, false, 0, 0, 0, r, 0, u, rfl, netZero _ _ _ _ _, (fun e => by cases e), hb⟩
theorem from_dm {w0 w : World} {p : Nat} {a : Option Addr} {len cap r q : Nat} {us : Array Value} {W H : Int} {v1 v2 : Value} {n1 n2 : Nat} {f1 f2 : Nat → Int} (h : Dm w0 p a len cap r q us W H v1 v2 n1 f1 n2 f2 w) (lo hi : Int) (h0 : lo ≤ hi) (h1 : -1000000000 ≤ lo) (h2 : hi ≤ 1000000000) (h3 : hi - lo < 1073741824) :
    Calls Try.prog 57 #[.pointer (some ⟨p, 0, none⟩), .int .i64 lo, .int .i64 hi] w fun e w' => ∃ x : Int, e = .returned (.int .i64 x) ∧ lo ≤ x ∧ x ≤ hi ∧ Dm w0 p a len cap r q us W H v1 v2 n1 f1 n2 f2 w' :=
  (from_dr (Dr.start h.d.2) lo hi h0 h1 h2 h3).mono fun _ _ ⟨x, e, x0, x1, k⟩ => ⟨x, e, x0, x1, h.kept k⟩
/-- A store into another new block. -/
theorem Dm.other {w0 w : World} {p : Nat} {a : Option Addr} {len cap r q : Nat} {us : Array Value} {W H : Int} {v1 v2 : Value} {n1 n2 : Nat} {f1 f2 : Nat → Int} (h : Dm w0 p a len cap r q us W H v1 v2 n1 f1 n2 f2 w) {s i : Nat} (hs : r < s) (hq : s ≠ q) (h1 : v1.ownBlock ≠ some s) (h2 : v2.ownBlock ≠ some s) (x : Value) : Dm w0 p a len cap r q us W H v1 v2 n1 f1 n2 f2 (w.setCell ⟨s, i, none⟩ x) := by
  have x1 := h.x1; have x2 := h.x2; have x3 := h.x3
  exact ⟨h.d.setNew (by omega) (by omega) _, h.ar.setOther (by omega) _, h.aq.setOther (by omega) _, h.o1.setOther h1 _, h.o2.setOther h2 _, h.ap, h.q1, h.q2, x1, x2, x3⟩
/-- What was drawn of a slip: its box, its lists. -/
structure Mx (r q : Nat) (W' H' : Int) (y1 y2 : Value) (m1 : Nat) (h1 : Nat → Int) (m2 : Nat) (h2 : Nat → Int) (w : World) : Prop where
  k1 : Rw w (r + 1) y1 m1 h1
  k2 : Rw w (r + 1) y2 m2 h2
  ka : Apart y1 y2
  q1 : y1.ownBlock ≠ some q
  q2 : y2.ownBlock ≠ some q
theorem mx_of {w : World} {lo hi r q : Nat} {W' H' : Int} {y1 y2 : Value} {m1 m2 : Nat} {h1 h2 : Nat → Int} (N : NetAt w lo hi (nV W' H' y1 y2) W' H' m1 h1 m2 h2) (hr : r < q) (hq : q < lo) : Mx r q W' H' y1 y2 m1 h1 m2 h2 w := by
  obtain ⟨z1, z2, e, A1, A2, ap⟩ := N
  simp at e
  obtain ⟨rfl, rfl⟩ := e
  exact ⟨.of_arr A1 (by omega), .of_arr A2 (by omega), ap, fun e => by have := (A1.lt e).1; omega, fun e => by have := (A2.lt e).1; omega⟩
theorem Mx.below {w w' : World} {r q : Nat} {W' H' : Int} {y1 y2 : Value} {m1 m2 : Nat} {h1 h2 : Nat → Int} (h : Mx r q W' H' y1 y2 m1 h1 m2 h2 w) (hb : Below w.heap.size w w') : Mx r q W' H' y1 y2 m1 h1 m2 h2 w' := ⟨h.k1.below hb, h.k2.below hb, h.ka, h.q1, h.q2⟩
theorem Mx.other {w : World} {r q : Nat} {W' H' : Int} {y1 y2 : Value} {m1 m2 : Nat} {h1 h2 : Nat → Int} (h : Mx r q W' H' y1 y2 m1 h1 m2 h2 w) {b i : Nat} (e1 : y1.ownBlock ≠ some b) (e2 : y2.ownBlock ≠ some b) (x : Value) : Mx r q W' H' y1 y2 m1 h1 m2 h2 (w.setCell ⟨b, i, none⟩ x) := ⟨h.k1.setOther e1 _, h.k2.setOther e2 _, h.ka, h.q1, h.q2⟩
/-- Behind the drawn slip. -/
def Drawn (w0 : World) (p : Nat) (a : Option Addr) (len cap r q : Nat) (us : Array Value) (W H : Int) (v1 v2 : Value) (n1 : Nat) (f1 : Nat → Int) (n2 : Nat) (f2 : Nat → Int) (s10 s11 : Value) (w : World) : Prop :=
  Dm w0 p a len cap r q us W H v1 v2 n1 f1 n2 f2 w ∧ ∃ (s : Nat) (W' H' : Int) (y1 y2 : Value) (m1 : Nat) (h1 : Nat → Int) (m2 : Nat) (h2 : Nat → Int) (k : Bool), s10 = .pointer (some ⟨s, 0, none⟩) ∧ s11 = .bool k ∧ At 32 w s #[.int .i64 W', .int .i64 H', y1, y2] ∧ s ≠ q ∧ Mx r q W' H' y1 y2 m1 h1 m2 h2 w ∧ (k = true → W' = W ∧ H' = H ∧ m1 = n1 ∧ m2 = n2)
end Go.Proofs.Ytlmgdcoknpakcaa
