/-
  The search for the best plan: what is held while plans wait in the heap, one more put, the best one taken. No walk.
-/
import Derived.Test.YtcpeaenophaphaaAt
import Derived.Test.YtcpeaenophaphaaAu
namespace Go.Proofs.Ytcpeaenophaphaa
open Go.RowKit

/-- Their lists are all apart. -/
def InjL (n : Nat) (F : Nat → Pl) : Prop := ∀ i j, i < n → j < n → (F i).l = (F j).l → i = j
def MemL (n : Nat) (F : Nat → Pl) (y : List Nat) : Prop := ∃ i, i < n ∧ (F i).l = y
theorem InjL.inj {n : Nat} {F : Nat → Pl} (h : InjL n F) : Inj n F := fun i j hi hj e => h i j hi hj (by rw [e])
theorem InjL.rg {n : Nat} {F G : Nat → Pl} (h : InjL n F) (r : Rg n F G) : InjL n G := by
  intro i j hi hj e
  obtain ⟨a, ha, ea⟩ := (r.2 (G i)).1 ⟨i, hi, rfl⟩
  obtain ⟨b, hb, eb⟩ := (r.2 (G j)).1 ⟨j, hj, rfl⟩
  have hab : a = b := h a b ha hb (by rw [ea, eb, e])
  exact r.1 h.inj i j hi hj (by rw [← ea, ← eb, hab])
theorem memL_rg {n : Nat} {F G : Nat → Pl} (r : Rg n F G) (y : List Nat) : MemL n G y ↔ MemL n F y := by
  constructor
  · rintro ⟨i, hi, rfl⟩
    obtain ⟨a, ha, ea⟩ := (r.2 (G i)).1 ⟨i, hi, rfl⟩
    exact ⟨a, ha, by rw [ea]⟩
  · rintro ⟨i, hi, rfl⟩
    obtain ⟨a, ha, ea⟩ := (r.2 (F i)).2 ⟨i, hi, rfl⟩
    exact ⟨a, ha, by rw [ea]⟩
theorem memL_put (n : Nat) (F : Nat → Pl) (x : Pl) (y : List Nat) : MemL (n + 1) (upd F n x) y ↔ (MemL n F y ∨ y = x.l) := by
  constructor
  · rintro ⟨i, hi, rfl⟩
    by_cases e : i = n
    · subst e; rw [upd_at]; exact .inr rfl
    · rw [upd_o _ _ e]; exact .inl ⟨i, by omega, rfl⟩
  · rintro (⟨i, hi, rfl⟩ | rfl)
    · exact ⟨i, by omega, by rw [upd_o _ _ (by omega)]⟩
    · exact ⟨n, by omega, by rw [upd_at]⟩
theorem InjL.put {n : Nat} {F : Nat → Pl} {x : Pl} (h : InjL n F) (hx : ¬ MemL n F x.l) : InjL (n + 1) (upd F n x) := by
  intro i j hi hj e
  by_cases e1 : i = n
  · by_cases e2 : j = n
    · omega
    · rw [e1, upd_at, upd_o _ _ e2] at e
      exact absurd ⟨j, by omega, e.symm⟩ hx
  · by_cases e2 : j = n
    · rw [e2, upd_at, upd_o _ _ e1] at e
      exact absurd ⟨i, by omega, e⟩ hx
    · rw [upd_o _ _ e1, upd_o _ _ e2] at e
      exact h i j (by omega) (by omega) e
theorem memL_take {n : Nat} {F : Nat → Pl} (h : InjL (n + 1) F) (y : List Nat) : MemL n (upd F 0 (F n)) y ↔ (MemL (n + 1) F y ∧ y ≠ (F 0).l) := by
  constructor
  · rintro ⟨i, hi, rfl⟩
    by_cases e : i = 0
    · subst e
      rw [upd_at]
      exact ⟨⟨n, by omega, rfl⟩, fun hh => by have := h n 0 (by omega) (by omega) hh; omega⟩
    · rw [upd_o _ _ e]
      exact ⟨⟨i, by omega, rfl⟩, fun hh => e (h i 0 (by omega) (by omega) hh)⟩
  · rintro ⟨⟨i, hi, rfl⟩, h2⟩
    by_cases e0 : i = 0
    · subst e0; exact absurd rfl h2
    by_cases e : i = n
    · subst e; exact ⟨0, by omega, by rw [upd_at]⟩
    · exact ⟨i, by omega, by rw [upd_o _ _ e0]⟩
theorem InjL.take {n : Nat} {F : Nat → Pl} (h : InjL (n + 1) F) : InjL n (upd F 0 (F n)) := by
  intro i j hi hj e
  by_cases e1 : i = 0
  · by_cases e2 : j = 0
    · omega
    · rw [e1, upd_at, upd_o _ _ e2] at e
      have := h n j (by omega) (by omega) e
      omega
  · by_cases e2 : j = 0
    · rw [e2, upd_at, upd_o _ _ e1] at e
      have := h i n (by omega) (by omega) e
      omega
    · rw [upd_o _ _ e1, upd_o _ _ e2] at e
      exact h i j (by omega) (by omega) e
/-- A plan of the search: its list is new memory, its mask tells what its list shows. -/
def Fit (w0 : World) (n : Nat → Nat) (f : Nat → Nat → Int) (x : Pl) : Prop := w0.heap.size ≤ x.g ∧ x.s = ((msk (shw n f x.l) 64 : Nat) : Int)
/-- What is held while the search goes. -/
structure Sta (w0 w : World) (B q p gs N : Nat) (n : Nat → Nat) (f : Nat → Nat → Int) (nH : Nat) (v : Value) (F : Nat → Pl) : Prop where
  hv : HvP w B q v nH F
  hp : Hp qlt nH F
  inj : InjL nH F
  fit : ∀ i, i < nH → Fit w0 n f (F i)
  us : U64s w gs N (fun i => msk (Hs f i (n i)) 64)
  b : Below w0.heap.size w0 w
  o1 : w0.heap.size ≤ q
  o2 : gs < q
  o3 : q < p
  o4 : p < B
  o5 : B ≤ w.heap.size
/-- The plan in hand, in its box. -/
structure Bst (w0 w : World) (p : Nat) (n : Nat → Nat) (f : Nat → Nat → Int) (x : Pl) : Prop where
  box : At 56 w p #[.slice (some ⟨x.g, 0, none⟩) x.l.length x.c, .int .u64 x.s]
  ok : Ok w x
  fit : Fit w0 n f x
theorem Sta.below {w0 w w' : World} {B q p gs N : Nat} {n : Nat → Nat} {f : Nat → Nat → Int} {nH : Nat} {v : Value} {F : Nat → Pl} (s : Sta w0 w B q p gs N n f nH v F) (hb : Below w.heap.size w w') : Sta w0 w' B q p gs N n f nH v F :=
  ⟨s.hv.below hb, s.hp, s.inj, s.fit, s.us.below hb, s.b.trans (hb.mono s.b.size), s.o1, s.o2, s.o3, s.o4, Nat.le_trans s.o5 hb.size⟩
theorem Bst.below {w0 w w' : World} {p : Nat} {n : Nat → Nat} {f : Nat → Nat → Int} {x : Pl} (s : Bst w0 w p n f x) (hb : Below w.heap.size w w') : Bst w0 w' p n f x := ⟨s.box.below hb, s.ok.below hb, s.fit⟩
theorem Sta.own {w0 w : World} {B q p gs N : Nat} {n : Nat → Nat} {f : Nat → Nat → Int} {nH : Nat} {v : Value} {F : Nat → Pl} (s : Sta w0 w B q p gs N n f nH v F) {j : Nat} (hj : v.ownBlock = some j) : B ≤ j := (own_ge s.hv.own hj).1
theorem U64s.mv {w w' : World} {g N q : Nat} {o : Option Nat} {m : Nat → Nat} (h : U64s w g N m) (k : MvP q o w w') (hq : g ≠ q) (ho : o ≠ some g) : U64s w' g N m := by
  obtain ⟨cur, h1, h2⟩ := h
  exact ⟨cur, k.at h1 hq ho, h2⟩
theorem ok_one {w w' : World} {q : Nat} {o : Option Nat} {x : Pl} {hs : Array Value} (h : Ok w x) (hd : At 59 w q hs) (hg : ∀ j, o = some j → ∃ cur, At 56 w j cur) (k : MvP q o w w') : Ok w' x :=
  ok_mvO (n := 1) (f := fun _ => x) (fun _ _ => h) hd hg (fun i hi h1 h2 => k.block i hi h1 h2) 0 (by omega)
theorem Sta.put {w0 w w' : World} {B q p gs N : Nat} {n : Nat → Nat} {f : Nat → Nat → Int} {nH : Nat} {v : Value} {F : Nat → Pl} {x y : Pl} (s : Sta w0 w B q p gs N n f nH v F) (b : Bst w0 w p n f x) (hy : Fit w0 n f y) (hn : ¬ MemL nH F y.l) (h : PutPP w B q nH v F y w') :
    ∃ v' F', Sta w0 w' B q p gs N n f (nH + 1) v' F' ∧ Bst w0 w' p n f x ∧ ∀ z, MemL (nH + 1) F' z ↔ (MemL nH F z ∨ z = y.l) := by
  obtain ⟨v', F', h1, h2, h3, h4, h5⟩ := h
  have ne : ∀ k, k < B → v.ownBlock ≠ some k := fun k hk e => by have := s.own e; omega
  have o4 := s.o4
  have o3 := s.o3
  have o2 := s.o2
  refine ⟨v', F', ⟨h1, h2, (s.inj.put hn).rg h3, fun i hi => ?_, s.us.mv h4 (by omega) (ne _ (by omega)), h4.below s.b (by have := s.o1; omega) (fun k hk => by have := s.own hk; have := s.o1; omega) s.b.size, s.o1, s.o2, s.o3, s.o4, Nat.le_trans s.o5 h4.size⟩, ⟨h4.at b.box (by omega) (ne _ (by omega)), ok_one b.ok s.hv.hd (own_atO s.hv.own) h4, b.fit⟩, fun z => (memL_rg h3 z).trans (memL_put nH F y z)⟩
  obtain ⟨a, ha, ea⟩ := (h3.2 (F' i)).1 ⟨i, hi, rfl⟩
  rw [← ea]
  by_cases e : a = nH
  · subst e; rw [upd_at]; exact hy
  · rw [upd_o _ _ e]; exact s.fit a (by omega)
theorem Sta.take {w0 w w' : World} {B q p gs N : Nat} {n : Nat → Nat} {f : Nat → Nat → Int} {nH : Nat} {v : Value} {F : Nat → Pl} {vs : Array Value} (s : Sta w0 w B q p gs N n f (nH + 1) v F) (b : At 56 w p vs) (h : TakePP w B q nH v F w') :
    ∃ v' F', Sta w0 w' B q p gs N n f nH v' F' ∧ At 56 w' p vs ∧ Ok w' (F 0) ∧ (∀ z, MemL nH F' z ↔ (MemL (nH + 1) F z ∧ z ≠ (F 0).l)) := by
  obtain ⟨v', F', h1, h2, h3, h4, h5⟩ := h
  have ne : ∀ k, k < B → v.ownBlock ≠ some k := fun k hk e => by have := s.own e; omega
  have o4 := s.o4
  have o3 := s.o3
  have o2 := s.o2
  refine ⟨v', F', ⟨h1, h2, s.inj.take.rg h3, fun i hi => ?_, s.us.mv h4 (by omega) (ne _ (by omega)), h4.below s.b (by have := s.o1; omega) (fun k hk => by have := s.own hk; have := s.o1; omega) s.b.size, s.o1, s.o2, s.o3, s.o4, Nat.le_trans s.o5 h4.size⟩, h4.at b (by omega) (ne _ (by omega)), ok_one (s.hv.ok 0 (by omega)) s.hv.hd (own_atO s.hv.own) h4, fun z => (memL_rg h3 z).trans (memL_take s.inj z)⟩
  obtain ⟨a, ha, ea⟩ := (h3.2 (F' i)).1 ⟨i, hi, rfl⟩
  rw [← ea]
  by_cases e : a = 0
  · subst e; rw [upd_at]; exact s.fit nH (by omega)
  · rw [upd_o _ _ e]; exact s.fit a (by omega)
/-- A box of a plan written over. -/
theorem put2_at {t : TypeId} {w : World} {q : Nat} {x0 x1 : Value} (h : At t w q #[x0, x1]) (v0 v1 : Value) : At t ((w.setCell ⟨q, 0, none⟩ v0).setCell ⟨q, 1, none⟩ v1) q #[v0, v1] := by
  simpa using (h.set 0 v0).set 1 v1
theorem Sta.box {w0 w : World} {B q p gs N : Nat} {n : Nat → Nat} {f : Nat → Nat → Int} {nH : Nat} {v : Value} {F : Nat → Pl} {x : Pl} {x0 x1 : Value} (s : Sta w0 w B q p gs N n f nH v F) (b : At 56 w p #[x0, x1]) (ho : Ok w x) (hx : Fit w0 n f x) :
    Sta w0 ((w.setCell ⟨p, 0, none⟩ (.slice (some ⟨x.g, 0, none⟩) x.l.length x.c)).setCell ⟨p, 1, none⟩ (.int .u64 x.s)) B q p gs N n f nH v F ∧ Bst w0 ((w.setCell ⟨p, 0, none⟩ (.slice (some ⟨x.g, 0, none⟩) x.l.length x.c)).setCell ⟨p, 1, none⟩ (.int .u64 x.s)) p n f x := by
  have ne : v.ownBlock ≠ some p := fun e => by have := s.own e; have := s.o4; omega
  have o3 := s.o3
  have o2 := s.o2
  have o1 := s.o1
  have b1 := b.set 0 (.slice (some ⟨x.g, 0, none⟩) x.l.length x.c)
  have U : ∀ {w : World} {i : Nat} {u : Value}, U64s w gs N (fun i => msk (Hs f i (n i)) 64) → U64s (w.setCell ⟨p, i, none⟩ u) gs N (fun i => msk (Hs f i (n i)) 64) := fun h => by
    obtain ⟨cur, h1, h2⟩ := h
    exact ⟨cur, h1.setOther (by omega) _, h2⟩
  refine ⟨⟨(s.hv.setFresh (by omega) ne ⟨_, b⟩ _).setFresh (by omega) ne ⟨_, b1⟩ _, s.hp, s.inj, s.fit, U (U s.us), (s.b.setCell (p := ⟨p, 0, none⟩) (show w0.heap.size ≤ p by omega) _).setCell (p := ⟨p, 1, none⟩) (show w0.heap.size ≤ p by omega) _, s.o1, s.o2, s.o3, s.o4, by simpa [World.setCell] using s.o5⟩, ⟨put2_at b _ _, ok_fresh (ok_fresh ho ⟨_, b⟩ _) ⟨_, b1⟩ _, hx⟩⟩
/-- The list of the plan in hand, read from the world. -/
def lOf (w : World) (p : Nat) : List Nat := match w.cell? ⟨p, 0, none⟩ with
  | some (.slice (some a) n _) => (List.range n).map (fun i => (intOf ((w.cell? ⟨a.block, i, none⟩).getD undef)).toNat)
  | _ => []
theorem Bst.lOf {w0 w : World} {p : Nat} {n : Nat → Nat} {f : Nat → Nat → Int} {x : Pl} (s : Bst w0 w p n f x) : lOf w p = x.l := by
  have h0 := (s.box.open2).1
  unfold Go.Proofs.Ytcpeaenophaphaa.lOf
  rw [h0]
  simp only
  apply List.ext_getElem
  · simp
  · intro i h1 h2
    have hc := s.ok.ints.2 i h2
    rw [Nat.zero_add] at hc
    simp only [List.getElem_map, List.getElem_range, hc, Option.getD_some, intOf]
    simp [toI, h2]
theorem Bst.arr {w0 w : World} {p : Nat} {n : Nat → Nat} {f : Nat → Nat → Int} {x : Pl} (s : Bst w0 w p n f x) : Arr w w0.heap.size w.heap.size (.slice (some ⟨x.g, 0, none⟩) x.l.length x.c) x.l.length (fun i => (toI x.l).getD i 0) := by
  rcases s.ok.1.2 with ⟨e, _⟩ | ⟨g, c, cur, e, hb, hh, hc1, hc2, hsz, ht⟩
  · cases e
  · simp only [Value.slice.injEq, Option.some.injEq, Addr.mk.injEq] at e
    obtain ⟨⟨rfl, -, -⟩, -, rfl⟩ := e
    refine .inr ⟨x.g, x.c, rfl, s.fit.1, (Array.getElem?_eq_some_iff.1 hh).1, hc1, cur, hh, by omega, fun i hi => ?_⟩
    have a1 : (lCells (toI x.l))[i]? = some (.int .i64 ((toI x.l).getD i 0)) := by
      have : i < (toI x.l).length := by rw [toI_len]; exact hi
      simp [lCells, this]
    rw [← ht, List.getElem?_take_of_lt (by omega)] at a1
    simpa using a1
/-- No more wait than 4096. -/
theorem Sta.few {w0 w : World} {B q p gs N : Nat} {n : Nat → Nat} {f : Nat → Nat → Int} {nH : Nat} {v : Value} {F : Nat → Pl} (s : Sta w0 w B q p gs N n f nH v F) (hN : N ≤ 12) (hr : ∀ y, MemL nH F y → rsg N y) : nH ≤ 4096 :=
  Nat.le_trans (wait_le (f := fun i => (F i).l) (fun i j hi hj e => s.inj i j hi hj e) (fun i hi => hr _ ⟨i, hi, rfl⟩)) (pow12 hN)
end Go.Proofs.Ytcpeaenophaphaa
