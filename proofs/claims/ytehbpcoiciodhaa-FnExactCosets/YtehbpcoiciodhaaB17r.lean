/-
  Lists of lists of operators that grow, their own. No function of the program.
-/
import Derived.Test.YtehbpcoiciodhaaE9r
import Derived.Test.YtehbpcoiciodhaaNB
import Derived.Test.YtehbpcoiciodhaaBlN
namespace Go.Proofs.Ytehbpcoiciodhaa
open Go.RowKit

/-- Put behind the first n. -/
def addAt {α : Type} (f : Nat → α) (n : Nat) (x : α) (t : Nat) : α := if t = n then x else f t
theorem addAt_lo {α : Type} {f : Nat → α} {n t : Nat} {x : α} (h : t < n) : addAt f n x t = f t := by simp [addAt, show t ≠ n by omega]
theorem addAt_at {α : Type} (f : Nat → α) (n : Nat) (x : α) : addAt f n x n = x := by simp [addAt]
theorem addAt_row {f : Nat → Value} {n : Nat} {x : Value} : (List.range (n + 1)).map (addAt f n x) = (List.range n).map f ++ [x] := by
  rw [List.range_succ, List.map_append, List.map_cons, List.map_nil, addAt_at]
  congr 1
  exact List.map_congr_left (fun t ht => addAt_lo (List.mem_range.1 ht))
/-- Block d holds neither operators nor numbers nor lists. -/
def Alien (w : World) (d : Nat) : Prop := ∀ t cur, At t w d cur → t ≠ 48 ∧ t ≠ 2 ∧ t ≠ 28
theorem alien_bl {w : World} {g n : Nat} {P : Nat → Bool} (h : BlN w g n P) : Alien w g := fun t cur a => by
  obtain ⟨cur', h1, -⟩ := h
  have e := h1.symm.trans a
  simp only [Option.some.injEq, Obj.cells.injEq] at e
  rw [← e.2.1]
  decide
theorem alien_map {w : World} {b : Nat} {ks : List (Nat → Int)} (h : MapV w b ks) : Alien w b := fun _ _ a => absurd rfl (h.ne_at a)
theorem Alien.below {w w' : World} {d : Nat} (h : Alien w d) (hd : d < w.heap.size) (hb : Below w.heap.size w w') : Alien w' d := fun t cur a => h t cur ((hb.block d hd).symm.trans a)
theorem arr_alien {w w' : World} {lo hi n d : Nat} {v : Value} {f : Nat → Int} (r : Arr w lo hi v n f) (hg : w.grownBy w' (some d)) (hd : Alien w d) : Arr w' lo hi v n f := by
  refine arr_grown r hg (fun k hk e => ?_)
  simp only [Option.some.injEq] at e
  subst e
  rcases r with ⟨rfl, -⟩ | ⟨g', c, rfl, h1, h2, h3, cur', h4, h5⟩
  · cases hk
  · cases hk
    exact (hd _ _ h4).2.1 rfl
theorem OpsR.alien {w w' : World} {lo hi g n d : Nat} {A : Nat → OpD} (h : OpsR w lo hi g n A) (hg : w.grownBy w' (some d)) (hd : Alien w d) : OpsR w' lo hi g n A := by
  obtain ⟨X, Y, cur, a, e, xs, ys⟩ := h.ex
  refine ⟨h.bl, h.bh, X, Y, cur, (hg.block g a.lt (fun e => ?_)).trans a, e, fun i hi => arr_alien (xs i hi) hg hd, fun i hi => arr_alien (ys i hi) hg hd⟩
  simp only [Option.some.injEq] at e
  subst e
  exact (hd _ _ a).1 rfl
theorem OpsR.wider {w : World} {lo hi hi' g n : Nat} {A : Nat → OpD} (h : OpsR w lo hi g n A) (hh : hi ≤ hi') : OpsR w lo hi' g n A := by
  obtain ⟨X, Y, cur, a, e, xs, ys⟩ := h.ex
  exact ⟨h.bl, Nat.lt_of_lt_of_le h.bh hh, X, Y, cur, a, e, fun i hi => (xs i hi).wide (Nat.le_refl _) hh, fun i hi => (ys i hi).wide (Nat.le_refl _) hh⟩
theorem OpsA.alien {w w' : World} {lo hi g n d : Nat} {X Y : Nat → Value} {A : Nat → OpD} (h : OpsA w lo hi g n X Y A) (hg : w.grownBy w' (some d)) (hd : Alien w d) : OpsA w' lo hi g n X Y A := by
  obtain ⟨h1, h2, cur, a, e⟩ := h.blk
  refine ⟨⟨h1, h2, cur, (hg.block g a.lt (fun e => ?_)).trans a, e⟩, fun i hi => arr_alien (h.xs i hi) hg hd, fun i hi => arr_alien (h.ys i hi) hg hd, h.dj⟩
  simp only [Option.some.injEq] at e
  subst e
  exact (hd _ _ a).1 rfl
theorem row_alien {w w' : World} {lo L d : Nat} {v : Value} {xs : List Value} (h : w.ownsRow lo 28 1 v L xs) (hg : w.grownBy w' (some d)) (hd : Alien w d) : w'.ownsRow lo 28 1 v L xs := by
  obtain ⟨e0, h1 | ⟨g', c', cur, e, hb, hh, r⟩⟩ := h
  · exact ⟨e0, .inl h1⟩
  · subst e
    refine ⟨e0, .inr ⟨g', c', cur, rfl, hb, (hg.block g' (Array.getElem?_eq_some_iff.1 hh).1 (fun e => ?_)).trans hh, r⟩⟩
    simp only [Option.some.injEq] at e
    subst e
    exact (hd _ _ hh).2.2 rfl
theorem infoSlO : (Try.prog.info? 28).map (fun i => (i.zero, i.size, i.bytes)) = some (some (.slice none 0 0), 1, 24) := by kernel_rfl
theorem grown_refl (w : World) (row : Option Nat) : w.grownBy w row := ⟨rfl, rfl, rfl, Nat.le_refl _, fun _ _ _ => rfl⟩
theorem opsP_alien {w w' : World} {lo n d : Nat} {v : Value} {X Y : Nat → Value} {A : Nat → OpD} (h : OpsP w lo v n X Y A) (hg : w.grownBy w' (some d)) (hd : Alien w d) : OpsP w' lo v n X Y A := by
  refine ⟨?_, h.nn, fun i hi => (arr_alien (h.xs i hi) hg hd).wide (Nat.le_refl _) hg.size, fun i hi => (arr_alien (h.ys i hi) hg hd).wide (Nat.le_refl _) hg.size, h.nk⟩
  obtain ⟨e0, h1 | ⟨g', c', cur, e, hb, hh, r⟩⟩ := h.row
  · exact ⟨e0, .inl h1⟩
  · subst e
    refine ⟨e0, .inr ⟨g', c', cur, rfl, hb, (hg.block g' (Array.getElem?_eq_some_iff.1 hh).1 (fun e => ?_)).trans hh, r⟩⟩
    simp only [Option.some.injEq] at e
    subst e
    exact (hd _ _ hh).1 rfl
/-- A list of lists of m operators each, that grows; what stands in the lists is read alone. -/
structure LsP (w : World) (lo : Nat) (v : Value) (L : Nat) (V : Nat → Value) (m : Nat) (B : Nat → Nat → OpD) : Prop where
  row : w.ownsRow lo 28 1 v L ((List.range L).map V)
  nn : v ≠ .slice none 0 0
  el : ∀ j, j < L → ∃ g c, V j = .slice (some ⟨g, 0, none⟩) m c ∧ OpsR w lo w.heap.size g m (B j)
theorem LsP.below {w w' : World} {lo L m : Nat} {v : Value} {V : Nat → Value} {B : Nat → Nat → OpD} (h : LsP w lo v L V m B) (hb : Below w.heap.size w w') : LsP w' lo v L V m B :=
  ⟨own_below h.row hb, h.nn, fun j hj => by
    obtain ⟨g, c, e, r⟩ := h.el j hj
    exact ⟨g, c, e, (r.below hb).wider hb.size⟩⟩
theorem LsP.lower {w : World} {lo lo' L m : Nat} {v : Value} {V : Nat → Value} {B : Nat → Nat → OpD} (h : LsP w lo v L V m B) (hl : lo' ≤ lo) : LsP w lo' v L V m B :=
  ⟨by
    obtain ⟨e0, h1 | ⟨g', c', cur, e, hb, r⟩⟩ := h.row
    · exact ⟨e0, .inl h1⟩
    · exact ⟨e0, .inr ⟨g', c', cur, e, Nat.le_trans hl hb, r⟩⟩, h.nn, fun j hj => by
    obtain ⟨g, c, e, r⟩ := h.el j hj
    exact ⟨g, c, e, r.lower hl⟩⟩
theorem LsP.alien {w w' : World} {lo L m d : Nat} {v : Value} {V : Nat → Value} {B : Nat → Nat → OpD} (h : LsP w lo v L V m B) (hg : w.grownBy w' (some d)) (hd : Alien w d) : LsP w' lo v L V m B :=
  ⟨row_alien h.row hg hd, h.nn, fun j hj => by
    obtain ⟨g, c, e, r⟩ := h.el j hj
    exact ⟨g, c, e, (r.alien hg hd).wider hg.size⟩⟩
theorem row_open {w : World} {lo L : Nat} {v : Value} {V : Nat → Value} (h : w.ownsRow lo 28 1 v L ((List.range L).map V)) (nn : v ≠ .slice none 0 0) : ∃ g c cur, v = .slice (some ⟨g, 0, none⟩) L c ∧ lo ≤ g ∧ At 28 w g cur ∧ ∀ j, j < L → cur[j]? = some (V j) := by
  rcases h.2 with ⟨h1, _⟩ | ⟨g, c, cur, e, hb, hh, h3, h4, h5, h6⟩
  · exact absurd h1 nn
  · refine ⟨g, c, cur, e, hb, hh, fun j hj => ?_⟩
    have := congrArg (fun l => l[j]?) h6
    simp only [List.getElem?_take, Nat.mul_one] at this
    rw [if_pos hj] at this
    simpa [hj] using this
theorem LsP.open {w : World} {lo L m : Nat} {v : Value} {V : Nat → Value} {B : Nat → Nat → OpD} (h : LsP w lo v L V m B) : ∃ g c cur, v = .slice (some ⟨g, 0, none⟩) L c ∧ lo ≤ g ∧ At 28 w g cur ∧ ∀ j, j < L → cur[j]? = some (V j) := row_open h.row h.nn
/-- A list of lists, read alone. -/
def LsL (w : World) (g L m : Nat) (B : Nat → Nat → OpD) : Prop := g < w.heap.size ∧ ∀ j, j < L → ∃ h c, w.cell? ⟨g, j, none⟩ = some (.slice (some ⟨h, 0, none⟩) m c) ∧ OpsL w h m (B j)
theorem LsL.below {w w' : World} {g L m : Nat} {B : Nat → Nat → OpD} (h : LsL w g L m B) (hb : Below w.heap.size w w') : LsL w' g L m B :=
  ⟨Nat.lt_of_lt_of_le h.1 hb.size, fun j hj => by
    obtain ⟨q, c, e, r⟩ := h.2 j hj
    exact ⟨q, c, (hb.cell (p := ⟨g, j, none⟩) h.1).trans e, r.below hb⟩⟩
theorem LsP.lsL {w : World} {lo L m : Nat} {v : Value} {V : Nat → Value} {B : Nat → Nat → OpD} (h : LsP w lo v L V m B) : ∃ g c, v = .slice (some ⟨g, 0, none⟩) L c ∧ lo ≤ g ∧ LsL w g L m B := by
  obtain ⟨g, c, cur, rfl, hb, a, e⟩ := h.open
  refine ⟨g, c, rfl, hb, a.lt, fun j hj => ?_⟩
  obtain ⟨q, d, e2, r⟩ := h.el j hj
  exact ⟨q, d, by rw [← e2]; exact a.cell _ (e j hj), r.opsL⟩
theorem lsP_new {w W : World} {m : Nat} {B : Nat → Nat → OpD} (a1 : At 28 W w.heap.size #[]) : LsP W w.heap.size (.slice (some ⟨w.heap.size, 0, none⟩) 0 0) 0 (fun _ => undef) m B :=
  ⟨⟨rfl, .inr ⟨w.heap.size, 0, #[], rfl, Nat.le_refl _, a1, Nat.le_refl _, Nat.zero_le _, rfl, rfl⟩⟩, ne_nil _ _ _, fun j hj => by omega⟩
/-- What an append to the list of lists turns is alien to the lists within. -/
theorem row_alienO {w : World} {lo L q : Nat} {v : Value} {V : Nat → Value} (h : w.ownsRow lo 28 1 v L ((List.range L).map V)) (nn : v ≠ .slice none 0 0) (hq : v.ownBlock = some q) : ∀ t cur, At t w q cur → t = 28 := fun t cur a => by
  obtain ⟨g, c, cur', rfl, -, a', -⟩ := row_open h nn
  cases hq
  have e := a'.symm.trans a
  simp only [Option.some.injEq, Obj.cells.injEq] at e
  exact e.2.1.symm
theorem OpsR.alienO {w w' : World} {lo hi g n q : Nat} {A : Nat → OpD} (h : OpsR w lo hi g n A) (hg : w.grownBy w' (some q)) (hd : ∀ t cur, At t w q cur → t = 28) : OpsR w' lo hi g n A := by
  obtain ⟨X, Y, cur, a, e, xs, ys⟩ := h.ex
  have up : ∀ {u : Value} {k : Nat} {f : Nat → Int}, Arr w lo hi u k f → Arr w' lo hi u k f := fun r => by
    refine arr_grown r hg (fun k hk e => ?_)
    simp only [Option.some.injEq] at e
    subst e
    rcases r with ⟨rfl, -⟩ | ⟨g', c, rfl, h1, h2, h3, cur', h4, h5⟩
    · cases hk
    · cases hk
      exact absurd (hd _ _ h4) (by decide)
  refine ⟨h.bl, h.bh, X, Y, cur, (hg.block g a.lt (fun e => ?_)).trans a, e, fun i hi => up (xs i hi), fun i hi => up (ys i hi)⟩
  simp only [Option.some.injEq] at e
  subst e
  exact absurd (hd _ _ a) (by decide)
theorem OpsA.alienO {w w' : World} {lo hi g n q : Nat} {X Y : Nat → Value} {A : Nat → OpD} (h : OpsA w lo hi g n X Y A) (hg : w.grownBy w' (some q)) (hd : ∀ t cur, At t w q cur → t = 28) : OpsA w' lo hi g n X Y A := by
  obtain ⟨h1, h2, cur, a, e⟩ := h.blk
  have up : ∀ {u : Value} {k : Nat} {f : Nat → Int}, Arr w lo hi u k f → Arr w' lo hi u k f := fun r => by
    refine arr_grown r hg (fun k hk e => ?_)
    simp only [Option.some.injEq] at e
    subst e
    rcases r with ⟨rfl, -⟩ | ⟨g', c, rfl, h1, h2, h3, cur', h4, h5⟩
    · cases hk
    · cases hk
      exact absurd (hd _ _ h4) (by decide)
  refine ⟨⟨h1, h2, cur, (hg.block g a.lt (fun e => ?_)).trans a, e⟩, fun i hi => up (h.xs i hi), fun i hi => up (h.ys i hi), h.dj⟩
  simp only [Option.some.injEq] at e
  subst e
  exact absurd (hd _ _ a) (by decide)
/-- One list more. -/
theorem LsP.next {w3 w4 : World} {lo L m g c : Nat} {v v4 : Value} {V : Nat → Value} {B : Nat → Nat → OpD} {Bn : Nat → OpD} (h : LsP w3 lo v L V m B) (hp : OpsR w3 lo w3.heap.size g m Bn) (hg : w3.grownBy w4 v.ownBlock) (hrow : w4.ownsRow lo 28 1 v4 (L + 1) ((List.range L).map V ++ [.slice (some ⟨g, 0, none⟩) m c])) (hne : v4 ≠ .slice none 0 0) : LsP w4 lo v4 (L + 1) (addAt V L (.slice (some ⟨g, 0, none⟩) m c)) m (addAt B L Bn) := by
  obtain ⟨q, d, cur, rfl, hb, a, e⟩ := h.open
  have hq := row_alienO h.row h.nn rfl
  refine ⟨by rw [addAt_row]; exact hrow, hne, fun j hj => ?_⟩
  by_cases e1 : j = L
  · subst e1
    rw [addAt_at, addAt_at]
    exact ⟨g, c, rfl, (hp.alienO hg hq).wider hg.size⟩
  · rw [addAt_lo (by omega), addAt_lo (by omega)]
    obtain ⟨g', c', e2, r⟩ := h.el j (by omega)
    exact ⟨g', c', e2, (r.alienO hg hq).wider hg.size⟩
/-- A list of lists of m operators each, that grows; each list in a stretch of memory of its own. -/
structure LsA (w : World) (lo : Nat) (v : Value) (L : Nat) (V : Nat → Value) (m : Nat) (S T : Nat → Nat) (B : Nat → Nat → OpD) : Prop where
  row : w.ownsRow lo 28 1 v L ((List.range L).map V)
  nn : v ≠ .slice none 0 0
  el : ∀ j, j < L → ∃ g c X Y, V j = .slice (some ⟨g, 0, none⟩) m c ∧ OpsA w (S j) (T j) g m X Y (B j)
  st : ∀ j, j < L → lo ≤ S j ∧ T j ≤ w.heap.size
  ord : ∀ i j, i < j → j < L → T i ≤ S j
  ob : ∀ q, v.ownBlock = some q → ∀ j, j < L → q < S j ∨ T j ≤ q
theorem LsA.below {w w' : World} {lo L m : Nat} {v : Value} {V : Nat → Value} {S T : Nat → Nat} {B : Nat → Nat → OpD} (h : LsA w lo v L V m S T B) (hb : Below w.heap.size w w') : LsA w' lo v L V m S T B :=
  ⟨own_below h.row hb, h.nn, fun j hj => by
    obtain ⟨g, c, X, Y, e, r⟩ := h.el j hj
    exact ⟨g, c, X, Y, e, r.below hb⟩, fun j hj => ⟨(h.st j hj).1, Nat.le_trans (h.st j hj).2 hb.size⟩, h.ord, h.ob⟩
theorem LsA.lower {w : World} {lo lo' L m : Nat} {v : Value} {V : Nat → Value} {S T : Nat → Nat} {B : Nat → Nat → OpD} (h : LsA w lo v L V m S T B) (hl : lo' ≤ lo) : LsA w lo' v L V m S T B :=
  ⟨by
    obtain ⟨e0, h1 | ⟨g', c', cur, e, hb, r⟩⟩ := h.row
    · exact ⟨e0, .inl h1⟩
    · exact ⟨e0, .inr ⟨g', c', cur, e, Nat.le_trans hl hb, r⟩⟩, h.nn, h.el, fun j hj => ⟨Nat.le_trans hl (h.st j hj).1, (h.st j hj).2⟩, h.ord, h.ob⟩
theorem LsA.alien {w w' : World} {lo L m d : Nat} {v : Value} {V : Nat → Value} {S T : Nat → Nat} {B : Nat → Nat → OpD} (h : LsA w lo v L V m S T B) (hg : w.grownBy w' (some d)) (hd : Alien w d) : LsA w' lo v L V m S T B :=
  ⟨row_alien h.row hg hd, h.nn, fun j hj => by
    obtain ⟨g, c, X, Y, e, r⟩ := h.el j hj
    exact ⟨g, c, X, Y, e, r.alien hg hd⟩, fun j hj => ⟨(h.st j hj).1, Nat.le_trans (h.st j hj).2 hg.size⟩, h.ord, h.ob⟩
theorem LsA.open {w : World} {lo L m : Nat} {v : Value} {V : Nat → Value} {S T : Nat → Nat} {B : Nat → Nat → OpD} (h : LsA w lo v L V m S T B) : ∃ g c cur, v = .slice (some ⟨g, 0, none⟩) L c ∧ lo ≤ g ∧ At 28 w g cur ∧ ∀ j, j < L → cur[j]? = some (V j) := row_open h.row h.nn
theorem LsA.lsL {w : World} {lo L m : Nat} {v : Value} {V : Nat → Value} {S T : Nat → Nat} {B : Nat → Nat → OpD} (h : LsA w lo v L V m S T B) : ∃ g c, v = .slice (some ⟨g, 0, none⟩) L c ∧ lo ≤ g ∧ LsL w g L m B := by
  obtain ⟨g, c, cur, rfl, hb, a, e⟩ := h.open
  refine ⟨g, c, rfl, hb, a.lt, fun j hj => ?_⟩
  obtain ⟨q, d, X, Y, e2, r⟩ := h.el j hj
  exact ⟨q, d, by rw [← e2]; exact a.cell _ (e j hj), r.opsL⟩
theorem lsA_new {w W : World} {m : Nat} {B : Nat → Nat → OpD} (a1 : At 28 W w.heap.size #[]) : LsA W w.heap.size (.slice (some ⟨w.heap.size, 0, none⟩) 0 0) 0 (fun _ => undef) m (fun _ => 0) (fun _ => 0) B :=
  ⟨⟨rfl, .inr ⟨w.heap.size, 0, #[], rfl, Nat.le_refl _, a1, Nat.le_refl _, Nat.zero_le _, rfl, rfl⟩⟩, ne_nil _ _ _, fun j hj => by omega, fun j hj => by omega, fun i j _ hj => by omega, fun q _ j hj => by omega⟩
/-- One list more, made since w2. -/
theorem LsA.next {w2 w3 w4 : World} {lo L m g c hi : Nat} {v v4 : Value} {V : Nat → Value} {S T : Nat → Nat} {X Y : Nat → Value} {B : Nat → Nat → OpD} {Bn : Nat → OpD} (h : LsA w2 lo v L V m S T B) (hlo : lo ≤ w2.heap.size) (b3 : Below w2.heap.size w2 w3) (hp : OpsA w3 w2.heap.size hi g m X Y Bn) (hhi : hi ≤ w3.heap.size) (hg : w3.grownBy w4 v.ownBlock) (hrow : w4.ownsRow lo 28 1 v4 (L + 1) ((List.range L).map V ++ [.slice (some ⟨g, 0, none⟩) m c])) (hne : v4 ≠ .slice none 0 0) (hblk : v4.ownBlock = v.ownBlock ∨ v4.ownBlock = some w3.heap.size) : LsA w4 lo v4 (L + 1) (addAt V L (.slice (some ⟨g, 0, none⟩) m c)) m (addAt S L w2.heap.size) (addAt T L hi) (addAt B L Bn) := by
  have h3 := h.below b3
  obtain ⟨q, d, cur, rfl, hb, a, e⟩ := h.open
  have hq := row_alienO h3.row h3.nn rfl
  refine ⟨by rw [addAt_row]; exact hrow, hne, fun j hj => ?_, fun j hj => ?_, fun i j hij hj => ?_, fun x hx j hj => ?_⟩
  · by_cases e1 : j = L
    · subst e1
      simp only [addAt_at]
      exact ⟨g, c, X, Y, rfl, hp.alienO hg hq⟩
    · simp only [addAt_lo (show j < L by omega)]
      obtain ⟨g', c', X', Y', e2, r⟩ := h3.el j (by omega)
      exact ⟨g', c', X', Y', e2, r.alienO hg hq⟩
  · by_cases e1 : j = L
    · subst e1
      simp only [addAt_at]
      exact ⟨hlo, Nat.le_trans hhi hg.size⟩
    · simp only [addAt_lo (show j < L by omega)]
      exact ⟨(h3.st j (by omega)).1, Nat.le_trans (h3.st j (by omega)).2 hg.size⟩
  · by_cases e1 : j = L
    · subst e1
      rw [addAt_at, addAt_lo hij]
      exact (h.st i hij).2
    · rw [addAt_lo (show j < L by omega), addAt_lo (show i < L by omega)]
      exact h.ord i j hij (by omega)
  · have hx2 : x = q ∨ x = w3.heap.size := by
      rcases hblk with e | e
      · rw [e] at hx
        simp only [Value.ownBlock, Option.some.injEq] at hx
        exact .inl hx.symm
      · rw [e] at hx
        simp only [Option.some.injEq] at hx
        exact .inr hx.symm
    have hqs : q < w2.heap.size := a.lt
    have h23 := b3.size
    by_cases e1 : j = L
    · subst e1
      simp only [addAt_at]
      omega
    · simp only [addAt_lo (show j < L by omega)]
      have h1 := h.ob q rfl j (by omega)
      have h2 := (h.st j (by omega)).2
      omega
end Go.Proofs.Ytehbpcoiciodhaa
