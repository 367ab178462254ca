/-
  A list of operators of any lengths that grows, one of its first spoiled (for DrawClose). No function of the program.
-/
import Derived.Test.YtpolnkjmojofoaaNJ
import Derived.Test.YtpolnkjmojofoaaNL
namespace Go.Proofs.Ytpolnkjmojofoaa
open Go.RowKit

/-- A list of operators of any lengths, none of whose arrays lies where the list lies. -/
structure OpsK (w : World) (lo : Nat) (v : Value) (n : Nat) (X Y : Nat → Value) (A : Nat → OpD) : Prop where
  row : w.ownsRow lo 33 2 v n (pc X Y n)
  nn : v ≠ .slice none 0 0
  xs : ∀ i, i < n → ∃ a c, X i = .slice a (A i).n c ∧ ∀ r, v.ownBlock = some r → SrcLo w lo r a (A i).n (A i).f
  ys : ∀ i, i < n → ∃ a c, Y i = .slice a (A i).k c ∧ ∀ r, v.ownBlock = some r → SrcLo w lo r a (A i).k (A i).h
  nk : ∀ i, i < n → (A i).n ≤ 9 ∧ (A i).k ≤ 9
theorem OpsK.below {w w' : World} {lo n : Nat} {v : Value} {X Y : Nat → Value} {A : Nat → OpD} (h : OpsK w lo v n X Y A) (hb : Below w.heap.size w w') : OpsK w' lo v n X Y A :=
  ⟨own_below h.row hb, h.nn, fun i hi => (h.xs i hi).imp fun _ => Exists.imp fun _ x => ⟨x.1, fun r hr => (x.2 r hr).below hb⟩, fun i hi => (h.ys i hi).imp fun _ => Exists.imp fun _ x => ⟨x.1, fun r hr => (x.2 r hr).below hb⟩, h.nk⟩
theorem OpsK.cur {w w' : World} {p lo n : Nat} {v : Value} {X Y : Nat → Value} {A : Nat → OpD} (h : OpsK w lo v n X Y A) (hk : Kept p w w') (hp : p < lo) : OpsK w' lo v n X Y A :=
  ⟨ownsRow_kept h.row hk hp, h.nn, fun i hi => (h.xs i hi).imp fun _ => Exists.imp fun _ x => ⟨x.1, fun r hr => (x.2 r hr).kept hk hp⟩, fun i hi => (h.ys i hi).imp fun _ => Exists.imp fun _ x => ⟨x.1, fun r hr => (x.2 r hr).kept hk hp⟩, h.nk⟩
theorem SrcLo.grownK {w w' : World} {lo r r' n : Nat} {a : Option Addr} {f : Nat → Int} (h : SrcLo w lo r a n f) (hg : w.grownBy w' (some r)) (hr : r' = r ∨ r' = w.heap.size) : SrcLo w' lo r' a n f := by
  rcases h with h | ⟨g, off, e, l, u, i⟩
  · exact .inl h
  · exact .inr ⟨g, off, e, ⟨l.1, by have := l.2; omega⟩, Nat.lt_of_lt_of_le u hg.size, fun j hj => (World.cell?_of_block (w := w) (hg.block g u (fun e => l.2 (Option.some.inj e)))).trans (i j hj)⟩
theorem OpsK.blk {w : World} {lo n : Nat} {v : Value} {X Y : Nat → Value} {A : Nat → OpD} (h : OpsK w lo v n X Y A) : ∃ g c, v = .slice (some ⟨g, 0, none⟩) n c ∧ lo ≤ g ∧ g < w.heap.size := by
  rcases h.row.2 with ⟨h1, _⟩ | ⟨g, c, cur, e, hb, hh, h3, h4, h5, h6⟩
  · exact absurd h1 h.nn
  · exact ⟨g, c, e, hb, (Array.getElem?_eq_some_iff.1 hh).1⟩
theorem OpsK.push {w w' : World} {lo n : Nat} {v v' x y : Value} {X Y : Nat → Value} {A : Nat → OpD} {o : OpD} (h : OpsK w lo v n X Y A) (r1 : ∃ a c, x = .slice a o.n c ∧ ∀ r, v.ownBlock = some r → SrcLo w lo r a o.n o.f) (r2 : ∃ a c, y = .slice a o.k c ∧ ∀ r, v.ownBlock = some r → SrcLo w lo r a o.k o.h) (ho : o.n ≤ 9 ∧ o.k ≤ 9) (hg : w.grownBy w' v.ownBlock) (hrow : w'.ownsRow lo 33 2 v' (n + 1) (pc X Y n ++ [x, y])) (hne : v' ≠ .slice none 0 0) (hblk : v'.ownBlock = v.ownBlock ∨ v'.ownBlock = some w.heap.size) : OpsK w' lo v' (n + 1) (snoD X n x) (snoD Y n y) (snoD A n o) := by
  obtain ⟨g, c, rfl, hlg, hlt⟩ := h.blk
  have up : ∀ {a : Option Addr} {m : Nat} {f : Nat → Int}, (∀ r, (Value.slice (some ⟨g, 0, none⟩) n c).ownBlock = some r → SrcLo w lo r a m f) → ∀ r, v'.ownBlock = some r → SrcLo w' lo r a m f := fun s r hr => by
    refine (s g rfl).grownK hg ?_
    rcases hblk with q | q
    · exact .inl (Option.some.inj (hr.symm.trans q))
    · exact .inr (Option.some.inj (hr.symm.trans q))
  refine ⟨?_, hne, fun t ht => ?_, fun t ht => ?_, fun t ht => ?_⟩
  · have : pc (snoD X n x) (snoD Y n y) (n + 1) = pc X Y n ++ [x, y] := by
      show pc _ _ n ++ [_, _] = _
      rw [pc_congr (X' := X) (Y' := Y) (fun i hi => ⟨snoc_lo hi, snoc_lo hi⟩), snoc_at, snoc_at]
    rw [this]; exact hrow
  · by_cases e : t = n
    · subst e
      rw [snoc_at, snoc_at]
      obtain ⟨a, d, e1, s⟩ := r1
      exact ⟨a, d, e1, up s⟩
    · rw [snoc_lo (by omega), snoc_lo (by omega)]
      obtain ⟨a, d, e1, s⟩ := h.xs t (by omega)
      exact ⟨a, d, e1, up s⟩
  · by_cases e : t = n
    · subst e
      rw [snoc_at, snoc_at]
      obtain ⟨a, d, e1, s⟩ := r2
      exact ⟨a, d, e1, up s⟩
    · rw [snoc_lo (by omega), snoc_lo (by omega)]
      obtain ⟨a, d, e1, s⟩ := h.ys t (by omega)
      exact ⟨a, d, e1, up s⟩
  · by_cases e : t = n
    · subst e; rw [snoc_at]; exact ho
    · rw [snoc_lo (by omega)]; exact h.nk t (by omega)
theorem OpsK.opsL {w : World} {lo n : Nat} {v : Value} {X Y : Nat → Value} {A : Nat → OpD} (h : OpsK w lo v n X Y A) : ∃ g c, v = .slice (some ⟨g, 0, none⟩) n c ∧ OpsL w g n A := by
  rcases h.row.2 with ⟨h1, _⟩ | ⟨g, c, cur, e, hb, hh, h3, h4, h5, h6⟩
  · exact absurd h1 h.nn
  · have get : ∀ j, j < n * 2 → cur[j]? = (pc X Y n)[j]? := fun j hj => by
      have := congrArg (fun L => L[j]?) h6
      simp only [List.getElem?_take] at this
      rw [if_pos (by omega)] at this
      simpa using this
    have a : At 33 w g cur := hh
    refine ⟨g, c, e, a.lt, fun i hi => ?_⟩
    obtain ⟨a1, c1, e1, m1⟩ := h.xs i hi
    obtain ⟨a2, c2, e2, m2⟩ := h.ys i hi
    obtain ⟨p1, p2⟩ := pc_get X Y hi
    exact ⟨a1, c1, a2, c2, a.cell _ ((get _ (by omega)).trans (p1.trans (congrArg some e1))), a.cell _ ((get _ (by omega)).trans (p2.trans (congrArg some e2))), (m1 g (by rw [e]; rfl)).src, (m2 g (by rw [e]; rfl)).src⟩
theorem OpsP.opsK {w : World} {lo n : Nat} {v : Value} {X Y : Nat → Value} {A : Nat → OpD} (h : OpsP w lo v n X Y A) : OpsK w lo v n X Y A := by
  obtain ⟨g, c, cur, rfl, hb, hat, -⟩ := h.open
  have H : ∀ {u : Value} {m : Nat} {f : Nat → Int}, Arr w lo w.heap.size u m f → 0 < m → ∃ a d, u = .slice a m d ∧ ∀ r, (Value.slice (some ⟨g, 0, none⟩) n c).ownBlock = some r → SrcLo w lo r a m f := fun {u m f} q hm => by
    have hne := arr_ne_block q hat
    rcases q with ⟨-, h0⟩ | ⟨g', d, rfl, l1, l2, l3, M⟩
    · omega
    · refine ⟨_, d, rfl, fun r hr => made_lo M ⟨l1, fun e => ?_⟩ (Nat.le_refl _)⟩
      have e2 : g = r := Option.some.inj hr
      exact hne (by rw [e, ← e2]; rfl)
  exact ⟨h.row, h.nn, fun i hi => by rw [(h.nk i hi).1]; exact H (h.xs i hi) (by omega), fun i hi => by rw [(h.nk i hi).2]; exact H (h.ys i hi) (by omega), fun i hi => by have := h.nk i hi; omega⟩
theorem row_put {w : World} {lo n g c : Nat} {t : TypeId} {ys : List Value} (h : w.ownsRow lo t 2 (.slice (some ⟨g, 0, none⟩) n c) n ys) (u0 u1 : Value) : ((w.setCell ⟨g, 0, none⟩ u0).setCell ⟨g, 1, none⟩ u1).ownsRow lo t 2 (.slice (some ⟨g, 0, none⟩) n c) n ((ys.set 0 u0).set 1 u1) := by
  refine ⟨by simpa using h.1, ?_⟩
  rcases h.2 with ⟨h1, _⟩ | ⟨g', c', cur, e, hb, hh, h3, h4, h5, h6⟩
  · cases h1
  · cases e
    have a : At t w g cur := hh
    refine .inr ⟨g, c, _, rfl, hb, (a.set 0 u0).set 1 u1, h3, h4, by simpa using h5, ?_⟩
    simp only [Array.toList_setIfInBounds, List.take_set]
    rw [h6]
theorem pc_put (X Y : Nat → Value) {n : Nat} (hn : 0 < n) (u0 u1 : Value) : pc (fun i => if i = 0 then u0 else X i) (fun i => if i = 0 then u1 else Y i) n = ((pc X Y n).set 0 u0).set 1 u1 := by
  refine List.ext_getElem? fun j => ?_
  by_cases hj : j < n * 2
  · obtain ⟨t, e⟩ : ∃ t, j = t * 2 ∨ j = t * 2 + 1 := ⟨j / 2, by omega⟩
    obtain ⟨p1, p2⟩ := pc_get X Y (show t < n by omega)
    obtain ⟨q1, q2⟩ := pc_get (fun i => if i = 0 then u0 else X i) (fun i => if i = 0 then u1 else Y i) (show t < n by omega)
    have hl := pc_len X Y n
    rcases e with rfl | rfl
    · rw [q1, List.getElem?_set, List.getElem?_set]
      by_cases e0 : t = 0
      · subst e0; simp [hl, hn]
      · rw [if_neg (show ¬ 1 = t * 2 by omega), if_neg (show ¬ 0 = t * 2 by omega), p1, if_neg e0]
    · rw [q2, List.getElem?_set, List.getElem?_set]
      by_cases e0 : t = 0
      · subst e0; simp [hl]; omega
      · rw [if_neg (show ¬ 1 = t * 2 + 1 by omega), if_neg (show ¬ 0 = t * 2 + 1 by omega), p2, if_neg e0]
  · rw [List.getElem?_eq_none (by rw [pc_len]; omega), List.getElem?_eq_none (by simp [pc_len]; omega)]
/-- The first of the list spoiled, what shares its arrays turned with it. -/
theorem spoil_opsK {w w' : World} {p lo n g c g1 cA g2 cB : Nat} {X Y : Nat → Value} {A : Nat → OpD} {P : Nat → Prop} (h : OpsP w lo (.slice (some ⟨g, 0, none⟩) n c) n X Y A) (hn : 0 < n) (C : Col P n X Y) (e0 : X 0 = .slice (some ⟨g1, 0, none⟩) 9 cA) (e1 : Y 0 = .slice (some ⟨g2, 0, none⟩) 3 cB) (hp : p < lo) (hF : Fr p g1 g2 w w') (hB : Both w' g1 g2)
    {a1 b1 : Option Addr} {n1 c1 k1 d1 : Nat} {f1 h1 : Nat → Int} (s1 : SrcLo w' lo g a1 n1 f1) (s2 : SrcLo w' lo g b1 k1 h1) (hz : n1 ≤ 9 ∧ k1 ≤ 9) :
    ∃ X' Y' A', OpsK ((w'.setCell ⟨g, 0, none⟩ (.slice a1 n1 c1)).setCell ⟨g, 1, none⟩ (.slice b1 k1 d1)) lo (.slice (some ⟨g, 0, none⟩) n c) n X' Y' A' := by
  obtain ⟨g', c', cur, eg, hlg, hat, -⟩ := h.open
  cases eg
  have hgp : g ≠ p := by omega
  have x0 := h.xs 0 hn
  have y0 := h.ys 0 hn
  rw [e0] at x0
  rw [e1] at y0
  have hg1 : g ≠ g1 := fun e => arr_ne_block x0 hat (by rw [e]; rfl)
  have hg2 : g ≠ g2 := fun e => arr_ne_block y0 hat (by rw [e]; rfl)
  have l1 : g1 < w.heap.size ∧ lo ≤ g1 := by
    rcases x0 with ⟨h0, -⟩ | ⟨_, _, e, l, u, -, -⟩
    · cases h0
    · cases e; exact ⟨u, l⟩
  have l2 : g2 < w.heap.size ∧ lo ≤ g2 := by
    rcases y0 with ⟨h0, -⟩ | ⟨_, _, e, l, u, -, -⟩
    · cases h0
    · cases e; exact ⟨u, l⟩
  obtain ⟨fb, hb, B1, B2⟩ := hB
  have p1 : P g1 := (C 0 hn).1 g1 (by rw [e0]; rfl)
  have p2 : ¬ P g2 := (C 0 hn).2 g2 (by rw [e1]; rfl)
  have row' : w'.ownsRow lo 33 2 (.slice (some ⟨g, 0, none⟩) n c) n (pc X Y n) := by
    refine ⟨h.row.1, h.row.2.imp id ?_⟩
    rintro ⟨g', c', cur', e, hb', hh, r⟩
    cases e
    exact ⟨g, c, cur', rfl, hb', (hF.2 g hat.lt hgp hg1 hg2).trans hh, r⟩
  have KX : ∀ i, ∃ (d : Nat) (a : Option Addr) (f : Nat → Int), i < n → X i = .slice a 9 d ∧ SrcLo w' lo g a 9 f := fun i => by
    by_cases hi : i < n
    · have xi := h.xs i hi
      have ne := arr_ne_block xi hat
      have ci := (C i hi).1
      rcases xi with ⟨-, h0⟩ | ⟨gi, d, e, l, u, z, M⟩
      · omega
      · rw [e] at ne ci
        have nge : gi ≠ g := fun x => ne (by rw [x]; rfl)
        by_cases q : gi = g1
        · subst q
          exact ⟨d, _, fb, fun _ => ⟨e, .inr ⟨gi, 0, rfl, ⟨l, nge⟩, Nat.lt_of_lt_of_le u hF.1, B1⟩⟩⟩
        · have q2 : gi ≠ g2 := fun x => p2 (x ▸ ci gi rfl)
          have hi0 := made_intsX M
          exact ⟨d, _, (A i).f, fun _ => ⟨e, .inr ⟨gi, 0, rfl, ⟨l, nge⟩, Nat.lt_of_lt_of_le u hF.1, fun j hj => (World.cell?_of_block (w := w) (hF.2 gi u (by omega) q q2)).trans (hi0 j hj)⟩⟩⟩
    · exact ⟨0, none, fun _ => 0, fun x => absurd x hi⟩
  have KY : ∀ i, ∃ (d : Nat) (a : Option Addr) (f : Nat → Int), i < n → Y i = .slice a 3 d ∧ SrcLo w' lo g a 3 f := fun i => by
    by_cases hi : i < n
    · have xi := h.ys i hi
      have ne := arr_ne_block xi hat
      have ci := (C i hi).2
      rcases xi with ⟨-, h0⟩ | ⟨gi, d, e, l, u, z, M⟩
      · omega
      · rw [e] at ne ci
        have nge : gi ≠ g := fun x => ne (by rw [x]; rfl)
        by_cases q : gi = g2
        · subst q
          exact ⟨d, _, hb, fun _ => ⟨e, .inr ⟨gi, 0, rfl, ⟨l, nge⟩, Nat.lt_of_lt_of_le u hF.1, B2⟩⟩⟩
        · have q2 : gi ≠ g1 := fun x => ci gi rfl (x ▸ p1)
          have hi0 := made_intsX M
          exact ⟨d, _, (A i).h, fun _ => ⟨e, .inr ⟨gi, 0, rfl, ⟨l, nge⟩, Nat.lt_of_lt_of_le u hF.1, fun j hj => (World.cell?_of_block (w := w) (hF.2 gi u (by omega) q2 q)).trans (hi0 j hj)⟩⟩⟩
    · exact ⟨0, none, fun _ => 0, fun x => absurd x hi⟩
  obtain ⟨dx, KX⟩ := Classical.axiomOfChoice KX
  obtain ⟨ax, KX⟩ := Classical.axiomOfChoice KX
  obtain ⟨fx, KX⟩ := Classical.axiomOfChoice KX
  obtain ⟨dy, KY⟩ := Classical.axiomOfChoice KY
  obtain ⟨ay, KY⟩ := Classical.axiomOfChoice KY
  obtain ⟨fy, KY⟩ := Classical.axiomOfChoice KY
  have st : ∀ {a : Option Addr} {m : Nat} {f : Nat → Int}, SrcLo w' lo g a m f → ∀ r, (Value.slice (some ⟨g, 0, none⟩) n c).ownBlock = some r → SrcLo ((w'.setCell ⟨g, 0, none⟩ (.slice a1 n1 c1)).setCell ⟨g, 1, none⟩ (.slice b1 k1 d1)) lo r a m f := fun s r hr => by
    have e : g = r := Option.some.inj hr
    subst e
    exact (s.set (.inl rfl) _).set (.inl rfl) _
  refine ⟨fun i => if i = 0 then .slice a1 n1 c1 else X i, fun i => if i = 0 then .slice b1 k1 d1 else Y i, fun i => if i = 0 then ⟨n1, f1, k1, h1⟩ else ⟨9, fx i, 3, fy i⟩, ?_, h.nn, fun i hi => ?_, fun i hi => ?_, fun i hi => ?_⟩
  · rw [pc_put X Y hn]
    exact row_put row' _ _
  · by_cases e : i = 0
    · subst e
      simp only [if_pos]
      exact ⟨a1, c1, rfl, st s1⟩
    · simp only [if_neg e]
      obtain ⟨q1, q2⟩ := KX i hi
      exact ⟨_, _, q1, st q2⟩
  · by_cases e : i = 0
    · subst e
      simp only [if_pos]
      exact ⟨b1, d1, rfl, st s2⟩
    · simp only [if_neg e]
      obtain ⟨q1, q2⟩ := KY i hi
      exact ⟨_, _, q1, st q2⟩
  · by_cases e : i = 0
    · subst e
      simp only [if_pos]
      exact hz
    · simp only [if_neg e]
      omega
end Go.Proofs.Ytpolnkjmojofoaa
