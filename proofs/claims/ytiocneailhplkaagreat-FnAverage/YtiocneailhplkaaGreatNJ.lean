/-
  Generators of groups being drawn: walked.
-/
import Derived.Test.YtiocneailhplkaaGreatNH
import Derived.Test.YtiocneailhplkaaGreatNI
namespace Go.Proofs.YtiocneailhplkaaGreat
open Go.RowKit

theorem opsP_new1 {w W : World} {A : Nat → OpD} (a1 : At 57 W w.heap.size #[]) : OpsP W w.heap.size (.slice (some ⟨w.heap.size, 0, none⟩) 0 0) 0 (fun _ => undef) (fun _ => undef) A :=
  ⟨⟨rfl, .inr ⟨w.heap.size, 0, #[], rfl, Nat.le_refl _, a1, Nat.le_refl _, Nat.zero_le _, rfl, rfl⟩⟩, ne_nil _ _ _, fun i hi => by omega, fun i hi => by omega, fun i hi => by omega⟩
theorem OpsP.lowerP {w : World} {lo lo' n : Nat} {v : Value} {X Y : Nat → Value} {A : Nat → OpD} (h : OpsP w lo v n X Y A) (hl : lo' ≤ lo) : OpsP w lo' v n X Y A := ⟨by
  refine ⟨h.row.1, ?_⟩
  rcases h.row.2 with h1 | ⟨g, c, cur, e, hb, r⟩
  · exact .inl h1
  · exact .inr ⟨g, c, cur, e, by omega, r⟩, h.nn, fun i hi => (h.xs i hi).wide hl (Nat.le_refl _), fun i hi => (h.ys i hi).wide hl (Nat.le_refl _), h.nk⟩
theorem OpsP.cur {w w' : World} {p lo n : Nat} {v : Value} {X Y : Nat → Value} {A : Nat → OpD} (h : OpsP w lo v n X Y A) (hk : Kept p w w') (hp : p < lo) : OpsP w' lo v n X Y A := by
  have ar : ∀ {u : Value} {m : Nat} {f : Nat → Int}, Arr w lo w.heap.size u m f → Arr w' lo w'.heap.size u m f := fun {u m f} r => by
    rcases r with r | ⟨g', c, rfl, h1, h2, h3, cur, h4, h5⟩
    · exact .inl r
    · exact .inr ⟨g', c, rfl, h1, Nat.lt_of_lt_of_le h2 hk.size, h3, cur, (hk.block g' h4.lt (by omega)).trans h4, h5⟩
  exact ⟨ownsRow_kept h.row hk hp, h.nn, fun i hi => ar (h.xs i hi), fun i hi => ar (h.ys i hi), h.nk⟩
/-- The list of the known ones, as lists of operators are told. -/
theorem rights_opsP {w : World} {lo k g c : Nat} {ys : List Value} (h : w.ownsRow lo 57 2 (.slice (some ⟨g, 0, none⟩) k c) k ys) (hr : Rights w lo (.slice (some ⟨g, 0, none⟩) k c) k ys) : ∃ X Y A, OpsP w lo (.slice (some ⟨g, 0, none⟩) k c) k X Y A := by
  have H : ∀ i, ∃ q : Value × Value × OpD, i < k → ys[i * 2]? = some q.1 ∧ ys[i * 2 + 1]? = some q.2.1 ∧ Arr w lo w.heap.size q.1 9 q.2.2.f ∧ Arr w lo w.heap.size q.2.1 3 q.2.2.h ∧ q.2.2.n = 9 ∧ q.2.2.k = 3 := fun i => by
    by_cases hi : i < k
    · obtain ⟨v1, v2, e1, e2, g1, c1, g2, c2, f, h, ⟨⟨l1, l2⟩, r1, r2⟩, rfl, rfl, -, -, m1, m2, -⟩ := hr.2 i hi
      have z1 : 9 ≤ c1 := by
        obtain ⟨cur, -, hs, hc⟩ := m1
        have := (Array.getElem?_eq_some_iff.1 (hc 8 (by omega))).1
        omega
      have z2 : 3 ≤ c2 := by
        obtain ⟨cur, -, hs, hc⟩ := m2
        have := (Array.getElem?_eq_some_iff.1 (hc 2 (by omega))).1
        omega
      exact ⟨(_, _, ⟨9, f, 3, h⟩), fun _ => ⟨e1, e2, .inr ⟨g1, c1, rfl, l1, m1.lt, ⟨z1, r1⟩, m1⟩, .inr ⟨g2, c2, rfl, l2, m2.lt, ⟨z2, r2⟩, m2⟩, rfl, rfl⟩⟩
    · exact ⟨(undef, undef, ⟨9, fun _ => 0, 3, fun _ => 0⟩), fun hh => absurd hh hi⟩
  have HC := fun i => Classical.choose_spec (H i)
  refine ⟨fun i => (Classical.choose (H i)).1, fun i => (Classical.choose (H i)).2.1, fun i => (Classical.choose (H i)).2.2, ⟨?_, ne_nil _ _ _, fun i hi => (HC i hi).2.2.1, fun i hi => (HC i hi).2.2.2.1, fun i hi => (HC i hi).2.2.2.2⟩⟩
  have e : pc (fun i => (Classical.choose (H i)).1) (fun i => (Classical.choose (H i)).2.1) k = ys := by
    refine List.ext_getElem? fun j => ?_
    by_cases hj : j < k * 2
    · obtain ⟨t, e⟩ : ∃ t, j = t * 2 ∨ j = t * 2 + 1 := ⟨j / 2, by omega⟩
      obtain ⟨p1, p2⟩ := pc_get (fun i => (Classical.choose (H i)).1) (fun i => (Classical.choose (H i)).2.1) (show t < k by omega)
      rcases e with rfl | rfl
      · exact p1.trans (HC t (by omega)).1.symm
      · exact p2.trans (HC t (by omega)).2.1.symm
    · rw [List.getElem?_eq_none (by rw [pc_len]; omega), List.getElem?_eq_none (by rw [hr.1]; omega)]
  rw [e]; exact h
/-- What is told of drawn generators. -/
def GenP (w : World) (p : Nat) (a : Option Addr) (len cap : Nat) (e : Ending) (w' : World) : Prop :=
  ∃ g n c A, e = .returned (.slice (some ⟨g, 0, none⟩) n c) ∧ n ≤ 3 ∧ OpsL w' g n A ∧ Dr w p a len cap w'
/-- How it stands in between. -/
structure GnI (w wr : World) (p : Nat) (a : Option Addr) (len cap : Nat) (v : Value) (m gs cs : Nat) : Prop where
  own : ∃ X Y A, OpsP wr w.heap.size v m X Y A
  ne : v.ownBlock ≠ some gs
  som : ∃ X Y A, OpsP wr w.heap.size (.slice (some ⟨gs, 0, none⟩) 16 cs) 16 X Y A
  dr : Dr w p a len cap wr
theorem gnI_push {w wa wb : World} {p : Nat} {a : Option Addr} {len cap gs cs m : Nat} {v v' x y : Value} {X Y : Nat → Value} {A : Nat → OpD} {o : OpD} (own : OpsP wa w.heap.size v m X Y A) (ne : v.ownBlock ≠ some gs) (som : ∃ X Y A, OpsP wa w.heap.size (.slice (some ⟨gs, 0, none⟩) 16 cs) 16 X Y A) (dr : Dr w p a len cap wa) (hp : p < w.heap.size) (r1 : Arr wa w.heap.size wa.heap.size x 9 o.f) (r2 : Arr wa w.heap.size wa.heap.size y 3 o.h) (ho : o.n = 9 ∧ o.k = 3) (hg : wa.grownBy wb v.ownBlock) (hrow : wb.ownsRow w.heap.size 57 2 v' (m + 1) (pc X Y m ++ [x, y])) (hne : v' ≠ .slice none 0 0) (hblk : v'.ownBlock = v.ownBlock ∨ v'.ownBlock = some wa.heap.size) : GnI w wb p a len cap v' (m + 1) gs cs := by
  have hge : ∀ k, v.ownBlock = some k → w.heap.size ≤ k := fun k hk => ownBlock_ge own.row hk
  refine ⟨⟨_, _, _, own.snoc r1 r2 ho hg hrow hne⟩, ?_, ?_, dr.grown hg hge hp⟩
  · intro e
    rcases hblk with q | q
    · exact ne (q.symm.trans e)
    · obtain ⟨_, _, _, s⟩ := som
      have h1 := s.lt
      have h2 : gs = wa.heap.size := Option.some.inj (e.symm.trans q)
      omega
  · obtain ⟨X2, Y2, A2, s⟩ := som
    exact ⟨_, _, _, s.kept hg (fun k hk e => ne (hk.trans e.symm)) own.blkAt⟩
set_option maxRecDepth 100000 in
set_option maxHeartbeats 3000000 in
theorem gens_dr {w : World} {p : Nat} {a : Option Addr} {len cap : Nat} (hc : Cur w p a len cap) :
    Calls Tryz.prog 72 #[.pointer (some ⟨p, 0, none⟩)] w (GenP w p a len cap) := by
  have hbs : ∀ w, (Instr.buildSlice 27 0 #[]).run Tryz.prog w = .ok (.slice (some ⟨w.heap.size, 0, none⟩) 0 0) (w.alloc (.cells #[] 57)) := fun _ => by kernel_rfl
  obtain ⟨i0, hi0, hz0, hz1, hz2⟩ := info_parts Tryz.info57
  have hlt := hc.lt
  obtain ⟨W1, hW1, a1, B1, -⟩ := boxed w 57 #[]
  have lg0 := a1.lt
  obtain ⟨g0, hg0⟩ : ∃ q, w.heap.size = q := ⟨_, rfl⟩
  have O1 : OpsP W1 w.heap.size (.slice (some ⟨g0, 0, none⟩) 0 0) 0 (fun _ => undef) (fun _ => undef) (fun _ => oneD) := by
    rw [← hg0]; exact opsP_new1 a1
  have D1 := (Dr.start hc).below B1
  clear hc a1
  go_enter Tryz.func72, Tryz.ntmps72
  go_wp2_with fail
  refine (some_any _).mono ?_
  rintro e w2 ⟨gs, cs, ys, rfl, hrow, hR, b2⟩
  obtain ⟨X2, Y2, A2, O2⟩ := rights_opsP hrow hR
  have hgs : g0 ≠ gs := by
    have := (hrow.lt gs rfl).1
    omega
  have O2' : OpsP w2 w.heap.size (.slice (some ⟨gs, 0, none⟩) 16 cs) 16 X2 Y2 A2 := O2.lowerP B1.size
  have O12 := O1.below b2
  have D2 := D1.below b2
  clear hrow hR O2 O1 D1 b2 hW1 B1
  go_wp2_with fail
  refine (below_dr (Dr.start D2.2) 4 (by omega) (by omega)).mono ?_
  rintro e w3 ⟨k0, rfl, hk0, hk1, D3⟩
  have I : Hid (GnI w w3 p a len cap (.slice (some ⟨g0, 0, none⟩) 0 0) 0 gs cs) := by
    refine ⟨⟨_, _, _, O12.cur D3.1 hlt⟩, fun e => ?_, ⟨_, _, _, O2'.cur D3.1 hlt⟩, D3.from D2.1⟩
    cases e; exact hgs rfl
  clear O12 O2' D2 D3 hg0 lg0 hgs
  obtain ⟨k1, rfl⟩ := Int.eq_ofNat_of_zero_le hk0
  go_wp2
  go_loopw [3, 5] (fun v s wr => ∃ (m k : Nat), m + k ≤ 3 ∧ s = .int .i64 (k : Int) ∧ Hid (GnI w wr p a len cap v m gs cs)) (fun _ s _ => (intOf s).toNat)
  case atStart => exact ⟨0, k1, by omega, rfl, I⟩
  case round =>
    clear I hk0 hk1
    obtain ⟨m, k, hmk, rfl, I⟩ := hrel
    obtain ⟨⟨X, Y, A, O⟩, ne, ⟨X2, Y2, A2, S⟩, D⟩ := I.out
    obtain ⟨gv, cv, -, rfl, hgv, -⟩ := O.open
    clear I
    by_cases hk : 0 < k
    · obtain ⟨t, rfl⟩ : ∃ t, k = t + 1 := ⟨k - 1, by omega⟩
      have hk' : (0 : Int) < ((t + 1 : Nat) : Int) := by omega
      go_wp2_with fail
      refine (once_dr (Dr.start D.2) 12 (by omega) (by omega)).mono ?_
      rintro e w4 ⟨b, rfl, D4⟩
      have O4 := O.cur D4.1 hlt
      have S4 := S.cur D4.1 hlt
      have D4' := D4.from D.1
      clear O S D D4
      have hm1 : m + 1 ≤ maxLen := by unfold maxLen; omega
      have hm2 : (m + 1) * 48 ≤ 140737488355328 := by omega
      cases b
      · go_wp2_with fail
        refine (below_dr (Dr.start D4'.2) 16 (by omega) (by omega)).mono ?_
        rintro e w5 ⟨j0, rfl, hj0, hj1, D5⟩
        have O5 := O4.cur D5.1 hlt
        have S5 := S4.cur D5.1 hlt
        have D5' := D5.from D4'.1
        clear O4 S4 D4' D5
        obtain ⟨j, rfl⟩ := Int.eq_ofNat_of_zero_le hj0
        have hj : j < 16 := by omega
        obtain ⟨_, _, cur2, es, -, cs2, hcur⟩ := S5.open
        cases es
        obtain ⟨x1, l1, ex, -⟩ := (S5.xs j hj).src
        obtain ⟨x2, l2, ey, -⟩ := (S5.ys j hj).src
        have rx := S5.xs j hj
        have ry := S5.ys j hj
        have rk := S5.nk j hj
        obtain ⟨c0, c1⟩ := hcur j hj
        rw [ex] at c0 rx
        rw [ey] at c1 ry
        have f0 := cs2.cell _ c0
        have f1 := cs2.cell _ c1
        clear ex ey c0 c1 hcur cs2
        obtain ⟨W6, hW6, a6, b6, -⟩ := boxed w5 57 #[.slice x1 9 l1, .slice x2 3 l2]
        have O6 := O5.below b6
        have S6 := S5.below b6
        have D6 := D5'.below b6
        have rx6 := (rx.below b6).wide (Nat.le_refl _) b6.size
        have ry6 := (ry.below b6).wide (Nat.le_refl _) b6.size
        have hnw : ∀ j u, [Value.slice x1 9 l1, Value.slice x2 3 l2][j]? = some u → W6.cell? ((⟨w5.heap.size, 0, none⟩ : Addr).add j) = some u := by
          intro j u hu
          match j with
          | 0 => cases hu; exact a6.cell 0 rfl
          | 1 => cases hu; exact a6.cell 1 rfl
          | j + 2 => cases hu
        have h1c : ∀ u ∈ [Value.slice x1 9 l1, Value.slice x2 3 l2], u.oneCell' = true := by
          intro u hu
          simp at hu
          rcases hu with rfl | rfl <;> rfl
        have hm3 : w.heap.size ≤ W6.heap.size := D6.1.size
        clear O5 S5 D5' rx ry b6
        go_wp2_with (at_builtin; refine Hid.out (?_ : Hid _))
        refine (?_ : wpList _ _ _ _ _ _)
        refine wpList_append_own_at _ rfl _ _ _ rfl w.heap.size 57 i0 _ 2 48 Tryz.underlying27 hi0 hz0 hz1 hz2 rfl (by omega) (.slice (some ⟨gv, 0, none⟩) m cv) m _ rfl O6.row ⟨w5.heap.size, 0, none⟩ 1 1 [.slice x1 9 l1, .slice x2 3 l2] rfl rfl hnw h1c hm1 hm2 hm3 ?_
        intro v3 w7 hown3 hgrow3 hne3 hblk3
        have e3 : v3 ≠ .slice none 0 0 := by
          intro e
          have := (hne3.1 e).2
          omega
        have I7 : Hid (GnI w w7 p a len cap v3 (m + 1) gs cs) := gnI_push (o := A2 j) O6 ne ⟨_, _, _, S6⟩ D6 hlt rx6 ry6 rk hgrow3 hown3 e3 hblk3
        clear O6 S6 D6 rx6 ry6 hnw h1c hm3 hown3 hgrow3 hne3 hblk3 e3 hm1 hm2 a6 hW6 f0 f1 ne
        go_wp2
        exact ⟨⟨m + 1, t, by omega, by go_num, I7⟩, by simp [intOf]⟩
      · go_wp2_with fail
        refine (draw_dr D4'.2).mono ?_
        rintro e w5 ⟨g1, c1, g2, c2, f, h, rfl, PP, D5⟩
        have O5 := O4.cur D5.1 hlt
        have S5 := S4.cur D5.1 hlt
        have hsz := D4'.1.size
        have D5' := D5.from D4'.1
        clear O4 S4 D4' D5
        obtain ⟨⟨z1, z2, -, rfl, rfl⟩, m1, m2⟩ := PP
        obtain ⟨W6, hW6, a6, b6, -⟩ := boxed w5 57 #[.slice (some ⟨g1, 0, none⟩) 9 9, .slice (some ⟨g2, 0, none⟩) 3 3]
        have O6 := O5.below b6
        have S6 := S5.below b6
        have D6 := D5'.below b6
        have rx6 := arr_of_made (lo := w.heap.size) (m1.below b6) (Nat.le_refl _) (by omega)
        have ry6 := arr_of_made (lo := w.heap.size) (m2.below b6) (Nat.le_refl _) (by omega)
        have hnw : ∀ j u, [Value.slice (some ⟨g1, 0, none⟩) 9 9, Value.slice (some ⟨g2, 0, none⟩) 3 3][j]? = some u → W6.cell? ((⟨w5.heap.size, 0, none⟩ : Addr).add j) = some u := by
          intro j u hu
          match j with
          | 0 => cases hu; exact a6.cell 0 rfl
          | 1 => cases hu; exact a6.cell 1 rfl
          | j + 2 => cases hu
        have h1c : ∀ u ∈ [Value.slice (some ⟨g1, 0, none⟩) 9 9, Value.slice (some ⟨g2, 0, none⟩) 3 3], u.oneCell' = true := by
          intro u hu
          simp at hu
          rcases hu with rfl | rfl <;> rfl
        have hm3 : w.heap.size ≤ W6.heap.size := D6.1.size
        clear O5 S5 D5' m1 m2 b6 z1 z2 hsz
        go_wp2_with (at_builtin; refine Hid.out (?_ : Hid _))
        refine (?_ : wpList _ _ _ _ _ _)
        refine wpList_append_own_at _ rfl _ _ _ rfl w.heap.size 57 i0 _ 2 48 Tryz.underlying27 hi0 hz0 hz1 hz2 rfl (by omega) (.slice (some ⟨gv, 0, none⟩) m cv) m _ rfl O6.row ⟨w5.heap.size, 0, none⟩ 1 1 [.slice (some ⟨g1, 0, none⟩) 9 9, .slice (some ⟨g2, 0, none⟩) 3 3] rfl rfl hnw h1c hm1 hm2 hm3 ?_
        intro v3 w7 hown3 hgrow3 hne3 hblk3
        have e3 : v3 ≠ .slice none 0 0 := by
          intro e
          have := (hne3.1 e).2
          omega
        have I7 : Hid (GnI w w7 p a len cap v3 (m + 1) gs cs) := gnI_push (o := ⟨9, f, 3, h⟩) O6 ne ⟨_, _, _, S6⟩ D6 hlt rx6 ry6 ⟨rfl, rfl⟩ hgrow3 hown3 e3 hblk3
        clear O6 S6 D6 rx6 ry6 hnw h1c hm3 hown3 hgrow3 hne3 hblk3 e3 hm1 hm2 a6 hW6  ne
        go_wp2
        exact ⟨⟨m + 1, t, by omega, by go_num, I7⟩, by simp [intOf]⟩
    · obtain ⟨g', c', e', -, L⟩ := O.opsL
      cases e'
      obtain rfl : k = 0 := by omega
      have hk' : ¬ (0 : Int) < ((0 : Nat) : Int) := by omega
      have N : Hid (GenP w p a len cap (.returned (.slice (some ⟨gv, 0, none⟩) m cv)) wr) := ⟨gv, m, cv, A, rfl, by omega, L, D⟩
      clear O S D ne L
      go_wp2
      go_ret
      exact N.out
end Go.Proofs.YtiocneailhplkaaGreat
/-
  Groups of operators being drawn: walked.
-/
namespace Go.Proofs.YtiocneailhplkaaGreat
open Go.RowKit

/-- What is told of a drawn group. -/
def DrwG (w : World) (p : Nat) (a : Option Addr) (len cap : Nat) (e : Ending) (w' : World) : Prop :=
  ∃ g n c H, e = .returned (.slice (some ⟨g, 0, none⟩) n c) ∧ n ≤ 192 ∧ w.heap.size ≤ g ∧ OpsL w' g n H ∧ (0 < n → ∃ X Y, OpsG w' w.heap.size (.slice (some ⟨g, 0, none⟩) n c) n X Y H ∧ ∀ i, i < n → (H i).ok) ∧ Dr w p a len cap w'
theorem arr_cur {w w' : World} {p lo m : Nat} {u : Value} {f : Nat → Int} (r : Arr w lo w.heap.size u m f) (hk : Kept p w w') (hp : p < lo) : Arr w' lo w'.heap.size u m f := by
  rcases r with r | ⟨g', c, rfl, h1, h2, h3, cur, h4, h5⟩
  · exact .inl r
  · exact .inr ⟨g', c, rfl, h1, Nat.lt_of_lt_of_le h2 hk.size, h3, cur, (hk.block g' h4.lt (by omega)).trans h4, h5⟩
theorem OpsG.cur {w w' : World} {p lo n : Nat} {v : Value} {X Y : Nat → Value} {A : Nat → OpD} (h : OpsG w lo v n X Y A) (hk : Kept p w w') (hp : p < lo) : OpsG w' lo v n X Y A :=
  ⟨ownsRow_kept h.row hk hp, h.nn, fun i hi => arr_cur (h.xs i hi) hk hp, fun i hi => arr_cur (h.ys i hi) hk hp, h.dj⟩
theorem drwG_of {w w3 w4 w5 : World} {p n g m c : Nat} {b : Bool} {a : Option Addr} {len cap : Nat} {A H : Nat → OpD} {X Y : Nat → Value} (hs3 : w.heap.size ≤ w3.heap.size) (hp : p < w.heap.size) (hA : OpsA w4 w3.heap.size w4.heap.size g m X Y H) (hC : ClsS n A m H b) (hG : b = true → OpsG w4 w3.heap.size (.slice (some ⟨g, 0, none⟩) m c) m X Y H) (hk : Kept p w4 w5) (D5 : Dr w p a len cap w5) : DrwG w p a len cap (.returned (.slice (some ⟨g, 0, none⟩) m c)) w5 := by
  have h1 := hA.blk.1
  have h2 := hA.blk.2.1
  have h3 := hk.size
  rcases hC with ⟨rfl, -, -, W, hI⟩ | ⟨rfl, rfl, -⟩
  · have G5 := ((hG rfl).lowerG hs3).cur hk hp
    obtain ⟨_, _, e, A5⟩ := G5.opsA
    cases e
    exact ⟨g, m, c, H, rfl, hI.few, by omega, A5.opsL, fun _ => ⟨X, Y, G5, hI.ok⟩, D5⟩
  · exact ⟨g, 0, c, H, rfl, by omega, by omega, ⟨by omega, fun i hi => by omega⟩, fun h => by omega, D5⟩
set_option maxRecDepth 100000 in
set_option maxHeartbeats 3000000 in
theorem draw4_dr {w : World} {p : Nat} {a : Option Addr} {len cap : Nat} (hc : Cur w p a len cap) :
    Calls Tryz.prog 51 #[.pointer (some ⟨p, 0, none⟩)] w (DrwG w p a len cap) := by
  have hbs : ∀ w, (Instr.buildSlice 27 0 #[]).run Tryz.prog w = .ok (.slice (some ⟨w.heap.size, 0, none⟩) 0 0) (w.alloc (.cells #[] 57)) := fun _ => by kernel_rfl
  have hlt := hc.lt
  have D0 := Dr.start hc
  clear hc
  go_enter Tryz.func51, Tryz.ntmps51
  go_wp2
  go_loopw [3] (fun s wr => ∃ i : Nat, i ≤ 6 ∧ s = .int .i64 (i : Int) ∧ Hid (Dr w p a len cap wr)) (fun s _ => 6 - (intOf s).toNat)
  case atStart => exact ⟨0, by omega, rfl, D0⟩
  case round =>
    clear D0
    obtain ⟨i, hi, rfl, D⟩ := hrel
    by_cases hk : i < 6
    · have hk' : (i : Int) < 6 := by omega
      go_wp2_with fail
      refine (gens_dr D.2).mono ?_
      rintro e w3 ⟨g1, n1, c1, A, rfl, hn1, L1, D3⟩
      replace D3 := D3.from D.1
      clear D
      go_wp2_with fail
      refine (specClose_any L1 (by omega)).mono ?_
      rintro e w4 ⟨⟨g, m, c, b, X, Y, H, rfl, hA, hC, hG⟩, b4⟩
      have D4 := D3.below b4
      have hs3 := D3.1.size
      clear D3 b4 L1
      cases b
      · go_wp2
        exact ⟨⟨i + 1, by omega, by go_num, D4⟩, by simp [intOf]; omega⟩
      · by_cases hm : m ≤ 24
        · have hm' : (m : Int) ≤ 24 := by omega
          have N : Hid (DrwG w p a len cap (.returned (.slice (some ⟨g, 0, none⟩) m c)) w4) := drwG_of hs3 hlt hA hC hG (Kept.refl _ _) D4
          clear hA hC hG D4
          go_wp2
          go_ret
          exact N.out
        · have hm' : ¬ (m : Int) ≤ 24 := by omega
          go_wp2_with fail
          refine (once_dr (Dr.start D4.2) 8 (by omega) (by omega)).mono ?_
          rintro e w5 ⟨b, rfl, D5⟩
          have N : Hid (DrwG w p a len cap (.returned (.slice (some ⟨g, 0, none⟩) m c)) w5) := drwG_of hs3 hlt hA hC (fun _ => hG trivial) D5.1 (D5.from D4.1)
          have D5' := D5.from D4.1
          clear hA hC hG D4 D5
          cases b
          · clear N
            go_wp2
            exact ⟨⟨i + 1, by omega, by go_num, D5'⟩, by simp [intOf]; omega⟩
          · clear D5'
            go_wp2
            go_ret
            exact N.out
    · have hk' : ¬ (i : Int) < 6 := by omega
      obtain ⟨W1, hW1, a1, B1, -⟩ := boxed wr 57 #[]
      have D1 := D.below B1
      have hs3 := D1.1.size
      have L1 : OpsL W1 wr.heap.size 0 (fun _ => oneD) := ⟨a1.lt, fun i hi => by omega⟩
      clear B1 a1 D
      go_wp2_with fail
      refine (specClose_any L1 (by omega)).mono ?_
      rintro e w4 ⟨⟨g, m, c, b, X, Y, H, rfl, hA, hC, hG⟩, b4⟩
      have D4 := D1.below b4
      have N : Hid (DrwG w p a len cap (.returned (.slice (some ⟨g, 0, none⟩) m c)) w4) := drwG_of hs3 hlt hA hC hG (Kept.refl _ _) D4
      clear hA hC hG D4 D1 hW1 L1 b4
      go_wp2
      go_ret
      exact N.out
end Go.Proofs.YtiocneailhplkaaGreat
