/-
  Spots drawn, walked.
-/
import Derived.Test.YtjlmiadmobbibaaBm
import Derived.Test.YtjlmiadmobbibaaDx
namespace Go.Proofs.Ytjlmiadmobbibaa
open Go.RowKit

theorem own_keptP {w w' : World} {B p : Nat} {e : TypeId} {k : Nat} {v : Value} {n : Nat} {xs : List Value} (h : w.ownsRow B e k v n xs) (hk : Kept p w w') (hp : p < B) : w'.ownsRow B e k v n xs := by
  refine ⟨h.1, h.2.imp id ?_⟩
  rintro ⟨g, cap, cur, rfl, h1, h2, h3⟩
  exact ⟨g, cap, cur, rfl, h1, (hk.block g (Array.getElem?_eq_some_iff.1 h2).1 (by omega)).trans h2, h3⟩
/-- A list of spots that is being drawn. -/
structure LS (w1 w : World) (p : Nat) (a : Option Addr) (len cap : Nat) (v : Value) (m : Nat) (l : List Int) : Prop where
  own : w.ownsRow w1.heap.size 32 3 v m (lCells l)
  nn : v ≠ .slice none 0 0
  cur : Cur w p a len cap
  kp : Kept p w1 w
  pN : p < w1.heap.size
theorem LS.draw {w1 w w' : World} {p : Nat} {a : Option Addr} {len cap : Nat} {v : Value} {m : Nat} {l : List Int} (s : LS w1 w p a len cap v m l) (h : Dr w p a len cap w') : LS w1 w' p a len cap v m l :=
  ⟨own_keptP s.own h.1 s.pN, s.nn, h.2, s.kp.trans h.1, s.pN⟩
theorem LS.below {w1 w w' : World} {p : Nat} {a : Option Addr} {len cap : Nat} {v : Value} {m : Nat} {l : List Int} (s : LS w1 w p a len cap v m l) (hb : Below w.heap.size w w') : LS w1 w' p a len cap v m l :=
  ⟨own_bel s.own hb, s.nn, s.cur.kept hb, s.kp.trans (Kept.of_below hb), s.pN⟩
theorem LS.st {w1 w : World} {p : Nat} {a : Option Addr} {len cap : Nat} {v : Value} {m : Nat} {l : List Int} (s : LS w1 w p a len cap v m l) : Dr w p a len cap w := Dr.start s.cur
theorem LS.grow {w1 w w' : World} {p : Nat} {a : Option Addr} {len cap : Nat} {v v' : Value} {m m' : Nat} {l l' : List Int} (s : LS w1 w p a len cap v m l) (h1 : w'.ownsRow w1.heap.size 32 3 v' m' (lCells l ++ lCells l')) (hg : w.grownBy w' v.ownBlock) (hv : v' ≠ .slice none 0 0) : LS w1 w' p a len cap v' m' (l ++ l') := by
  have hge : ∀ j, v.ownBlock = some j → w1.heap.size ≤ j := fun j hj => (own_ge s.own hj).1
  have hk : Kept p w1 w' := ⟨hg.os.trans s.kp.os, hg.tape.trans s.kp.tape, hg.output.trans s.kp.output, Nat.le_trans s.kp.size hg.size, fun k hk hp => (hg.block k (Nat.lt_of_lt_of_le hk s.kp.size) (fun e => by have := hge k e.symm; omega)).trans (s.kp.block k hk hp)⟩
  obtain ⟨i, hh, hi, hc, hr⟩ := s.cur
  have hpl : p < w.heap.size := s.cur.lt
  have hc' : w'.heap[p]? = w.heap[p]? := hg.block p hpl (fun e => by have := hge p e.symm; have := s.pN; omega)
  refine ⟨by rw [lCells, List.map_append]; exact h1, hv, ⟨i, hh, hi, hc'.trans hc, ?_⟩, hk, s.pN⟩
  refine ⟨hr.1, hr.2.imp id ?_⟩
  rintro ⟨b, off, e, hb, hcell⟩
  refine ⟨b, off, e, hb, fun j hj => ?_⟩
  obtain ⟨x, h0, h2, h3⟩ := hcell j hj
  refine ⟨x, h0, h2, ?_⟩
  rw [World.cell?_of_block (w := w) (hg.block b (by omega) (fun e => by have := hge b e.symm; have := s.pN; omega))]
  exact h3
theorem LS.set {w1 w : World} {p : Nat} {a : Option Addr} {len cap : Nat} {g m c : Nat} {l : List Int} (s : LS w1 w p a len cap (.slice (some ⟨g, 0, none⟩) m c) m l) (i : Nat) (x : Int) : LS w1 (w.setCell ⟨g, i, none⟩ (.int .i64 x)) p a len cap (.slice (some ⟨g, 0, none⟩) m c) m (l.set i x) := by
  have hg := own_lt s.own
  have hk : Kept p w1 (w.setCell ⟨g, i, none⟩ (.int .i64 x)) := ⟨s.kp.os, s.kp.tape, s.kp.output, by simpa [World.setCell] using s.kp.size, fun k hk hp => (Below.heap_setCell _ _ _ _ (by show k ≠ g; omega)).trans (s.kp.block k hk hp)⟩
  obtain ⟨i', hh, hi, hc, hr⟩ := s.cur
  have hpg : p ≠ g := by have := s.pN; omega
  refine ⟨?_, s.nn, ⟨i', hh, hi, (Below.heap_setCell _ _ _ _ hpg).trans hc, hr.1, hr.2.imp id ?_⟩, hk, s.pN⟩
  · have := own_set s.own i (.int .i64 x)
    rw [show (lCells l).set i (.int .i64 x) = lCells (l.set i x) by simp [lCells, List.map_set]] at this
    exact this
  · rintro ⟨b, off, e, hb, hcell⟩
    refine ⟨b, off, e, hb, fun j hj => ?_⟩
    obtain ⟨y, h0, h2, h3⟩ := hcell j hj
    refine ⟨y, h0, h2, ?_⟩
    rw [World.cell?_of_block (w := w) (Below.heap_setCell _ _ _ _ (by show b ≠ g; have := s.pN; omega))]
    exact h3
theorem LS.open {w1 w : World} {p : Nat} {a : Option Addr} {len cap : Nat} {v : Value} {m : Nat} {l : List Int} (s : LS w1 w p a len cap v m l) : ∃ g c, v = .slice (some ⟨g, 0, none⟩) m c := by
  rcases s.own.2 with ⟨e1, -⟩ | ⟨gg, cc, cur, e1, -⟩
  · exact absurd e1 s.nn
  · exact ⟨gg, cc, e1⟩
theorem LS.cell {w1 w : World} {p : Nat} {a : Option Addr} {len cap : Nat} {g m c : Nat} {l : List Int} (s : LS w1 w p a len cap (.slice (some ⟨g, 0, none⟩) m c) m l) {i : Nat} (hi : i < m * 3) : w.cell? ⟨g, i, none⟩ = some (.int .i64 (l.getD i 0)) ∧ w.frozen? ⟨g, i, none⟩ = false := by
  rcases s.own.2 with ⟨h1, _⟩ | ⟨g', c', cur, h1, hb, hh, hc1, hc2, hsz, ht⟩
  · cases h1
  · simp only [Value.slice.injEq, Option.some.injEq, Addr.mk.injEq] at h1
    obtain ⟨⟨rfl, -, -⟩, -, rfl⟩ := h1
    have hl := s.own.1
    simp only [lCells, List.length_map] at hl
    have a1 : (lCells l)[i]? = some (.int .i64 (l.getD i 0)) := by
      have : i < l.length := by omega
      simp [lCells, this]
    rw [← ht, List.getElem?_take_of_lt hi] at a1
    exact ⟨by simpa [World.cell?, hh] using a1, by simp [World.frozen?, hh]⟩
theorem At.keptP {t : TypeId} {w w' : World} {p q : Nat} {vs : Array Value} (h : At t w q vs) (hk : Kept p w w') (hq : q ≠ p) : At t w' q vs := (hk.block q h.lt hq).trans h
theorem news3d {w : World} {t : TypeId} {g : Nat} {x y z : Int} (h : At t w g #[.int .i64 x, .int .i64 y, .int .i64 z]) : ∀ j u, (lCells [x, y, z])[j]? = some u → w.cell? ((⟨g, 0, none⟩ : Addr).add j) = some u := by
  intro j u hu
  rcases j with _ | _ | _ | j
  · simp [lCells] at hu; subst hu; exact h.cell 0 rfl
  · simp [lCells] at hu; subst hu; exact h.cell 1 rfl
  · simp [lCells] at hu; subst hu; exact h.cell 2 rfl
  · simp [lCells] at hu
def sLen (v : Value) : Nat := match v with | .slice _ n _ => n | _ => 0
/-- What is drawn. -/
def DsP (w1 : World) (p : Nat) (a : Option Addr) (len cap : Nat) (e : Ending) (w' : World) : Prop := ∃ v m l, e = .returned v ∧ m ≤ 17 ∧ LS w1 w' p a len cap v m l
theorem put3_atD {t : TypeId} {w : World} {q : Nat} {x0 x1 x2 : Value} (h : At t w q #[x0, x1, x2]) (v0 v1 v2 : Value) : At t (((w.setCell ⟨q, 0, none⟩ v0).setCell ⟨q, 1, none⟩ v1).setCell ⟨q, 2, none⟩ v2) q #[v0, v1, v2] := by
  simpa using ((h.set 0 v0).set 1 v1).set 2 v2
theorem LS.fresh {w1 w : World} {p : Nat} {a : Option Addr} {len cap : Nat} {v : Value} {m : Nat} {l : List Int} (s : LS w1 w p a len cap v m l) {q : Nat} (hq : w1.heap.size ≤ q) (hv : v.ownBlock ≠ some q) (i : Nat) (x : Value) : LS w1 (w.setCell ⟨q, i, none⟩ x) p a len cap v m l := by
  have hk : Kept p w1 (w.setCell ⟨q, i, none⟩ x) := ⟨s.kp.os, s.kp.tape, s.kp.output, by simpa [World.setCell] using s.kp.size, fun k hk hp => (Below.heap_setCell _ _ _ _ (by show k ≠ q; omega)).trans (s.kp.block k hk hp)⟩
  obtain ⟨i', hh, hi, hc, hr⟩ := s.cur
  have hpq : p ≠ q := by have := s.pN; omega
  refine ⟨own_setO s.own hv _, s.nn, ⟨i', hh, hi, (Below.heap_setCell _ _ _ _ hpq).trans hc, hr.1, hr.2.imp id ?_⟩, hk, s.pN⟩
  rintro ⟨b, off, e, hb, hcell⟩
  refine ⟨b, off, e, hb, fun j hj => ?_⟩
  obtain ⟨y, h0, h2, h3⟩ := hcell j hj
  refine ⟨y, h0, h2, ?_⟩
  rw [World.cell?_of_block (w := w) (Below.heap_setCell _ _ _ _ (by show b ≠ q; have := s.pN; omega))]
  exact h3
set_option maxRecDepth 100000 in
set_option maxHeartbeats 8000000 in
theorem l13Draw_any {w : World} {p : Nat} {a : Option Addr} {len cap : Nat} (hc : Cur w p a len cap) :
    Calls Try.prog 25 #[.pointer (some ⟨p, 0, none⟩)] w (DsP w p a len cap) := by
  obtain ⟨i0, hi0, hz0, hz1, hz2⟩ := info_parts infoSpot
  obtain ⟨V, hV, A0, bb, -⟩ := boxed w 32 #[]
  have R : LS w V p a len cap (.slice (some ⟨w.heap.size, 0, none⟩) 0 0) 0 [] := ⟨⟨rfl, .inr ⟨w.heap.size, 0, #[], rfl, Nat.le_refl _, A0, Nat.le_refl _, Nat.zero_le _, rfl, rfl⟩⟩, (fun h => by cases h), hc.kept bb, Kept.of_below bb, hc.lt⟩
  have hbs : ∀ w, (Instr.buildSlice 24 0 #[]).run Try.prog w = .ok (.slice (some ⟨w.heap.size, 0, none⟩) 0 0) (w.alloc (.cells #[] 32)) := fun _ => by kernel_rfl
  clear hc bb A0
  go_enter Try.func25, Try.ntmps25
  go_wp2_with fail
  refine (below_dr R.st 12 (by omega) (by omega)).mono ?_
  rintro e w1 ⟨ax, rfl, ax0, ax1, hd⟩
  replace R := R.draw hd
  clear hd
  clear hV
  go_wp2_with fail
  refine (below_dr R.st 5 (by omega) (by omega)).mono ?_
  rintro e w2 ⟨ay, rfl, ay0, ay1, hd⟩
  replace R := R.draw hd
  clear hd
  go_wp2_with fail
  refine (below_dr R.st 5 (by omega) (by omega)).mono ?_
  rintro e w3 ⟨bx, rfl, bx0, bx1, hd⟩
  replace R := R.draw hd
  clear hd
  go_wp2_with fail
  refine (below_dr R.st 12 (by omega) (by omega)).mono ?_
  rintro e w4 ⟨b_y, rfl, b_y0, b_y1, hd⟩
  replace R := R.draw hd
  clear hd
  go_wp2_with fail
  refine (below_dr R.st 10 (by omega) (by omega)).mono ?_
  rintro e w5 ⟨nn, rfl, nn0, nn1, hd⟩
  replace R := R.draw hd
  clear hd
  go_wp2
  go_loopw [3, 8] (fun s t wr => ∃ (m : Nat) (k : Int) (l : List Int), 0 ≤ k ∧ k ≤ 9 ∧ (m : Int) + k ≤ 9 ∧ t = .int .i64 k ∧ LS w wr p a len cap s m l) (fun _ t _ => (intOf t).toNat)
  case atStart => exact ⟨0, nn, [], by omega, by omega, by omega, rfl, R⟩
  case round =>
    clear R
    obtain ⟨m, k, l, hk0, hk9, hmk, rfl, R⟩ := hrel
    by_cases hkp : 0 < k
    · have hkp2 := hkp
      go_wp2_with fail
      refine (below_dr R.st 5 (by omega) (by omega)).mono ?_
      rintro e w6 ⟨xi, rfl, xi0, xi1, hd⟩
      replace R := R.draw hd
      clear hd
      go_wp2_with fail
      refine (below_dr R.st 5 (by omega) (by omega)).mono ?_
      rintro e w7 ⟨xk, rfl, xk0, xk1, hd⟩
      replace R := R.draw hd
      clear hd
      have q1 := mul_in (X := 5) (Y := 20) (x := xi) (y := 5 + ax) (by omega) (by omega)
      have q2 := mul_in (X := 5) (Y := 20) (x := xk) (y := bx) (by omega) (by omega)
      have q3 := mul_in (X := 5) (Y := 20) (x := xi) (y := ay) (by omega) (by omega)
      have q4 := mul_in (X := 5) (Y := 20) (x := xk) (y := 5 + b_y) (by omega) (by omega)
      go_wp2_with fail
      refine (below_dr R.st 90 (by omega) (by omega)).mono ?_
      rintro e w8 ⟨pk, rfl, pk0, pk1, hd⟩
      replace R := R.draw hd
      clear hd
      obtain ⟨X, hX⟩ : ∃ X, 3 + xi * (5 + ax) + xk * bx = X := ⟨_, rfl⟩
      obtain ⟨Y, hY⟩ : ∃ Y, 4 + xi * ay + xk * (5 + b_y) = Y := ⟨_, rfl⟩
      obtain ⟨W9, hW9, a9, bb, -⟩ := boxed w8 32 #[.int .i64 X, .int .i64 Y, .int .i64 pk]
      have hov : ∀ j, u3.ownBlock = some j → j < w8.heap.size := fun j hj => (own_ge R.own hj).2
      have hq9 : w.heap.size ≤ w8.heap.size := R.kp.size
      have hp9 : p < w8.heap.size := R.cur.lt
      replace R := R.below bb
      clear bb
      have hov' : u3.ownBlock ≠ some w8.heap.size := fun e => by have := hov _ e; omega
      go_wp2_with fail
      refine (once_dr R.st 8 (by omega) (by omega)).mono ?_
      rintro e w10 ⟨b1, rfl, hd⟩
      replace a9 := a9.keptP hd.1 (by omega)
      replace R := R.draw hd
      obtain ⟨q9, hq9'⟩ : ∃ q, w8.heap.size = q := ⟨_, rfl⟩
      rw [hq9'] at a9 hov' hq9 hp9 ⊢
      clear hd hW9 hX hY q1 q2 q3 q4 hov hq9'
      cases b1
      · skip
        obtain ⟨s0, s1, s2, -⟩ := a9.open3
        obtain ⟨V9, hV9, A9, b10, -⟩ := boxed w10 32 #[.int .i64 X, .int .i64 Y, .int .i64 pk]
        have R9 := R.below b10
        have hkk : w.heap.size ≤ V9.heap.size := R9.kp.size
        obtain ⟨g9, hg9⟩ : ∃ g, w10.heap.size = g := ⟨_, rfl⟩
        rw [hg9] at A9
        have hb2 : ∀ w, (Instr.buildSlice 24 1 #[(0, .agg #[.int .i64 X, .int .i64 Y, .int .i64 pk])]).run Try.prog w = .ok (.slice (some ⟨w.heap.size, 0, none⟩) 1 1) (w.alloc (.cells #[.int .i64 X, .int .i64 Y, .int .i64 pk] 32)) := fun _ => by kernel_rfl
        clear b10 R
        go_wp2_with (at_builtin; refine wpList_append_own _ rfl _ _ _ rfl w.heap.size 32 i0 _ 3 24 Try.underlying24 hi0 hz0 hz1 hz2 rfl (by omega) u3 m (lCells l) rfl R9.own ⟨g9, 0, none⟩ 1 1 (lCells [X, Y, pk]) rfl rfl (news3d A9) (lCells_one _) (by unfold maxLen; omega) (by omega) hkk ?_; intro v2 w16 hown2 hgrow2 hne2)
        have R3 := R9.grow hown2 hgrow2 (fun h => R9.nn (hne2.1 h).1)
        exact ⟨⟨m + 1, k - 1, _, by omega, by omega, by omega, rfl, R3⟩, by simp [intOf]; omega⟩
      · go_wp2_with fail
        refine (below_dr R.st 100 (by omega) (by omega)).mono ?_
        rintro e w11 ⟨x2, rfl, x20, x21, hd⟩
        replace a9 := a9.keptP hd.1 (by omega)
        replace R := R.draw hd
        clear hd
        go_wp2_with fail
        refine (below_dr R.st 100 (by omega) (by omega)).mono ?_
        rintro e w12 ⟨y2, rfl, y20, y21, hd⟩
        replace a9 := a9.keptP hd.1 (by omega)
        replace R := R.draw hd
        clear hd
        obtain ⟨t0, t1, t2, f0, f1, f2⟩ := a9.open3
        have a13 := put3_atD a9 (.int .i64 x2) (.int .i64 y2) (.int .i64 0)
        have R13 := ((R.fresh hq9 hov' 0 (.int .i64 x2)).fresh hq9 hov' 1 (.int .i64 y2)).fresh hq9 hov' 2 (.int .i64 0)
        obtain ⟨W13, hW13⟩ : ∃ W, ((w12.setCell ⟨q9, 0, none⟩ (.int .i64 x2)).setCell ⟨q9, 1, none⟩ (.int .i64 y2)).setCell ⟨q9, 2, none⟩ (.int .i64 0) = W := ⟨_, rfl⟩
        rw [hW13] at a13 R13
        replace R := R13
        replace a9 := a13
        clear R13 a13
        obtain ⟨s0, s1, s2, -⟩ := a9.open3
        obtain ⟨V9, hV9, A9, b10, -⟩ := boxed W13 32 #[.int .i64 x2, .int .i64 y2, .int .i64 0]
        have R9 := R.below b10
        have hkk : w.heap.size ≤ V9.heap.size := R9.kp.size
        obtain ⟨g9, hg9⟩ : ∃ g, W13.heap.size = g := ⟨_, rfl⟩
        rw [hg9] at A9
        have hb2 : ∀ w, (Instr.buildSlice 24 1 #[(0, .agg #[.int .i64 x2, .int .i64 y2, .int .i64 0])]).run Try.prog w = .ok (.slice (some ⟨w.heap.size, 0, none⟩) 1 1) (w.alloc (.cells #[.int .i64 x2, .int .i64 y2, .int .i64 0] 32)) := fun _ => by kernel_rfl
        clear b10 R
        go_wp2_with (at_builtin; refine wpList_append_own _ rfl _ _ _ rfl w.heap.size 32 i0 _ 3 24 Try.underlying24 hi0 hz0 hz1 hz2 rfl (by omega) u3 m (lCells l) rfl R9.own ⟨g9, 0, none⟩ 1 1 (lCells [x2, y2, 0]) rfl rfl (news3d A9) (lCells_one _) (by unfold maxLen; omega) (by omega) hkk ?_; intro v2 w16 hown2 hgrow2 hne2)
        have R3 := R9.grow hown2 hgrow2 (fun h => R9.nn (hne2.1 h).1)
        exact ⟨⟨m + 1, k - 1, _, by omega, by omega, by omega, rfl, R3⟩, by simp [intOf]; omega⟩
    · have hm9 : m ≤ 9 := by omega
      obtain ⟨gg, cc, rfl⟩ := R.open
      go_wp2_with fail
      refine (once_dr R.st 20 (by omega) (by omega)).mono ?_
      rintro e w10 ⟨b1, rfl, hd⟩
      replace R := R.draw hd
      clear hd
      cases b1
      · skip
        go_wp2_with fail
        refine (once_dr R.st 40 (by omega) (by omega)).mono ?_
        rintro e w20 ⟨b2, rfl, hd⟩
        replace R := R.draw hd
        clear hd
        cases b2
        · go_wp2
          exact bodyPost_ret (v := .slice (some ⟨gg, 0, none⟩) _ cc) (by simp [results, Try.results25, go_sem]) rfl ⟨_, _, _, rfl, by omega, R⟩
        · go_wp2
          go_loopw [3] (fun s wr => ∃ (m : Nat) (l : List Int), m ≤ 17 ∧ LS w wr p a len cap s m l) (fun s _ => 17 - sLen s)
          case atStart => exact ⟨_, _, by omega, R⟩
          case round =>
            clear R
            obtain ⟨m, l, hm17, R⟩ := hrel
            obtain ⟨g7, c7, rfl⟩ := R.open
            go_wp2_with fail
            refine (below_dr R.st 2 (by omega) (by omega)).mono ?_
            rintro e w21 ⟨x9, rfl, x90, x91, hd⟩
            replace R := R.draw hd
            clear hd
            by_cases hc9 : (m : Int) < 16 + x9
            · go_wp2_with fail
              refine (below_dr R.st 50 (by omega) (by omega)).mono ?_
              rintro e w23 ⟨x2, rfl, x20, x21, hd⟩
              replace R := R.draw hd
              clear hd
              go_wp2_with fail
              refine (below_dr R.st 50 (by omega) (by omega)).mono ?_
              rintro e w22 ⟨y2, rfl, y20, y21, hd⟩
              replace R := R.draw hd
              clear hd
              obtain ⟨V9, hV9, A9, b10, -⟩ := boxed w22 32 #[.int .i64 x2, .int .i64 y2, .int .i64 0]
              have R9 := R.below b10
              have hkk : w.heap.size ≤ V9.heap.size := R9.kp.size
              obtain ⟨g9, hg9⟩ : ∃ g, w22.heap.size = g := ⟨_, rfl⟩
              rw [hg9] at A9
              have hb2 : ∀ w, (Instr.buildSlice 24 1 #[(0, .agg #[.int .i64 x2, .int .i64 y2, .int .i64 0])]).run Try.prog w = .ok (.slice (some ⟨w.heap.size, 0, none⟩) 1 1) (w.alloc (.cells #[.int .i64 x2, .int .i64 y2, .int .i64 0] 32)) := fun _ => by kernel_rfl
              clear b10 R
              go_wp2_with (at_builtin; refine wpList_append_own _ rfl _ _ _ rfl w.heap.size 32 i0 _ 3 24 Try.underlying24 hi0 hz0 hz1 hz2 rfl (by omega) (.slice (some ⟨g7, 0, none⟩) m c7) m (lCells l) rfl R9.own ⟨g9, 0, none⟩ 1 1 (lCells [x2, y2, 0]) rfl rfl (news3d A9) (lCells_one _) (by unfold maxLen; omega) (by omega) hkk ?_; intro v2 w16 hown2 hgrow2 hne2)
              have R3 := R9.grow hown2 hgrow2 (fun h => R9.nn (hne2.1 h).1)
              obtain ⟨g8, c8, rfl⟩ := R3.open
              exact ⟨⟨m + 1, _, by omega, R3⟩, by simp [sLen]; omega⟩
            · go_wp2
              exact bodyPost_ret (v := .slice (some ⟨g7, 0, none⟩) m c7) (by simp [results, Try.results25, go_sem]) rfl ⟨_, _, _, rfl, by omega, R⟩
      · by_cases hm0 : 0 < m
        · have hm0' : (0 : Int) < (m : Int) := by omega
          obtain ⟨V3, hV3, a3, bb, -⟩ := boxed w10 2 #[.int .i64 (-1), .int .i64 1000, .int .i64 1001]
          have hov : gg < w10.heap.size := (own_lt R.own).2.1
          have hp3 : p < w10.heap.size := R.cur.lt
          replace R := R.below bb
          have hb3 : ∀ w, (Instr.buildSlice 86 3 #[(0, .int .i64 (-1)), (1, .int .i64 1000), (2, .int .i64 1001)]).run Try.prog w = .ok (.slice (some ⟨w.heap.size, 0, none⟩) 3 3) (w.alloc (.cells #[.int .i64 (-1), .int .i64 1000, .int .i64 1001] 2)) := fun _ => by kernel_rfl
          clear bb
          go_wp2_with fail
          refine (below_dr R.st 3 (by omega) (by omega)).mono ?_
          rintro e w11 ⟨x3, rfl, x30, x31, hd⟩
          replace a3 := a3.keptP hd.1 (by omega)
          replace R := R.draw hd
          clear hd
          obtain ⟨c0, c1, c2, -⟩ := a3.open3
          obtain ⟨d0, f0⟩ := R.cell (i := 0) (by omega)
          rcases (by omega : x3 = 0 ∨ x3 = 1 ∨ x3 = 2) with rfl | rfl | rfl
          · replace R := R.set 0 (-1)
            obtain ⟨W14, hW14⟩ : ∃ W, w11.setCell ⟨gg, 0, none⟩ (.int .i64 (-1)) = W := ⟨_, rfl⟩
            rw [hW14] at R
            go_wp2_with fail
            refine (once_dr R.st 40 (by omega) (by omega)).mono ?_
            rintro e w20 ⟨b2, rfl, hd⟩
            replace R := R.draw hd
            clear hd
            cases b2
            · go_wp2
              exact bodyPost_ret (v := .slice (some ⟨gg, 0, none⟩) _ cc) (by simp [results, Try.results25, go_sem]) rfl ⟨_, _, _, rfl, by omega, R⟩
            · go_wp2
              go_loopw [3] (fun s wr => ∃ (m : Nat) (l : List Int), m ≤ 17 ∧ LS w wr p a len cap s m l) (fun s _ => 17 - sLen s)
              case atStart => exact ⟨_, _, by omega, R⟩
              case round =>
                clear R
                obtain ⟨m, l, hm17, R⟩ := hrel
                obtain ⟨g7, c7, rfl⟩ := R.open
                go_wp2_with fail
                refine (below_dr R.st 2 (by omega) (by omega)).mono ?_
                rintro e w21 ⟨x9, rfl, x90, x91, hd⟩
                replace R := R.draw hd
                clear hd
                by_cases hc9 : (m : Int) < 16 + x9
                · go_wp2_with fail
                  refine (below_dr R.st 50 (by omega) (by omega)).mono ?_
                  rintro e w23 ⟨x2, rfl, x20, x21, hd⟩
                  replace R := R.draw hd
                  clear hd
                  go_wp2_with fail
                  refine (below_dr R.st 50 (by omega) (by omega)).mono ?_
                  rintro e w22 ⟨y2, rfl, y20, y21, hd⟩
                  replace R := R.draw hd
                  clear hd
                  obtain ⟨V9, hV9, A9, b10, -⟩ := boxed w22 32 #[.int .i64 x2, .int .i64 y2, .int .i64 0]
                  have R9 := R.below b10
                  have hkk : w.heap.size ≤ V9.heap.size := R9.kp.size
                  obtain ⟨g9, hg9⟩ : ∃ g, w22.heap.size = g := ⟨_, rfl⟩
                  rw [hg9] at A9
                  have hb2 : ∀ w, (Instr.buildSlice 24 1 #[(0, .agg #[.int .i64 x2, .int .i64 y2, .int .i64 0])]).run Try.prog w = .ok (.slice (some ⟨w.heap.size, 0, none⟩) 1 1) (w.alloc (.cells #[.int .i64 x2, .int .i64 y2, .int .i64 0] 32)) := fun _ => by kernel_rfl
                  clear b10 R
                  go_wp2_with (at_builtin; refine wpList_append_own _ rfl _ _ _ rfl w.heap.size 32 i0 _ 3 24 Try.underlying24 hi0 hz0 hz1 hz2 rfl (by omega) (.slice (some ⟨g7, 0, none⟩) m c7) m (lCells l) rfl R9.own ⟨g9, 0, none⟩ 1 1 (lCells [x2, y2, 0]) rfl rfl (news3d A9) (lCells_one _) (by unfold maxLen; omega) (by omega) hkk ?_; intro v2 w16 hown2 hgrow2 hne2)
                  have R3 := R9.grow hown2 hgrow2 (fun h => R9.nn (hne2.1 h).1)
                  obtain ⟨g8, c8, rfl⟩ := R3.open
                  exact ⟨⟨m + 1, _, by omega, R3⟩, by simp [sLen]; omega⟩
                · go_wp2
                  exact bodyPost_ret (v := .slice (some ⟨g7, 0, none⟩) m c7) (by simp [results, Try.results25, go_sem]) rfl ⟨_, _, _, rfl, by omega, R⟩
          · replace R := R.set 0 1000
            obtain ⟨W14, hW14⟩ : ∃ W, w11.setCell ⟨gg, 0, none⟩ (.int .i64 1000) = W := ⟨_, rfl⟩
            rw [hW14] at R
            go_wp2_with fail
            refine (once_dr R.st 40 (by omega) (by omega)).mono ?_
            rintro e w20 ⟨b2, rfl, hd⟩
            replace R := R.draw hd
            clear hd
            cases b2
            · go_wp2
              exact bodyPost_ret (v := .slice (some ⟨gg, 0, none⟩) _ cc) (by simp [results, Try.results25, go_sem]) rfl ⟨_, _, _, rfl, by omega, R⟩
            · go_wp2
              go_loopw [3] (fun s wr => ∃ (m : Nat) (l : List Int), m ≤ 17 ∧ LS w wr p a len cap s m l) (fun s _ => 17 - sLen s)
              case atStart => exact ⟨_, _, by omega, R⟩
              case round =>
                clear R
                obtain ⟨m, l, hm17, R⟩ := hrel
                obtain ⟨g7, c7, rfl⟩ := R.open
                go_wp2_with fail
                refine (below_dr R.st 2 (by omega) (by omega)).mono ?_
                rintro e w21 ⟨x9, rfl, x90, x91, hd⟩
                replace R := R.draw hd
                clear hd
                by_cases hc9 : (m : Int) < 16 + x9
                · go_wp2_with fail
                  refine (below_dr R.st 50 (by omega) (by omega)).mono ?_
                  rintro e w23 ⟨x2, rfl, x20, x21, hd⟩
                  replace R := R.draw hd
                  clear hd
                  go_wp2_with fail
                  refine (below_dr R.st 50 (by omega) (by omega)).mono ?_
                  rintro e w22 ⟨y2, rfl, y20, y21, hd⟩
                  replace R := R.draw hd
                  clear hd
                  obtain ⟨V9, hV9, A9, b10, -⟩ := boxed w22 32 #[.int .i64 x2, .int .i64 y2, .int .i64 0]
                  have R9 := R.below b10
                  have hkk : w.heap.size ≤ V9.heap.size := R9.kp.size
                  obtain ⟨g9, hg9⟩ : ∃ g, w22.heap.size = g := ⟨_, rfl⟩
                  rw [hg9] at A9
                  have hb2 : ∀ w, (Instr.buildSlice 24 1 #[(0, .agg #[.int .i64 x2, .int .i64 y2, .int .i64 0])]).run Try.prog w = .ok (.slice (some ⟨w.heap.size, 0, none⟩) 1 1) (w.alloc (.cells #[.int .i64 x2, .int .i64 y2, .int .i64 0] 32)) := fun _ => by kernel_rfl
                  clear b10 R
                  go_wp2_with (at_builtin; refine wpList_append_own _ rfl _ _ _ rfl w.heap.size 32 i0 _ 3 24 Try.underlying24 hi0 hz0 hz1 hz2 rfl (by omega) (.slice (some ⟨g7, 0, none⟩) m c7) m (lCells l) rfl R9.own ⟨g9, 0, none⟩ 1 1 (lCells [x2, y2, 0]) rfl rfl (news3d A9) (lCells_one _) (by unfold maxLen; omega) (by omega) hkk ?_; intro v2 w16 hown2 hgrow2 hne2)
                  have R3 := R9.grow hown2 hgrow2 (fun h => R9.nn (hne2.1 h).1)
                  obtain ⟨g8, c8, rfl⟩ := R3.open
                  exact ⟨⟨m + 1, _, by omega, R3⟩, by simp [sLen]; omega⟩
                · go_wp2
                  exact bodyPost_ret (v := .slice (some ⟨g7, 0, none⟩) m c7) (by simp [results, Try.results25, go_sem]) rfl ⟨_, _, _, rfl, by omega, R⟩
          · replace R := R.set 0 1001
            obtain ⟨W14, hW14⟩ : ∃ W, w11.setCell ⟨gg, 0, none⟩ (.int .i64 1001) = W := ⟨_, rfl⟩
            rw [hW14] at R
            go_wp2_with fail
            refine (once_dr R.st 40 (by omega) (by omega)).mono ?_
            rintro e w20 ⟨b2, rfl, hd⟩
            replace R := R.draw hd
            clear hd
            cases b2
            · go_wp2
              exact bodyPost_ret (v := .slice (some ⟨gg, 0, none⟩) _ cc) (by simp [results, Try.results25, go_sem]) rfl ⟨_, _, _, rfl, by omega, R⟩
            · go_wp2
              go_loopw [3] (fun s wr => ∃ (m : Nat) (l : List Int), m ≤ 17 ∧ LS w wr p a len cap s m l) (fun s _ => 17 - sLen s)
              case atStart => exact ⟨_, _, by omega, R⟩
              case round =>
                clear R
                obtain ⟨m, l, hm17, R⟩ := hrel
                obtain ⟨g7, c7, rfl⟩ := R.open
                go_wp2_with fail
                refine (below_dr R.st 2 (by omega) (by omega)).mono ?_
                rintro e w21 ⟨x9, rfl, x90, x91, hd⟩
                replace R := R.draw hd
                clear hd
                by_cases hc9 : (m : Int) < 16 + x9
                · go_wp2_with fail
                  refine (below_dr R.st 50 (by omega) (by omega)).mono ?_
                  rintro e w23 ⟨x2, rfl, x20, x21, hd⟩
                  replace R := R.draw hd
                  clear hd
                  go_wp2_with fail
                  refine (below_dr R.st 50 (by omega) (by omega)).mono ?_
                  rintro e w22 ⟨y2, rfl, y20, y21, hd⟩
                  replace R := R.draw hd
                  clear hd
                  obtain ⟨V9, hV9, A9, b10, -⟩ := boxed w22 32 #[.int .i64 x2, .int .i64 y2, .int .i64 0]
                  have R9 := R.below b10
                  have hkk : w.heap.size ≤ V9.heap.size := R9.kp.size
                  obtain ⟨g9, hg9⟩ : ∃ g, w22.heap.size = g := ⟨_, rfl⟩
                  rw [hg9] at A9
                  have hb2 : ∀ w, (Instr.buildSlice 24 1 #[(0, .agg #[.int .i64 x2, .int .i64 y2, .int .i64 0])]).run Try.prog w = .ok (.slice (some ⟨w.heap.size, 0, none⟩) 1 1) (w.alloc (.cells #[.int .i64 x2, .int .i64 y2, .int .i64 0] 32)) := fun _ => by kernel_rfl
                  clear b10 R
                  go_wp2_with (at_builtin; refine wpList_append_own _ rfl _ _ _ rfl w.heap.size 32 i0 _ 3 24 Try.underlying24 hi0 hz0 hz1 hz2 rfl (by omega) (.slice (some ⟨g7, 0, none⟩) m c7) m (lCells l) rfl R9.own ⟨g9, 0, none⟩ 1 1 (lCells [x2, y2, 0]) rfl rfl (news3d A9) (lCells_one _) (by unfold maxLen; omega) (by omega) hkk ?_; intro v2 w16 hown2 hgrow2 hne2)
                  have R3 := R9.grow hown2 hgrow2 (fun h => R9.nn (hne2.1 h).1)
                  obtain ⟨g8, c8, rfl⟩ := R3.open
                  exact ⟨⟨m + 1, _, by omega, R3⟩, by simp [sLen]; omega⟩
                · go_wp2
                  exact bodyPost_ret (v := .slice (some ⟨g7, 0, none⟩) m c7) (by simp [results, Try.results25, go_sem]) rfl ⟨_, _, _, rfl, by omega, R⟩
        · obtain rfl : m = 0 := by omega
          go_wp2_with fail
          refine (once_dr R.st 40 (by omega) (by omega)).mono ?_
          rintro e w20 ⟨b2, rfl, hd⟩
          replace R := R.draw hd
          clear hd
          cases b2
          · go_wp2
            exact bodyPost_ret (v := .slice (some ⟨gg, 0, none⟩) _ cc) (by simp [results, Try.results25, go_sem]) rfl ⟨_, _, _, rfl, by omega, R⟩
          · go_wp2
            go_loopw [3] (fun s wr => ∃ (m : Nat) (l : List Int), m ≤ 17 ∧ LS w wr p a len cap s m l) (fun s _ => 17 - sLen s)
            case atStart => exact ⟨_, _, by omega, R⟩
            case round =>
              clear R
              obtain ⟨m, l, hm17, R⟩ := hrel
              obtain ⟨g7, c7, rfl⟩ := R.open
              go_wp2_with fail
              refine (below_dr R.st 2 (by omega) (by omega)).mono ?_
              rintro e w21 ⟨x9, rfl, x90, x91, hd⟩
              replace R := R.draw hd
              clear hd
              by_cases hc9 : (m : Int) < 16 + x9
              · go_wp2_with fail
                refine (below_dr R.st 50 (by omega) (by omega)).mono ?_
                rintro e w23 ⟨x2, rfl, x20, x21, hd⟩
                replace R := R.draw hd
                clear hd
                go_wp2_with fail
                refine (below_dr R.st 50 (by omega) (by omega)).mono ?_
                rintro e w22 ⟨y2, rfl, y20, y21, hd⟩
                replace R := R.draw hd
                clear hd
                obtain ⟨V9, hV9, A9, b10, -⟩ := boxed w22 32 #[.int .i64 x2, .int .i64 y2, .int .i64 0]
                have R9 := R.below b10
                have hkk : w.heap.size ≤ V9.heap.size := R9.kp.size
                obtain ⟨g9, hg9⟩ : ∃ g, w22.heap.size = g := ⟨_, rfl⟩
                rw [hg9] at A9
                have hb2 : ∀ w, (Instr.buildSlice 24 1 #[(0, .agg #[.int .i64 x2, .int .i64 y2, .int .i64 0])]).run Try.prog w = .ok (.slice (some ⟨w.heap.size, 0, none⟩) 1 1) (w.alloc (.cells #[.int .i64 x2, .int .i64 y2, .int .i64 0] 32)) := fun _ => by kernel_rfl
                clear b10 R
                go_wp2_with (at_builtin; refine wpList_append_own _ rfl _ _ _ rfl w.heap.size 32 i0 _ 3 24 Try.underlying24 hi0 hz0 hz1 hz2 rfl (by omega) (.slice (some ⟨g7, 0, none⟩) m c7) m (lCells l) rfl R9.own ⟨g9, 0, none⟩ 1 1 (lCells [x2, y2, 0]) rfl rfl (news3d A9) (lCells_one _) (by unfold maxLen; omega) (by omega) hkk ?_; intro v2 w16 hown2 hgrow2 hne2)
                have R3 := R9.grow hown2 hgrow2 (fun h => R9.nn (hne2.1 h).1)
                obtain ⟨g8, c8, rfl⟩ := R3.open
                exact ⟨⟨m + 1, _, by omega, R3⟩, by simp [sLen]; omega⟩
              · go_wp2
                exact bodyPost_ret (v := .slice (some ⟨g7, 0, none⟩) m c7) (by simp [results, Try.results25, go_sem]) rfl ⟨_, _, _, rfl, by omega, R⟩
theorem drawFind_any {w : World} {a : Option Addr} {len cap : Nat} (hr : Row w w.heap.size a len) :
    Calls Try.prog 8 #[.slice a len cap] w fun e w' => ∃ g c m l, e = .returned (.slice (some ⟨g, 0, none⟩) m c) ∧ m ≤ 17 ∧ w.heap.size ≤ g ∧ w'.ownsRow w.heap.size 32 3 (.slice (some ⟨g, 0, none⟩) m c) m (lCells l) ∧ Trips w' g m (fun i => l.getD i 0) ∧ Below w.heap.size w w' := by
  go_enter Try.func8, Try.ntmps8
  go_wp2_with fail
  refine (new_any hr).mono ?_
  rintro e w1 ⟨rfl, b1, hc⟩
  go_wp2_with fail
  refine (l13Draw_any hc).mono ?_
  rintro e w2 ⟨v, m, l, rfl, hm, R⟩
  obtain ⟨g, c, rfl⟩ := R.open
  have hg := own_lt R.own
  have hT : Trips w2 g m (fun i => l.getD i 0) := ⟨hg.2.1, fun i hi => (R.cell hi).1⟩
  have hB : Below w.heap.size w w2 := b1.trans (R.kp.below (Nat.le_refl _) b1.size)
  have hO : w2.ownsRow w.heap.size 32 3 (.slice (some ⟨g, 0, none⟩) m c) m (lCells l) := by
    refine ⟨R.own.1, R.own.2.imp id ?_⟩
    rintro ⟨g', cap', cur, e, h1, h2⟩
    exact ⟨g', cap', cur, e, Nat.le_trans b1.size h1, h2⟩
  have hgw : w.heap.size ≤ g := Nat.le_trans b1.size hg.1
  clear R
  go_wp2
  go_ret
  exact ⟨g, c, m, l, rfl, hm, hgw, hO, hT, hB⟩
end Go.Proofs.Ytjlmiadmobbibaa
