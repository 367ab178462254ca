/-
  Maps drawn: walked.
-/
import Derived.Test.YtiocneailhplkaaGreatAv2
import Derived.Test.YtiocneailhplkaaGreatNH
import Derived.Test.YtiocneailhplkaaGreatND
namespace Go.Proofs.YtiocneailhplkaaGreat
open Go.RowKit

theorem Made.mb {w w' : World} {g n k : Nat} {f : Nat → Int} (h : Made w g n k f) (hb : Below w.heap.size w w') : Made w' g n k f := by
  obtain ⟨cur, a, h1⟩ := h
  exact ⟨cur, a.below hb, h1⟩
theorem Made.get {w : World} {g n k i : Nat} {f : Nat → Int} (h : Made w g n k f) (hi : i < k) : w.cell? ⟨g, i, none⟩ = some (.int .i64 (f i)) ∧ w.frozen? ⟨g, i, none⟩ = false := by
  obtain ⟨cur, a, -, h2⟩ := h
  exact ⟨a.cell i (h2 i hi), a.frozen i⟩
/-- A map drawn. -/
def DrwM (w : World) (p : Nat) (a : Option Addr) (len cap : Nat) (e : Ending) (w' : World) : Prop :=
  ∃ (N : Int) (s : Option Addr) (L C : Nat) (F : Nat → Int), e = .returned (.agg #[.int .i64 N, .slice s L C]) ∧ (-9223372036854775808 ≤ N ∧ N ≤ 9223372036854775807) ∧ L ≤ 2000 ∧ Arr w' w.heap.size w'.heap.size (.slice s L C) L F ∧ Dr w p a len cap w'
/-- A right map drawn. -/
def DrwR (w : World) (p : Nat) (a : Option Addr) (len cap : Nat) (e : Ending) (w' : World) : Prop :=
  ∃ (N : Int) (g : Nat) (F : Nat → Int), e = .returned (.agg #[.int .i64 N, .slice (some ⟨g, 0, none⟩) (cube N) (cube N)]) ∧ side N ∧ w.heap.size ≤ g ∧ Made w' g (cube N) (cube N) F ∧ Dr w p a len cap w'
theorem tabS {w : World} {q : Nat} (h : At 2 w q #[.int .i64 1, .int .i64 2, .int .i64 3, .int .i64 4, .int .i64 4, .int .i64 2, .int .i64 6, .int .i64 12]) (z : Nat) (hz : z < 8) : ∃ y : Int, side y ∧ w.cell? ⟨q, z, none⟩ = some (.int .i64 y) := by
  unfold side
  rcases (by omega : z = 0 ∨ z = 1 ∨ z = 2 ∨ z = 3 ∨ z = 4 ∨ z = 5 ∨ z = 6 ∨ z = 7) with rfl | rfl | rfl | rfl | rfl | rfl | rfl | rfl
  · exact ⟨1, by omega, h.cell 0 rfl⟩
  · exact ⟨2, by omega, h.cell 1 rfl⟩
  · exact ⟨3, by omega, h.cell 2 rfl⟩
  · exact ⟨4, by omega, h.cell 3 rfl⟩
  · exact ⟨4, by omega, h.cell 4 rfl⟩
  · exact ⟨2, by omega, h.cell 5 rfl⟩
  · exact ⟨6, by omega, h.cell 6 rfl⟩
  · exact ⟨12, by omega, h.cell 7 rfl⟩
set_option maxRecDepth 100000 in
set_option maxHeartbeats 4000000 in
theorem drawM_dr {w : World} {p : Nat} {a : Option Addr} {len cap : Nat} (most : Int) (hm : 1 ≤ most ∧ most ≤ 8) (hc : Cur w p a len cap) :
    Calls Tryz.prog 48 #[.pointer (some ⟨p, 0, none⟩), .int .i64 most] w (DrwR w p a len cap) := by
  have hlt := hc.lt
  obtain ⟨hm0, hm1⟩ := hm
  have hbs : ∀ w, (Instr.buildSlice 24 8 #[(0, .int .i64 1), (1, .int .i64 2), (2, .int .i64 3), (3, .int .i64 4), (4, .int .i64 4), (5, .int .i64 2), (6, .int .i64 6), (7, .int .i64 12)]).run Tryz.prog w = .ok (.slice (some ⟨w.heap.size, 0, none⟩) 8 8) (w.alloc (.cells #[.int .i64 1, .int .i64 2, .int .i64 3, .int .i64 4, .int .i64 4, .int .i64 2, .int .i64 6, .int .i64 12] 2)) := fun _ => by kernel_rfl
  obtain ⟨q4, hq4⟩ : ∃ q, w.heap.size = q := ⟨_, rfl⟩
  obtain ⟨W1, hW1, a4, b1, -⟩ := boxed w 26 #[.int .i64 0, .slice none 0 0]
  rw [hq4] at a4
  obtain ⟨q8, hq8⟩ : ∃ q, W1.heap.size = q := ⟨_, rfl⟩
  obtain ⟨W2, hW2, a8, b2, -⟩ := boxed W1 2 #[.int .i64 1, .int .i64 2, .int .i64 3, .int .i64 4, .int .i64 4, .int .i64 2, .int .i64 6, .int .i64 12]
  rw [hq8] at a8
  have l48 : q4 < q8 := by have := a4.lt; omega
  replace a4 := a4.below b2
  have hd : Dr w p a len cap W2 := (Dr.start hc).below (b1.trans (b2.mono b1.size))
  have hbs2 := hbs W1
  rw [hW2, hq8] at hbs2
  clear b1 b2 hbs hc
  go_enter Tryz.func48, Tryz.ntmps48
  go_wp2_with fail
  refine (below_dr (Dr.start hd.2) most (by omega) (by omega)).mono ?_
  rintro e w3 ⟨x, rfl, x0, x1, hd3⟩
  clear hW1 hW2 hbs2 hq8
  have n8 : q8 ≠ p := by omega
  have n4 : q4 ≠ p := by omega
  replace a4 := a4.kept hd3.1 n4
  replace a8 := a8.kept hd3.1 n8
  replace hd := hd3.from hd.1
  clear hd3
  obtain ⟨z, rfl⟩ := Int.eq_ofNat_of_zero_le x0
  have hz : z < 8 := by omega
  have hz8 : (z : Int) < 8 := by omega
  obtain ⟨N, hN, k0⟩ := tabS a8 z hz
  clear a8 x0 x1 hm1 hm0
  go_wp2_with fail
  refine (new_map N hN w3).mono ?_
  rintro e w4 ⟨go, rfl, hgo, hM0, b4⟩
  have hws : w.heap.size ≤ w3.heap.size := hd.1.size
  have hs4 : q4 < go := by have := a4.lt; omega
  have hgop : go ≠ p := by omega
  replace a4 := a4.below b4
  replace hd := hd.below b4
  obtain ⟨L, hL⟩ : ∃ L, cube N = L := ⟨_, rfl⟩
  have hLb : L ≤ 1728 := by rw [← hL]; exact (cube_is hN).2.2
  rw [hL] at hM0 ⊢
  obtain ⟨q6, hq6⟩ : ∃ q, w4.heap.size = q := ⟨_, rfl⟩
  obtain ⟨W5, hW5, a6, b5, -⟩ := boxed w4 26 #[.int .i64 N, .slice (some ⟨go, 0, none⟩) L L]
  rw [hq6] at a6
  have hgo6 : go < q6 := by have := hM0.lt; omega
  have n6 : q6 ≠ p := by omega
  have hM5 : Made W5 go L L (fun _ => 0) := by
    obtain ⟨cur, a, h1⟩ := hM0
    exact ⟨cur, a.below b5, h1⟩
  replace a4 := a4.below b5
  replace hd := hd.below b5
  have HL := hid_of hL
  have HN := hid_of hN
  have hLi : (L : Int) ≤ 1728 := by omega
  have hwgo : w.heap.size ≤ go := by omega
  have HM5 := hid_of hM5
  have HA4 := hid_of a4
  have HA6 := hid_of a6
  clear b4 b5 hM0 hL hN k0 hgo hws hM5 a4 a6 hz hz8
  obtain ⟨o0, o1, -⟩ := HA6.out.open2
  go_wp2
  clear hW5 hq6 o0 o1
  go_loopw [7] (fun s wr => ∃ (i : Nat) (F : Nat → Int), i ≤ L ∧ s = .int .i64 (i : Int) ∧ Hid (Made wr go L L F) ∧ Hid (At 26 wr q6 #[.int .i64 N, .slice (some ⟨go, 0, none⟩) L L]) ∧ Hid (At 26 wr q4 #[.int .i64 0, .slice none 0 0]) ∧ Dr w p a len cap wr) (fun s _ => L - (intOf s).toNat)
  case atStart => exact ⟨0, _, Nat.zero_le _, rfl, HM5, HA6, HA4, hd⟩
  case round =>
    clear HM5 HA6 HA4 hd
    obtain ⟨i, F, hi, rfl, M, A6, A4, hd⟩ := hrel
    by_cases hil : i < L
    · have hil' : (i : Int) < (L : Int) := by omega
      obtain ⟨o0, o1, -⟩ := A6.out.open2
      go_wp2_with fail
      refine (once_dr (Dr.start hd.2) 3 (by omega) (by omega)).mono ?_
      rintro e w7 ⟨r, rfl, hd7⟩
      have M7 : Made w7 go L L F := M.out.kept hd7.1 hgop
      have A67 := A6.out.kept hd7.1 n6
      have A47 := hid_of (A4.out.kept hd7.1 n4)
      replace hd := hd7.from hd.1
      clear M A6 A4 hd7 o0 o1
      cases r
      case false =>
        have hdT := hd
        go_wp2_with fail
        refine (once_dr (Dr.start hdT.2) 20 (by omega) (by omega)).mono ?_
        rintro e w8 ⟨r, rfl, hd8⟩
        have M8 := Made.kept M7 hd8.1 hgop
        have A68 := A67.kept hd8.1 n6
        have A48 := hid_of (A47.out.kept hd8.1 n4)
        have hd := hd8.from hdT.1
        clear hdT hd8
        cases r
        · have HM8 := hid_of M8
          have HA68 := hid_of A68
          clear M8 A68
          go_wp2
          exact ⟨⟨i + 1, _, by omega, by go_num, HM8, HA68, A48, hd⟩, by simp [intOf]; omega⟩
        · go_wp2_with fail
          obtain ⟨u0, hu0, bb⟩ : ∃ uu, w8.drew = uu ∧ Below w8.heap.size w8 uu := ⟨_, rfl, (Below.refl _ _).drew⟩
          have A6u := A68.below bb
          have M6u := Made.mb M8 bb
          have hku : Kept p w8 u0 := Kept.of_below bb
          have hdu := hd.below bb
          clear hd
          clear bb
          refine wp_region_held_drew (S := fun w' => At 26 w' q6 #[.int .i64 N, .slice (some ⟨go, 0, none⟩) L L]) (by kernel_rfl) (by rw [hu0]; exact A6u) (fun hHeld => ?_)
          rw [hu0] at hHeld ⊢
          clear hu0
          change wpAnyH _ _ _ _ _ 7 #[false, false, false, false, false, false, false] _ _
          refine wpAnyH_take (i := 0) (v := .pointer (some ⟨q6, 1, none⟩)) rfl (by kernel_rfl) (by kernel_rfl) (by kernel_rfl) (fun _ _ _ h => h) (Or.inl ⟨by kernel_rfl, ?_⟩) hHeld ?_
          · intro w' hSw; go_simp
          try simp only [Act.put, List.setIfInBounds_toArray, List.set_cons_zero, List.set_cons_succ, List.getElem_toArray, List.getElem_cons_zero]
          refine wpAnyH_take (i := 1) (v := .slice ((some ⟨go, 0, none⟩)) L L) rfl (by kernel_rfl) (by kernel_rfl) (by kernel_rfl) (fun _ _ _ h => h) (Or.inl ⟨by kernel_rfl, ?_⟩) hHeld ?_
          · intro w' hSw; obtain ⟨z0, z1, -⟩ := At.open2 hSw; go_simp
          try simp only [Act.put, List.setIfInBounds_toArray, List.set_cons_zero, List.set_cons_succ, List.getElem_toArray, List.getElem_cons_succ, List.getElem_cons_zero]
          refine wpAnyH_take (i := 2) (v := .int .i64 ((i : Int))) rfl (by kernel_rfl) (by kernel_rfl) (by kernel_rfl) (fun _ _ _ h => h) (Or.inl ⟨by kernel_rfl, ?_⟩) hHeld ?_
          · intro w' hSw; go_simp
          try simp only [Act.put, List.setIfInBounds_toArray, List.set_cons_zero, List.set_cons_succ, List.getElem_toArray, List.getElem_cons_succ, List.getElem_cons_zero]
          refine wpAnyH_take (i := 3) (v := .pointer (some ⟨p, 0, none⟩)) rfl (by kernel_rfl) (by kernel_rfl) (by kernel_rfl) (fun _ _ _ h => h) (Or.inl ⟨by kernel_rfl, ?_⟩) hHeld ?_
          · intro w' hSw; go_simp
          try simp only [Act.put, List.setIfInBounds_toArray, List.set_cons_zero, List.set_cons_succ, List.getElem_toArray, List.getElem_cons_succ, List.getElem_cons_zero]
          refine wpAnyH_ready (rs := [4]) (by kernel_rfl) (by simp) ?_
          refine AllReadyH.cons rfl (fun KK hK' => ?_) AllReadyH.nil
          go_simp
          refine (below_dr (Dr.start hdu.2) 12289 (by omega) (by omega)).mono ?_
          rintro e u1 ⟨x, rfl, x0, x1, hd3⟩
          replace A6u := A6u.kept hd3.1 n6
          replace M6u := Made.kept M6u hd3.1 hgop
          replace hku := hku.trans hd3.1
          replace hdu := hd3.from hdu.1
          clear hd3
          try go_wp2_with fail
          clear hHeld
          refine hK'.out _ _ (A6u) (fun hHeld => ?_)
          clear hK' KK
          try simp only [List.setIfInBounds_toArray, List.set_cons_zero, List.set_cons_succ]
          refine wpAnyH_take (i := 5) (v := .pointer (some ⟨go, i, none⟩)) rfl (by kernel_rfl) (by kernel_rfl) (by kernel_rfl) (fun _ _ _ h => h) (Or.inl ⟨by kernel_rfl, ?_⟩) hHeld ?_
          · intro w' hSw; go_simp
          try simp only [Act.put, List.setIfInBounds_toArray, List.set_cons_zero, List.set_cons_succ, List.getElem_toArray, List.getElem_cons_succ, List.getElem_cons_zero]
          refine wpAnyH_ready (rs := [6]) (by kernel_rfl) (by simp) ?_
          refine AllReadyH.cons rfl (fun KK hK' => ?_) AllReadyH.nil
          obtain ⟨kO, fO⟩ := M6u.get hil
          go_simp
          replace A6u := A6u.setOther (show q6 ≠ go by omega) (.int .i64 x) (i := i)
          replace M6u := M6u.put hil (Nat.le_refl _) x
          replace hdu := hdu.set (g := go) (i := i) hwgo hlt (.int .i64 x)
          have hkg : Kept go u1 (u1.setCell ⟨go, i, none⟩ (.int .i64 x)) := (Kept.refl _ _).set _
          obtain ⟨u2, hv⟩ : ∃ V, u1.setCell ⟨go, i, none⟩ (.int .i64 x) = V := ⟨_, rfl⟩
          rw [hv] at A6u M6u hdu hkg ⊢
          clear hv kO fO
          clear hHeld
          refine hK'.out _ _ (A6u) (fun hHeld => ?_)
          clear hK' KK
          try simp only [List.setIfInBounds_toArray, List.set_cons_zero, List.set_cons_succ]
          refine wpAnyH_done (by kernel_rfl) ?_ _
          clear hHeld
          clear x0 x1
          obtain ⟨wv, hwv⟩ : ∃ W, W = u2 := ⟨_, rfl⟩
          subst hwv
          have M9 := M6u
          have A69 := A6u
          clear M6u A6u
          have A49 := hid_of ((A48.out.kept hku n4).kept hkg (by omega))
          have HM9 := hid_of M9
          have HA69 := hid_of A69
          clear M9 A69 hku hkg
          go_wp2
          exact ⟨⟨i + 1, _, by omega, by go_num, HM9, HA69, A49, hdu⟩, by simp [intOf]; omega⟩
      case true =>
        have A6 := A67
        have M6 := M7
        go_wp2_with fail
        obtain ⟨u0, hu0, bb⟩ : ∃ uu, w7.drew = uu ∧ Below w7.heap.size w7 uu := ⟨_, rfl, (Below.refl _ _).drew⟩
        have A6u := A6.below bb
        have M6u := Made.mb M6 bb
        have hku : Kept p w7 u0 := Kept.of_below bb
        have hdu := hd.below bb
        clear hd
        clear bb
        refine wp_region_held_drew (S := fun w' => At 26 w' q6 #[.int .i64 N, .slice (some ⟨go, 0, none⟩) L L]) (by kernel_rfl) (by rw [hu0]; exact A6u) (fun hHeld => ?_)
        rw [hu0] at hHeld ⊢
        clear hu0
        change wpAnyH _ _ _ _ _ 7 #[false, false, false, false, false, false, false] _ _
        refine wpAnyH_take (i := 0) (v := .pointer (some ⟨q6, 1, none⟩)) rfl (by kernel_rfl) (by kernel_rfl) (by kernel_rfl) (fun _ _ _ h => h) (Or.inl ⟨by kernel_rfl, ?_⟩) hHeld ?_
        · intro w' hSw; go_simp
        try simp only [Act.put, List.setIfInBounds_toArray, List.set_cons_zero, List.set_cons_succ, List.getElem_toArray, List.getElem_cons_zero]
        refine wpAnyH_take (i := 1) (v := .slice ((some ⟨go, 0, none⟩)) L L) rfl (by kernel_rfl) (by kernel_rfl) (by kernel_rfl) (fun _ _ _ h => h) (Or.inl ⟨by kernel_rfl, ?_⟩) hHeld ?_
        · intro w' hSw; obtain ⟨z0, z1, -⟩ := At.open2 hSw; go_simp
        try simp only [Act.put, List.setIfInBounds_toArray, List.set_cons_zero, List.set_cons_succ, List.getElem_toArray, List.getElem_cons_succ, List.getElem_cons_zero]
        refine wpAnyH_take (i := 2) (v := .int .i64 ((i : Int))) rfl (by kernel_rfl) (by kernel_rfl) (by kernel_rfl) (fun _ _ _ h => h) (Or.inl ⟨by kernel_rfl, ?_⟩) hHeld ?_
        · intro w' hSw; go_simp
        try simp only [Act.put, List.setIfInBounds_toArray, List.set_cons_zero, List.set_cons_succ, List.getElem_toArray, List.getElem_cons_succ, List.getElem_cons_zero]
        refine wpAnyH_take (i := 3) (v := .pointer (some ⟨p, 0, none⟩)) rfl (by kernel_rfl) (by kernel_rfl) (by kernel_rfl) (fun _ _ _ h => h) (Or.inl ⟨by kernel_rfl, ?_⟩) hHeld ?_
        · intro w' hSw; go_simp
        try simp only [Act.put, List.setIfInBounds_toArray, List.set_cons_zero, List.set_cons_succ, List.getElem_toArray, List.getElem_cons_succ, List.getElem_cons_zero]
        refine wpAnyH_ready (rs := [4]) (by kernel_rfl) (by simp) ?_
        refine AllReadyH.cons rfl (fun KK hK' => ?_) AllReadyH.nil
        go_simp
        refine (below_dr (Dr.start hdu.2) 300 (by omega) (by omega)).mono ?_
        rintro e u1 ⟨x, rfl, x0, x1, hd3⟩
        replace A6u := A6u.kept hd3.1 n6
        replace M6u := Made.kept M6u hd3.1 hgop
        replace hku := hku.trans hd3.1
        replace hdu := hd3.from hdu.1
        clear hd3
        try go_wp2_with fail
        clear hHeld
        refine hK'.out _ _ (A6u) (fun hHeld => ?_)
        clear hK' KK
        try simp only [List.setIfInBounds_toArray, List.set_cons_zero, List.set_cons_succ]
        refine wpAnyH_take (i := 5) (v := .pointer (some ⟨go, i, none⟩)) rfl (by kernel_rfl) (by kernel_rfl) (by kernel_rfl) (fun _ _ _ h => h) (Or.inl ⟨by kernel_rfl, ?_⟩) hHeld ?_
        · intro w' hSw; go_simp
        try simp only [Act.put, List.setIfInBounds_toArray, List.set_cons_zero, List.set_cons_succ, List.getElem_toArray, List.getElem_cons_succ, List.getElem_cons_zero]
        refine wpAnyH_ready (rs := [6]) (by kernel_rfl) (by simp) ?_
        refine AllReadyH.cons rfl (fun KK hK' => ?_) AllReadyH.nil
        obtain ⟨kO, fO⟩ := M6u.get hil
        go_simp
        replace A6u := A6u.setOther (show q6 ≠ go by omega) (.int .i64 x) (i := i)
        replace M6u := M6u.put hil (Nat.le_refl _) x
        replace hdu := hdu.set (g := go) (i := i) hwgo hlt (.int .i64 x)
        have hkg : Kept go u1 (u1.setCell ⟨go, i, none⟩ (.int .i64 x)) := (Kept.refl _ _).set _
        obtain ⟨u2, hv⟩ : ∃ V, u1.setCell ⟨go, i, none⟩ (.int .i64 x) = V := ⟨_, rfl⟩
        rw [hv] at A6u M6u hdu hkg ⊢
        clear hv kO fO
        clear hHeld
        refine hK'.out _ _ (A6u) (fun hHeld => ?_)
        clear hK' KK
        try simp only [List.setIfInBounds_toArray, List.set_cons_zero, List.set_cons_succ]
        refine wpAnyH_done (by kernel_rfl) ?_ _
        clear hHeld
        clear x0 x1
        obtain ⟨wv, hwv⟩ : ∃ W, W = u2 := ⟨_, rfl⟩
        subst hwv
        have M9 := M6u
        have A69 := A6u
        clear M6u A6u
        have A47' := hid_of ((A47.out.kept hku n4).kept hkg (by omega))
        clear hku hkg A47
        have hdT := hdu
        go_wp2_with fail
        refine (once_dr (Dr.start hdT.2) 20 (by omega) (by omega)).mono ?_
        rintro e w8 ⟨r, rfl, hd8⟩
        have M8 := Made.kept M9 hd8.1 hgop
        have A68 := A69.kept hd8.1 n6
        have A48 := hid_of (A47'.out.kept hd8.1 n4)
        have hd := hd8.from hdT.1
        clear hdT hd8
        cases r
        · have HM8 := hid_of M8
          have HA68 := hid_of A68
          clear M8 A68
          go_wp2
          exact ⟨⟨i + 1, _, by omega, by go_num, HM8, HA68, A48, hd⟩, by simp [intOf]; omega⟩
        · go_wp2_with fail
          obtain ⟨u0, hu0, bb⟩ : ∃ uu, w8.drew = uu ∧ Below w8.heap.size w8 uu := ⟨_, rfl, (Below.refl _ _).drew⟩
          have A6u := A68.below bb
          have M6u := Made.mb M8 bb
          have hku : Kept p w8 u0 := Kept.of_below bb
          have hdu := hd.below bb
          clear hd
          clear bb
          refine wp_region_held_drew (S := fun w' => At 26 w' q6 #[.int .i64 N, .slice (some ⟨go, 0, none⟩) L L]) (by kernel_rfl) (by rw [hu0]; exact A6u) (fun hHeld => ?_)
          rw [hu0] at hHeld ⊢
          clear hu0
          change wpAnyH _ _ _ _ _ 7 #[false, false, false, false, false, false, false] _ _
          refine wpAnyH_take (i := 0) (v := .pointer (some ⟨q6, 1, none⟩)) rfl (by kernel_rfl) (by kernel_rfl) (by kernel_rfl) (fun _ _ _ h => h) (Or.inl ⟨by kernel_rfl, ?_⟩) hHeld ?_
          · intro w' hSw; go_simp
          try simp only [Act.put, List.setIfInBounds_toArray, List.set_cons_zero, List.set_cons_succ, List.getElem_toArray, List.getElem_cons_zero]
          refine wpAnyH_take (i := 1) (v := .slice ((some ⟨go, 0, none⟩)) L L) rfl (by kernel_rfl) (by kernel_rfl) (by kernel_rfl) (fun _ _ _ h => h) (Or.inl ⟨by kernel_rfl, ?_⟩) hHeld ?_
          · intro w' hSw; obtain ⟨z0, z1, -⟩ := At.open2 hSw; go_simp
          try simp only [Act.put, List.setIfInBounds_toArray, List.set_cons_zero, List.set_cons_succ, List.getElem_toArray, List.getElem_cons_succ, List.getElem_cons_zero]
          refine wpAnyH_take (i := 2) (v := .int .i64 ((i : Int))) rfl (by kernel_rfl) (by kernel_rfl) (by kernel_rfl) (fun _ _ _ h => h) (Or.inl ⟨by kernel_rfl, ?_⟩) hHeld ?_
          · intro w' hSw; go_simp
          try simp only [Act.put, List.setIfInBounds_toArray, List.set_cons_zero, List.set_cons_succ, List.getElem_toArray, List.getElem_cons_succ, List.getElem_cons_zero]
          refine wpAnyH_take (i := 3) (v := .pointer (some ⟨p, 0, none⟩)) rfl (by kernel_rfl) (by kernel_rfl) (by kernel_rfl) (fun _ _ _ h => h) (Or.inl ⟨by kernel_rfl, ?_⟩) hHeld ?_
          · intro w' hSw; go_simp
          try simp only [Act.put, List.setIfInBounds_toArray, List.set_cons_zero, List.set_cons_succ, List.getElem_toArray, List.getElem_cons_succ, List.getElem_cons_zero]
          refine wpAnyH_ready (rs := [4]) (by kernel_rfl) (by simp) ?_
          refine AllReadyH.cons rfl (fun KK hK' => ?_) AllReadyH.nil
          go_simp
          refine (below_dr (Dr.start hdu.2) 12289 (by omega) (by omega)).mono ?_
          rintro e u1 ⟨x, rfl, x0, x1, hd3⟩
          replace A6u := A6u.kept hd3.1 n6
          replace M6u := Made.kept M6u hd3.1 hgop
          replace hku := hku.trans hd3.1
          replace hdu := hd3.from hdu.1
          clear hd3
          try go_wp2_with fail
          clear hHeld
          refine hK'.out _ _ (A6u) (fun hHeld => ?_)
          clear hK' KK
          try simp only [List.setIfInBounds_toArray, List.set_cons_zero, List.set_cons_succ]
          refine wpAnyH_take (i := 5) (v := .pointer (some ⟨go, i, none⟩)) rfl (by kernel_rfl) (by kernel_rfl) (by kernel_rfl) (fun _ _ _ h => h) (Or.inl ⟨by kernel_rfl, ?_⟩) hHeld ?_
          · intro w' hSw; go_simp
          try simp only [Act.put, List.setIfInBounds_toArray, List.set_cons_zero, List.set_cons_succ, List.getElem_toArray, List.getElem_cons_succ, List.getElem_cons_zero]
          refine wpAnyH_ready (rs := [6]) (by kernel_rfl) (by simp) ?_
          refine AllReadyH.cons rfl (fun KK hK' => ?_) AllReadyH.nil
          obtain ⟨kO, fO⟩ := M6u.get hil
          go_simp
          replace A6u := A6u.setOther (show q6 ≠ go by omega) (.int .i64 x) (i := i)
          replace M6u := M6u.put hil (Nat.le_refl _) x
          replace hdu := hdu.set (g := go) (i := i) hwgo hlt (.int .i64 x)
          have hkg : Kept go u1 (u1.setCell ⟨go, i, none⟩ (.int .i64 x)) := (Kept.refl _ _).set _
          obtain ⟨u2, hv⟩ : ∃ V, u1.setCell ⟨go, i, none⟩ (.int .i64 x) = V := ⟨_, rfl⟩
          rw [hv] at A6u M6u hdu hkg ⊢
          clear hv kO fO
          clear hHeld
          refine hK'.out _ _ (A6u) (fun hHeld => ?_)
          clear hK' KK
          try simp only [List.setIfInBounds_toArray, List.set_cons_zero, List.set_cons_succ]
          refine wpAnyH_done (by kernel_rfl) ?_ _
          clear hHeld
          clear x0 x1
          obtain ⟨wv, hwv⟩ : ∃ W, W = u2 := ⟨_, rfl⟩
          subst hwv
          have M9 := M6u
          have A69 := A6u
          clear M6u A6u
          have A49 := hid_of ((A48.out.kept hku n4).kept hkg (by omega))
          have HM9 := hid_of M9
          have HA69 := hid_of A69
          clear M9 A69 hku hkg
          go_wp2
          exact ⟨⟨i + 1, _, by omega, by go_num, HM9, HA69, A49, hdu⟩, by simp [intOf]; omega⟩
    · obtain rfl : i = L := by omega
      have hil' : ¬ (i : Int) < (i : Int) := by omega
      obtain ⟨o0, o1, -⟩ := A6.out.open2
      obtain ⟨d0, d1, f0, f1⟩ := A4.out.open2
      go_wp2
      have a9 : At 26 ((wr.setCell ⟨q4, 0, none⟩ (.int .i64 N)).setCell ⟨q4, 1, none⟩ (.slice (some ⟨go, 0, none⟩) i i)) q4 #[.int .i64 N, .slice (some ⟨go, 0, none⟩) i i] := by simpa using (A4.out.set 0 (.int .i64 N)).set 1 (.slice (some ⟨go, 0, none⟩) i i)
      obtain ⟨p0, p1, -⟩ := a9.open2
      have hk4 : Kept q4 wr ((wr.setCell ⟨q4, 0, none⟩ (.int .i64 N)).setCell ⟨q4, 1, none⟩ (.slice (some ⟨go, 0, none⟩) i i)) := ((Kept.refl _ _).set _).set _
      have hMf := M.out.kept hk4 (by omega)
      have hdf := (hd.set (g := q4) (i := 0) (by omega) hlt (.int .i64 N)).set (g := q4) (i := 1) (by omega) hlt (.slice (some ⟨go, 0, none⟩) i i)
      exact bodyPost_ret (v := .agg #[.int .i64 N, .slice (some ⟨go, 0, none⟩) i i]) (by simp [results, Tryz.results48, go_sem, p0, p1]) rfl ⟨N, go, F, by rw [HL.out], HN.out, hwgo, by rw [HL.out]; exact hMf, hdf⟩
end Go.Proofs.YtiocneailhplkaaGreat
/-
  Maps drawn, spoiled now and then: walked.
-/
namespace Go.Proofs.YtiocneailhplkaaGreat
open Go.RowKit

theorem arr_ne_map {w : World} {lo hi q n : Nat} {v : Value} {f : Nat → Int} {vs : Array Value} (h : Arr w lo hi v n f) (a : At 26 w q vs) : ∀ k, v.ownBlock = some k → k ≠ q := by
  rcases h with ⟨rfl, -⟩ | ⟨g, c, rfl, -, -, -, cur, b, -⟩
  · intro k e; cases e
  · intro k e ek
    cases e
    subst ek
    have := (show w.heap[g]? = _ from a).symm.trans b
    simp at this
theorem arr_keep {w w' : World} {lo q n : Nat} {v : Value} {f : Nat → Int} (h : Arr w lo w.heap.size v n f) (hk : Kept q w w') (hq : ∀ k, v.ownBlock = some k → k ≠ q) : Arr w' lo w'.heap.size v n f := by
  rcases h with h | ⟨g, c, rfl, h1, h2, h3, h4⟩
  · exact .inl h
  · exact .inr ⟨g, c, rfl, h1, Nat.lt_of_lt_of_le h2 hk.size, h3, h4.kept hk (hq g rfl)⟩
theorem arr_ark {w : World} {lo n c : Nat} {s : Option Addr} {f : Nat → Int} (h : ArK 1 2 w lo w.heap.size (.slice s n c) n f) : Arr w lo w.heap.size (.slice s n c) n f := by
  rcases h with ⟨h1, h2⟩ | ⟨g, d, e, h1, h2, h3, h4, cur, a, hs, hc⟩
  · exact .inl ⟨h1, h2⟩
  · cases e
    exact .inr ⟨g, c, rfl, h1, h2, ⟨h3, h4⟩, cur, a, by omega, fun i hi => hc i (by omega)⟩
theorem tab5 {w : World} {q : Nat} (h : At 2 w q #[.int .i64 0, .int .i64 5, .int .i64 12, .int .i64 (-1), .int .i64 1099511627776]) (z : Nat) (hz : z < 5) : ∃ y : Int, (-9223372036854775808 ≤ y ∧ y ≤ 9223372036854775807) ∧ w.cell? ⟨q, z, none⟩ = some (.int .i64 y) := by
  rcases (by omega : z = 0 ∨ z = 1 ∨ z = 2 ∨ z = 3 ∨ z = 4) with rfl | rfl | rfl | rfl | rfl
  · exact ⟨0, by omega, h.cell 0 rfl⟩
  · exact ⟨5, by omega, h.cell 1 rfl⟩
  · exact ⟨12, by omega, h.cell 2 rfl⟩
  · exact ⟨-1, by omega, h.cell 3 rfl⟩
  · exact ⟨1099511627776, by omega, h.cell 4 rfl⟩
theorem tab3 {w : World} {q : Nat} (h : At 2 w q #[.int .i64 (-1), .int .i64 12288, .int .i64 12289]) (z : Nat) (hz : z < 3) : ∃ y : Int, w.cell? ⟨q, z, none⟩ = some (.int .i64 y) := by
  rcases (by omega : z = 0 ∨ z = 1 ∨ z = 2) with rfl | rfl | rfl
  · exact ⟨-1, h.cell 0 rfl⟩
  · exact ⟨12288, h.cell 1 rfl⟩
  · exact ⟨12289, h.cell 2 rfl⟩
set_option maxRecDepth 100000 in
set_option maxHeartbeats 6000000 in
theorem drawMAny_dr {w : World} {p : Nat} {a : Option Addr} {len cap : Nat} (most : Int) (hm : 1 ≤ most ∧ most ≤ 8) (hc : Cur w p a len cap) :
    Calls Tryz.prog 22 #[.pointer (some ⟨p, 0, none⟩), .int .i64 most] w (DrwM w p a len cap) := by
  have hlt := hc.lt
  have hbs5 : ∀ w, (Instr.buildSlice 24 5 #[(0, .int .i64 0), (1, .int .i64 5), (2, .int .i64 12), (3, .int .i64 (-1)), (4, .int .i64 1099511627776)]).run Tryz.prog w = .ok (.slice (some ⟨w.heap.size, 0, none⟩) 5 5) (w.alloc (.cells #[.int .i64 0, .int .i64 5, .int .i64 12, .int .i64 (-1), .int .i64 1099511627776] 2)) := fun _ => by kernel_rfl
  have hbs3 : ∀ w, (Instr.buildSlice 24 3 #[(0, .int .i64 (-1)), (1, .int .i64 12288), (2, .int .i64 12289)]).run Tryz.prog w = .ok (.slice (some ⟨w.heap.size, 0, none⟩) 3 3) (w.alloc (.cells #[.int .i64 (-1), .int .i64 12288, .int .i64 12289] 2)) := fun _ => by kernel_rfl
  have hbs1 : ∀ w, (Instr.buildSlice 24 1 #[(0, .int .i64 0)]).run Tryz.prog w = .ok (.slice (some ⟨w.heap.size, 0, none⟩) 1 1) (w.alloc (.cells #[.int .i64 0] 2)) := fun _ => by kernel_rfl
  obtain ⟨q4, hq4⟩ : ∃ q, w.heap.size = q := ⟨_, rfl⟩
  obtain ⟨W1, hW1, a4, b1, -⟩ := boxed w 26 #[.int .i64 0, .slice none 0 0]
  rw [hq4] at a4
  have hd : Dr w p a len cap W1 := (Dr.start hc).below b1
  have n4 : q4 ≠ p := by omega
  clear b1 hc
  go_enter Tryz.func22, Tryz.ntmps22
  go_wp2_with fail
  refine (drawM_dr most hm hd.2).mono ?_
  rintro e w2 ⟨N, go, F, rfl, hN, hgo, hM, hd2⟩
  clear hW1
  have hws : w.heap.size ≤ W1.heap.size := hd.1.size
  have s4 := a4.lt
  have hgop : go ≠ p := by omega
  have hq4o : q4 < go := by omega
  replace a4 := a4.kept hd2.1 n4
  replace hd := hd2.from hd.1
  obtain ⟨hL1, hL0, hL2⟩ := cube_is hN
  obtain ⟨L, hL⟩ : ∃ L, cube N = L := ⟨_, rfl⟩
  rw [hL] at hM hL0 hL2 ⊢
  have hN1 := (side_by hN).1
  obtain ⟨q5, hq5⟩ : ∃ q, w2.heap.size = q := ⟨_, rfl⟩
  obtain ⟨W3, hW3, a5, b3, -⟩ := boxed w2 26 #[.int .i64 N, .slice (some ⟨go, 0, none⟩) L L]
  rw [hq5] at a5
  have hgo5 : go < q5 := by have := hM.lt; omega
  have n5 : q5 ≠ p := by omega
  replace a4 := a4.below b3
  replace hd := hd.below b3
  have hM3 := Made.mb hM b3
  have hwgo : w.heap.size ≤ go := by omega
  have hNb : -9223372036854775808 ≤ N ∧ N ≤ 9223372036854775807 := by omega
  clear b3 hd2 hM hL1 hL hgo hN hN1 hws s4
  obtain ⟨o0, o1, -⟩ := a5.open2
  go_wp2_with fail
  clear hW3 hq5
  refine (once_dr (Dr.start hd.2) 14 (by omega) (by omega)).mono ?_
  rintro e w4 ⟨r, rfl, hd4⟩
  have A4 := a4.kept hd4.1 n4
  have A5 := a5.kept hd4.1 n5
  have M4 := Made.kept hM3 hd4.1 hgop
  replace hd := hd4.from hd.1
  clear a4 a5 hM3 hd4 o0 o1
  cases r
  case false =>
    have AR : Arr w4 w.heap.size w4.heap.size (.slice (some ⟨go, 0, none⟩) L L) L F := .inr ⟨go, L, rfl, hwgo, M4.lt, ⟨Nat.le_refl _, by unfold maxLen; omega⟩, M4⟩
    have hLL : L ≤ 2000 := by omega
    have HAR := hid_of AR
    have HA4 := hid_of A4
    have HHD := hid_of hd
    have HNB := hid_of hNb
    have HA5 := hid_of A5
    clear AR hd hNb A5
    obtain ⟨o0, o1, -⟩ := HA5.out.open2
    obtain ⟨d0, d1, f0', f1'⟩ := A4.open2
    clear A4
    go_wp2
    have a9 : At 26 ((w4.setCell ⟨q4, 0, none⟩ (.int .i64 N)).setCell ⟨q4, 1, none⟩ (.slice (some ⟨go, 0, none⟩) L L)) q4 #[.int .i64 N, .slice (some ⟨go, 0, none⟩) L L] := by simpa using (HA4.out.set 0 (.int .i64 N)).set 1 (.slice (some ⟨go, 0, none⟩) L L)
    obtain ⟨p0, p1, -⟩ := a9.open2
    have hk4 : Kept q4 w4 ((w4.setCell ⟨q4, 0, none⟩ (.int .i64 N)).setCell ⟨q4, 1, none⟩ (.slice (some ⟨go, 0, none⟩) L L)) := ((Kept.refl _ _).set _).set _
    have hAf := arr_keep HAR.out hk4 (arr_ne_map HAR.out HA4.out)
    have hdf : Dr w p a len cap ((w4.setCell ⟨q4, 0, none⟩ (.int .i64 N)).setCell ⟨q4, 1, none⟩ (.slice (some ⟨go, 0, none⟩) L L)) := (HHD.out.set (g := q4) (i := 0) (by omega) hlt _).set (g := q4) (i := 1) (by omega) hlt _
    exact bodyPost_ret (v := .agg #[.int .i64 N, .slice (some ⟨go, 0, none⟩) L L]) (by simp [results, Tryz.results22, go_sem, p0, p1]) rfl ⟨_, _, _, _, _, rfl, HNB.out, hLL, hAf, hdf⟩
  case true =>
    go_wp2_with fail
    refine (below_dr (Dr.start hd.2) 4 (by omega) (by omega)).mono ?_
    rintro e w6 ⟨x, rfl, x0, x1, hd6⟩
    replace A4 := A4.kept hd6.1 n4
    replace A5 := A5.kept hd6.1 n5
    replace M4 := Made.kept M4 hd6.1 hgop
    replace hd := hd6.from hd.1
    clear hd6
    have hx : x = 0 ∨ x = 1 ∨ x = 2 ∨ x = 3 := by omega
    clear x0 x1
    rcases hx with rfl | rfl | rfl | rfl
    case inl =>
      obtain ⟨q8, hq8⟩ : ∃ q, w6.heap.size = q := ⟨_, rfl⟩
      obtain ⟨W7, hW7, a8, b7, -⟩ := boxed w6 2 #[.int .i64 0, .int .i64 5, .int .i64 12, .int .i64 (-1), .int .i64 1099511627776]
      have hbs7 := hbs5 w6
      rw [hW7, hq8] at hbs7
      rw [hq8] at a8
      have n8 : q8 ≠ p := by have := hd.1.size; omega
      replace A4 := A4.below b7
      replace A5 := A5.below b7
      replace M4 := Made.mb M4 b7
      replace hd := hd.below b7
      clear b7
      go_wp2_with fail
      refine (below_dr (Dr.start hd.2) 5 (by omega) (by omega)).mono ?_
      rintro e w8 ⟨z, rfl, z0, z1, hd8⟩
      clear hW7 hbs7 hq8
      replace A4 := A4.kept hd8.1 n4
      replace A5 := A5.kept hd8.1 n5
      replace M4 := Made.kept M4 hd8.1 hgop
      replace a8 := a8.kept hd8.1 n8
      replace hd := hd8.from hd.1
      clear hd8
      obtain ⟨zn, rfl⟩ := Int.eq_ofNat_of_zero_le z0
      have hz : zn < 5 := by omega
      have hz5 : (zn : Int) < 5 := by omega
      obtain ⟨y, hy, k0⟩ := tab5 a8 zn hz
      clear z0 z1 a8 hNb
      obtain ⟨o0, o1, f0, f1⟩ := A5.open2
      have A5' : At 26 (w8.setCell ⟨q5, 0, none⟩ (.int .i64 y)) q5 #[.int .i64 y, .slice (some ⟨go, 0, none⟩) L L] := by simpa using A5.set 0 (.int .i64 y)
      have A4' : At 26 (w8.setCell ⟨q5, 0, none⟩ (.int .i64 y)) q4 #[.int .i64 0, .slice none 0 0] := A4.setOther (by omega) _
      have M4' : Made (w8.setCell ⟨q5, 0, none⟩ (.int .i64 y)) go L L F := Made.setOther M4 (by omega) _
      have hd' : Dr w p a len cap (w8.setCell ⟨q5, 0, none⟩ (.int .i64 y)) := hd.set (g := q5) (i := 0) (by omega) hlt (.int .i64 y)
      obtain ⟨w9, hw9⟩ : ∃ W, w8.setCell ⟨q5, 0, none⟩ (.int .i64 y) = W := ⟨_, rfl⟩
      rw [hw9] at A5' A4' M4' hd'
      clear A4 A5 M4 hd
      have A4 := A4'
      have A5 := A5'
      have hd := hd'
      have hNb := hy
      have AR : Arr w9 w.heap.size w9.heap.size (.slice (some ⟨go, 0, none⟩) L L) L F := .inr ⟨go, L, rfl, hwgo, M4'.lt, ⟨Nat.le_refl _, by unfold maxLen; omega⟩, M4'⟩
      have hLL : L ≤ 2000 := by omega
      clear A4' A5' M4' hd' hy
      have HAR := hid_of AR
      have HA4 := hid_of A4
      have HHD := hid_of hd
      have HNB := hid_of hNb
      have HA5 := hid_of A5
      clear AR hd hNb A5
      obtain ⟨o0, o1, -⟩ := HA5.out.open2
      obtain ⟨d0, d1, f0', f1'⟩ := A4.open2
      clear A4
      go_wp2
      have a9 : At 26 ((w9.setCell ⟨q4, 0, none⟩ (.int .i64 y)).setCell ⟨q4, 1, none⟩ (.slice (some ⟨go, 0, none⟩) L L)) q4 #[.int .i64 y, .slice (some ⟨go, 0, none⟩) L L] := by simpa using (HA4.out.set 0 (.int .i64 y)).set 1 (.slice (some ⟨go, 0, none⟩) L L)
      obtain ⟨p0, p1, -⟩ := a9.open2
      have hk4 : Kept q4 w9 ((w9.setCell ⟨q4, 0, none⟩ (.int .i64 y)).setCell ⟨q4, 1, none⟩ (.slice (some ⟨go, 0, none⟩) L L)) := ((Kept.refl _ _).set _).set _
      have hAf := arr_keep HAR.out hk4 (arr_ne_map HAR.out HA4.out)
      have hdf : Dr w p a len cap ((w9.setCell ⟨q4, 0, none⟩ (.int .i64 y)).setCell ⟨q4, 1, none⟩ (.slice (some ⟨go, 0, none⟩) L L)) := (HHD.out.set (g := q4) (i := 0) (by omega) hlt _).set (g := q4) (i := 1) (by omega) hlt _
      exact bodyPost_ret (v := .agg #[.int .i64 y, .slice (some ⟨go, 0, none⟩) L L]) (by simp [results, Tryz.results22, go_sem, p0, p1]) rfl ⟨_, _, _, _, _, rfl, HNB.out, hLL, hAf, hdf⟩
    case inr.inl =>
      have hLi : (L : Int) ≤ 1728 := by omega
      have hL0' : (0 : Int) < (L : Int) := by omega
      go_wp2_with fail
      obtain ⟨u0, hu0, bb⟩ : ∃ uu, w6.drew = uu ∧ Below w6.heap.size w6 uu := ⟨_, rfl, (Below.refl _ _).drew⟩
      have A5u := A5.below bb
      have A4u := A4.below bb
      have M4u := Made.mb M4 bb
      have hdu := hd.below bb
      clear hd A4 A5 M4
      clear bb
      refine wp_region_held_drew (S := fun w' => At 26 w' q5 #[.int .i64 N, .slice (some ⟨go, 0, none⟩) L L]) (by kernel_rfl) (by rw [hu0]; exact A5u) (fun hHeld => ?_)
      rw [hu0] at hHeld ⊢
      clear hu0
      change wpAnyH _ _ _ _ _ 14 #[false, false, false, false, false, false, false, false, false, false, false, false, false, false] _ _
      refine wpAnyH_take (i := 0) (v := .pointer (some ⟨q5, 1, none⟩)) rfl (by kernel_rfl) (by kernel_rfl) (by kernel_rfl) (fun _ _ _ h => h) (Or.inl ⟨by kernel_rfl, ?_⟩) hHeld ?_
      · intro w' hSw; go_simp
      try simp only [Act.put, List.setIfInBounds_toArray, List.set_cons_zero, List.set_cons_succ, List.getElem_toArray, List.getElem_cons_zero]
      refine wpAnyH_take (i := 1) (v := .slice ((some ⟨go, 0, none⟩)) L L) rfl (by kernel_rfl) (by kernel_rfl) (by kernel_rfl) (fun _ _ _ h => h) (Or.inl ⟨by kernel_rfl, ?_⟩) hHeld ?_
      · intro w' hSw; obtain ⟨z0, z1, -⟩ := At.open2 hSw; go_simp
      try simp only [Act.put, List.setIfInBounds_toArray, List.set_cons_zero, List.set_cons_succ, List.getElem_toArray, List.getElem_cons_succ, List.getElem_cons_zero]
      refine wpAnyH_take (i := 2) (v := .pointer (some ⟨p, 0, none⟩)) rfl (by kernel_rfl) (by kernel_rfl) (by kernel_rfl) (fun _ _ _ h => h) (Or.inl ⟨by kernel_rfl, ?_⟩) hHeld ?_
      · intro w' hSw; go_simp
      try simp only [Act.put, List.setIfInBounds_toArray, List.set_cons_zero, List.set_cons_succ, List.getElem_toArray, List.getElem_cons_succ, List.getElem_cons_zero]
      refine wpAnyH_take (i := 3) (v := .pointer (some ⟨q5, 1, none⟩)) rfl (by kernel_rfl) (by kernel_rfl) (by kernel_rfl) (fun _ _ _ h => h) (Or.inl ⟨by kernel_rfl, ?_⟩) hHeld ?_
      · intro w' hSw; go_simp
      try simp only [Act.put, List.setIfInBounds_toArray, List.set_cons_zero, List.set_cons_succ, List.getElem_toArray, List.getElem_cons_succ, List.getElem_cons_zero]
      refine wpAnyH_take (i := 4) (v := .slice ((some ⟨go, 0, none⟩)) L L) rfl (by kernel_rfl) (by kernel_rfl) (by kernel_rfl) (fun _ _ _ h => h) (Or.inl ⟨by kernel_rfl, ?_⟩) hHeld ?_
      · intro w' hSw; obtain ⟨z0, z1, -⟩ := At.open2 hSw; go_simp
      try simp only [Act.put, List.setIfInBounds_toArray, List.set_cons_zero, List.set_cons_succ, List.getElem_toArray, List.getElem_cons_succ, List.getElem_cons_zero]
      refine wpAnyH_take (i := 5) (v := .int .i64 ((L : Int))) rfl (by kernel_rfl) (by kernel_rfl) (by kernel_rfl) (fun _ _ _ h => h) (Or.inl ⟨by kernel_rfl, ?_⟩) hHeld ?_
      · intro w' hSw; go_simp
      try simp only [Act.put, List.setIfInBounds_toArray, List.set_cons_zero, List.set_cons_succ, List.getElem_toArray, List.getElem_cons_succ, List.getElem_cons_zero]
      refine wpAnyH_take (i := 8) (v := .pointer (some ⟨p, 0, none⟩)) rfl (by kernel_rfl) (by kernel_rfl) (by kernel_rfl) (fun _ _ _ h => h) (Or.inl ⟨by kernel_rfl, ?_⟩) hHeld ?_
      · intro w' hSw; go_simp
      try simp only [Act.put, List.setIfInBounds_toArray, List.set_cons_zero, List.set_cons_succ, List.getElem_toArray, List.getElem_cons_succ, List.getElem_cons_zero]
      refine wpAnyH_ready (rs := [6, 7]) (by kernel_rfl) (by simp) ?_
      refine AllReadyH.cons rfl (fun KK hK' => ?_) (AllReadyH.cons rfl (fun KK hK' => ?_) AllReadyH.nil)
      · go_simp
        refine (below_dr (Dr.start hdu.2) (L : Int) (by omega) (by omega)).mono ?_
        rintro e u1 ⟨x, rfl, x0, x1, hd3⟩
        obtain ⟨xn, rfl⟩ := Int.eq_ofNat_of_zero_le x0
        have hxl : xn < L := by omega
        replace A5u := A5u.kept hd3.1 n5
        replace A4u := A4u.kept hd3.1 n4
        replace M4u := Made.kept M4u hd3.1 hgop
        replace hdu := hd3.from hdu.1
        clear hd3
        try go_wp2_with fail
        clear hHeld
        refine hK'.out _ _ (A5u) (fun hHeld => ?_)
        clear hK' KK
        try simp only [List.setIfInBounds_toArray, List.set_cons_zero, List.set_cons_succ]
        refine wpAnyH_ready (rs := [7, 9]) (by kernel_rfl) (by simp) ?_
        refine AllReadyH.cons rfl (fun KK hK' => ?_) (AllReadyH.cons rfl (fun KK hK' => ?_) AllReadyH.nil)
        · have hb3 := hbs3 u1
          go_simp
          obtain ⟨g3, hg3⟩ : ∃ q, u1.heap.size = q := ⟨_, rfl⟩
          obtain ⟨u2, h6, a3, bb, -⟩ := boxed u1 2 #[.int .i64 (-1), .int .i64 12288, .int .i64 12289]
          rw [hg3] at a3 ⊢
          have n3 : g3 ≠ p := by have := hdu.1.size; omega
          rw [h6]
          replace A5u := A5u.below bb
          replace A4u := A4u.below bb
          replace M4u := Made.mb M4u bb
          replace hdu := hdu.below bb
          clear bb h6 hg3
          clear hHeld
          refine hK'.out _ _ (A5u) (fun hHeld => ?_)
          clear hK' KK
          try simp only [List.setIfInBounds_toArray, List.set_cons_zero, List.set_cons_succ]
          refine wpAnyH_ready (rs := [9]) (by kernel_rfl) (by simp) ?_
          refine AllReadyH.cons rfl (fun KK hK' => ?_) AllReadyH.nil
          go_simp
          refine (below_dr (Dr.start hdu.2) 3 (by omega) (by omega)).mono ?_
          rintro e u3 ⟨y, rfl, y0, y1, hd3⟩
          obtain ⟨yn, rfl⟩ := Int.eq_ofNat_of_zero_le y0
          have hyl : (yn : Int) < 3 := by omega
          have hyn : yn < 3 := by omega
          replace A5u := A5u.kept hd3.1 n5
          replace A4u := A4u.kept hd3.1 n4
          replace M4u := Made.kept M4u hd3.1 hgop
          replace a3 := a3.kept hd3.1 n3
          replace hdu := hd3.from hdu.1
          clear hd3
          try go_wp2_with fail
          clear hHeld
          refine hK'.out _ _ (A5u) (fun hHeld => ?_)
          clear hK' KK
          try simp only [List.setIfInBounds_toArray, List.set_cons_zero, List.set_cons_succ]
          refine wpAnyH_take (i := 10) (v := .pointer (some ⟨g3, yn, none⟩)) rfl (by kernel_rfl) (by kernel_rfl) (by kernel_rfl) (fun _ _ _ h => h) (Or.inl ⟨by kernel_rfl, ?_⟩) hHeld ?_
          · intro w' hSw; go_simp
          try simp only [Act.put, List.setIfInBounds_toArray, List.set_cons_zero, List.set_cons_succ, List.getElem_toArray, List.getElem_cons_succ, List.getElem_cons_zero]
          refine wpAnyH_ready (rs := [11]) (by kernel_rfl) (by simp) ?_
          refine AllReadyH.cons rfl (fun KK hK' => ?_) AllReadyH.nil
          obtain ⟨yv, kY⟩ := tab3 a3 yn hyn
          go_simp
          clear kY
          clear hHeld
          refine hK'.out _ _ (A5u) (fun hHeld => ?_)
          clear hK' KK
          try simp only [List.setIfInBounds_toArray, List.set_cons_zero, List.set_cons_succ]
          refine wpAnyH_take (i := 12) (v := .pointer (some ⟨go, xn, none⟩)) rfl (by kernel_rfl) (by kernel_rfl) (by kernel_rfl) (fun _ _ _ h => h) (Or.inl ⟨by kernel_rfl, ?_⟩) hHeld ?_
          · intro w' hSw; go_simp
          try simp only [Act.put, List.setIfInBounds_toArray, List.set_cons_zero, List.set_cons_succ, List.getElem_toArray, List.getElem_cons_succ, List.getElem_cons_zero]
          refine wpAnyH_ready (rs := [13]) (by kernel_rfl) (by simp) ?_
          refine AllReadyH.cons rfl (fun KK hK' => ?_) AllReadyH.nil
          obtain ⟨kO, fO⟩ := M4u.get hxl
          go_simp
          replace A5u := A5u.setOther (show q5 ≠ go by omega) (.int .i64 yv) (i := xn)
          replace A4u := A4u.setOther (show q4 ≠ go by omega) (.int .i64 yv) (i := xn)
          replace M4u := M4u.put hxl (Nat.le_refl _) yv
          replace hdu := hdu.set (g := go) (i := xn) hwgo hlt (.int .i64 yv)
          obtain ⟨u5, hv⟩ : ∃ V, u3.setCell ⟨go, xn, none⟩ (.int .i64 yv) = V := ⟨_, rfl⟩
          rw [hv] at A5u A4u M4u hdu ⊢
          clear hv kO fO
          clear hHeld
          refine hK'.out _ _ (A5u) (fun hHeld => ?_)
          clear hK' KK
          try simp only [List.setIfInBounds_toArray, List.set_cons_zero, List.set_cons_succ]
          refine wpAnyH_done (by kernel_rfl) ?_ _
          clear hHeld
          obtain ⟨wv, hwv⟩ : ∃ W, W = u5 := ⟨_, rfl⟩
          subst hwv
          have A5 := A5u
          have A4 := A4u
          have M9 := M4u
          have hd := hdu
          clear A5u A4u M4u hdu a3
          have AR : Arr wv w.heap.size wv.heap.size (.slice (some ⟨go, 0, none⟩) L L) L _ := .inr ⟨go, L, rfl, hwgo, M9.lt, ⟨Nat.le_refl _, by unfold maxLen; omega⟩, M9⟩
          have hLL : L ≤ 2000 := by omega
          clear M9
          have HAR := hid_of AR
          have HA4 := hid_of A4
          have HHD := hid_of hd
          have HNB := hid_of hNb
          have HA5 := hid_of A5
          clear AR hd hNb A5
          obtain ⟨o0, o1, -⟩ := HA5.out.open2
          obtain ⟨d0, d1, f0', f1'⟩ := A4.open2
          clear A4
          go_wp2
          have a9 : At 26 ((wv.setCell ⟨q4, 0, none⟩ (.int .i64 N)).setCell ⟨q4, 1, none⟩ (.slice (some ⟨go, 0, none⟩) L L)) q4 #[.int .i64 N, .slice (some ⟨go, 0, none⟩) L L] := by simpa using (HA4.out.set 0 (.int .i64 N)).set 1 (.slice (some ⟨go, 0, none⟩) L L)
          obtain ⟨p0, p1, -⟩ := a9.open2
          have hk4 : Kept q4 wv ((wv.setCell ⟨q4, 0, none⟩ (.int .i64 N)).setCell ⟨q4, 1, none⟩ (.slice (some ⟨go, 0, none⟩) L L)) := ((Kept.refl _ _).set _).set _
          have hAf := arr_keep HAR.out hk4 (arr_ne_map HAR.out HA4.out)
          have hdf : Dr w p a len cap ((wv.setCell ⟨q4, 0, none⟩ (.int .i64 N)).setCell ⟨q4, 1, none⟩ (.slice (some ⟨go, 0, none⟩) L L)) := (HHD.out.set (g := q4) (i := 0) (by omega) hlt _).set (g := q4) (i := 1) (by omega) hlt _
          exact bodyPost_ret (v := .agg #[.int .i64 N, .slice (some ⟨go, 0, none⟩) L L]) (by simp [results, Tryz.results22, go_sem, p0, p1]) rfl ⟨_, _, _, _, _, rfl, HNB.out, hLL, hAf, hdf⟩
        · go_simp
          refine (below_dr (Dr.start hdu.2) 3 (by omega) (by omega)).mono ?_
          rintro e u2 ⟨y, rfl, y0, y1, hd3⟩
          obtain ⟨yn, rfl⟩ := Int.eq_ofNat_of_zero_le y0
          have hyl : (yn : Int) < 3 := by omega
          have hyn : yn < 3 := by omega
          replace A5u := A5u.kept hd3.1 n5
          replace A4u := A4u.kept hd3.1 n4
          replace M4u := Made.kept M4u hd3.1 hgop
          replace hdu := hd3.from hdu.1
          clear hd3
          try go_wp2_with fail
          clear hHeld
          refine hK'.out _ _ (A5u) (fun hHeld => ?_)
          clear hK' KK
          try simp only [List.setIfInBounds_toArray, List.set_cons_zero, List.set_cons_succ]
          refine wpAnyH_ready (rs := [7]) (by kernel_rfl) (by simp) ?_
          refine AllReadyH.cons rfl (fun KK hK' => ?_) AllReadyH.nil
          have hb3 := hbs3 u2
          go_simp
          obtain ⟨g3, hg3⟩ : ∃ q, u2.heap.size = q := ⟨_, rfl⟩
          obtain ⟨u3, h6, a3, bb, -⟩ := boxed u2 2 #[.int .i64 (-1), .int .i64 12288, .int .i64 12289]
          rw [hg3] at a3 ⊢
          have n3 : g3 ≠ p := by have := hdu.1.size; omega
          rw [h6]
          replace A5u := A5u.below bb
          replace A4u := A4u.below bb
          replace M4u := Made.mb M4u bb
          replace hdu := hdu.below bb
          clear bb h6 hg3
          clear hHeld
          refine hK'.out _ _ (A5u) (fun hHeld => ?_)
          clear hK' KK
          try simp only [List.setIfInBounds_toArray, List.set_cons_zero, List.set_cons_succ]
          refine wpAnyH_take (i := 10) (v := .pointer (some ⟨g3, yn, none⟩)) rfl (by kernel_rfl) (by kernel_rfl) (by kernel_rfl) (fun _ _ _ h => h) (Or.inl ⟨by kernel_rfl, ?_⟩) hHeld ?_
          · intro w' hSw; go_simp
          try simp only [Act.put, List.setIfInBounds_toArray, List.set_cons_zero, List.set_cons_succ, List.getElem_toArray, List.getElem_cons_succ, List.getElem_cons_zero]
          refine wpAnyH_ready (rs := [11]) (by kernel_rfl) (by simp) ?_
          refine AllReadyH.cons rfl (fun KK hK' => ?_) AllReadyH.nil
          obtain ⟨yv, kY⟩ := tab3 a3 yn hyn
          go_simp
          clear kY
          clear hHeld
          refine hK'.out _ _ (A5u) (fun hHeld => ?_)
          clear hK' KK
          try simp only [List.setIfInBounds_toArray, List.set_cons_zero, List.set_cons_succ]
          refine wpAnyH_take (i := 12) (v := .pointer (some ⟨go, xn, none⟩)) rfl (by kernel_rfl) (by kernel_rfl) (by kernel_rfl) (fun _ _ _ h => h) (Or.inl ⟨by kernel_rfl, ?_⟩) hHeld ?_
          · intro w' hSw; go_simp
          try simp only [Act.put, List.setIfInBounds_toArray, List.set_cons_zero, List.set_cons_succ, List.getElem_toArray, List.getElem_cons_succ, List.getElem_cons_zero]
          refine wpAnyH_ready (rs := [13]) (by kernel_rfl) (by simp) ?_
          refine AllReadyH.cons rfl (fun KK hK' => ?_) AllReadyH.nil
          obtain ⟨kO, fO⟩ := M4u.get hxl
          go_simp
          replace A5u := A5u.setOther (show q5 ≠ go by omega) (.int .i64 yv) (i := xn)
          replace A4u := A4u.setOther (show q4 ≠ go by omega) (.int .i64 yv) (i := xn)
          replace M4u := M4u.put hxl (Nat.le_refl _) yv
          replace hdu := hdu.set (g := go) (i := xn) hwgo hlt (.int .i64 yv)
          obtain ⟨u5, hv⟩ : ∃ V, u3.setCell ⟨go, xn, none⟩ (.int .i64 yv) = V := ⟨_, rfl⟩
          rw [hv] at A5u A4u M4u hdu ⊢
          clear hv kO fO
          clear hHeld
          refine hK'.out _ _ (A5u) (fun hHeld => ?_)
          clear hK' KK
          try simp only [List.setIfInBounds_toArray, List.set_cons_zero, List.set_cons_succ]
          refine wpAnyH_done (by kernel_rfl) ?_ _
          clear hHeld
          obtain ⟨wv, hwv⟩ : ∃ W, W = u5 := ⟨_, rfl⟩
          subst hwv
          have A5 := A5u
          have A4 := A4u
          have M9 := M4u
          have hd := hdu
          clear A5u A4u M4u hdu a3
          have AR : Arr wv w.heap.size wv.heap.size (.slice (some ⟨go, 0, none⟩) L L) L _ := .inr ⟨go, L, rfl, hwgo, M9.lt, ⟨Nat.le_refl _, by unfold maxLen; omega⟩, M9⟩
          have hLL : L ≤ 2000 := by omega
          clear M9
          have HAR := hid_of AR
          have HA4 := hid_of A4
          have HHD := hid_of hd
          have HNB := hid_of hNb
          have HA5 := hid_of A5
          clear AR hd hNb A5
          obtain ⟨o0, o1, -⟩ := HA5.out.open2
          obtain ⟨d0, d1, f0', f1'⟩ := A4.open2
          clear A4
          go_wp2
          have a9 : At 26 ((wv.setCell ⟨q4, 0, none⟩ (.int .i64 N)).setCell ⟨q4, 1, none⟩ (.slice (some ⟨go, 0, none⟩) L L)) q4 #[.int .i64 N, .slice (some ⟨go, 0, none⟩) L L] := by simpa using (HA4.out.set 0 (.int .i64 N)).set 1 (.slice (some ⟨go, 0, none⟩) L L)
          obtain ⟨p0, p1, -⟩ := a9.open2
          have hk4 : Kept q4 wv ((wv.setCell ⟨q4, 0, none⟩ (.int .i64 N)).setCell ⟨q4, 1, none⟩ (.slice (some ⟨go, 0, none⟩) L L)) := ((Kept.refl _ _).set _).set _
          have hAf := arr_keep HAR.out hk4 (arr_ne_map HAR.out HA4.out)
          have hdf : Dr w p a len cap ((wv.setCell ⟨q4, 0, none⟩ (.int .i64 N)).setCell ⟨q4, 1, none⟩ (.slice (some ⟨go, 0, none⟩) L L)) := (HHD.out.set (g := q4) (i := 0) (by omega) hlt _).set (g := q4) (i := 1) (by omega) hlt _
          exact bodyPost_ret (v := .agg #[.int .i64 N, .slice (some ⟨go, 0, none⟩) L L]) (by simp [results, Tryz.results22, go_sem, p0, p1]) rfl ⟨_, _, _, _, _, rfl, HNB.out, hLL, hAf, hdf⟩
      · have hb3 := hbs3 u0
        go_simp
        obtain ⟨g3, hg3⟩ : ∃ q, u0.heap.size = q := ⟨_, rfl⟩
        obtain ⟨u1, h6, a3, bb, -⟩ := boxed u0 2 #[.int .i64 (-1), .int .i64 12288, .int .i64 12289]
        rw [hg3] at a3 ⊢
        have n3 : g3 ≠ p := by have := hdu.1.size; omega
        rw [h6]
        replace A5u := A5u.below bb
        replace A4u := A4u.below bb
        replace M4u := Made.mb M4u bb
        replace hdu := hdu.below bb
        clear bb h6 hg3
        clear hHeld
        refine hK'.out _ _ (A5u) (fun hHeld => ?_)
        clear hK' KK
        try simp only [List.setIfInBounds_toArray, List.set_cons_zero, List.set_cons_succ]
        refine wpAnyH_ready (rs := [6]) (by kernel_rfl) (by simp) ?_
        refine AllReadyH.cons rfl (fun KK hK' => ?_) AllReadyH.nil
        go_simp
        refine (below_dr (Dr.start hdu.2) (L : Int) (by omega) (by omega)).mono ?_
        rintro e u2 ⟨x, rfl, x0, x1, hd3⟩
        obtain ⟨xn, rfl⟩ := Int.eq_ofNat_of_zero_le x0
        have hxl : xn < L := by omega
        replace A5u := A5u.kept hd3.1 n5
        replace A4u := A4u.kept hd3.1 n4
        replace M4u := Made.kept M4u hd3.1 hgop
        replace a3 := a3.kept hd3.1 n3
        replace hdu := hd3.from hdu.1
        clear hd3
        try go_wp2_with fail
        clear hHeld
        refine hK'.out _ _ (A5u) (fun hHeld => ?_)
        clear hK' KK
        try simp only [List.setIfInBounds_toArray, List.set_cons_zero, List.set_cons_succ]
        refine wpAnyH_ready (rs := [9]) (by kernel_rfl) (by simp) ?_
        refine AllReadyH.cons rfl (fun KK hK' => ?_) AllReadyH.nil
        go_simp
        refine (below_dr (Dr.start hdu.2) 3 (by omega) (by omega)).mono ?_
        rintro e u3 ⟨y, rfl, y0, y1, hd3⟩
        obtain ⟨yn, rfl⟩ := Int.eq_ofNat_of_zero_le y0
        have hyl : (yn : Int) < 3 := by omega
        have hyn : yn < 3 := by omega
        replace A5u := A5u.kept hd3.1 n5
        replace A4u := A4u.kept hd3.1 n4
        replace M4u := Made.kept M4u hd3.1 hgop
        replace a3 := a3.kept hd3.1 n3
        replace hdu := hd3.from hdu.1
        clear hd3
        try go_wp2_with fail
        clear hHeld
        refine hK'.out _ _ (A5u) (fun hHeld => ?_)
        clear hK' KK
        try simp only [List.setIfInBounds_toArray, List.set_cons_zero, List.set_cons_succ]
        refine wpAnyH_take (i := 10) (v := .pointer (some ⟨g3, yn, none⟩)) rfl (by kernel_rfl) (by kernel_rfl) (by kernel_rfl) (fun _ _ _ h => h) (Or.inl ⟨by kernel_rfl, ?_⟩) hHeld ?_
        · intro w' hSw; go_simp
        try simp only [Act.put, List.setIfInBounds_toArray, List.set_cons_zero, List.set_cons_succ, List.getElem_toArray, List.getElem_cons_succ, List.getElem_cons_zero]
        refine wpAnyH_ready (rs := [11]) (by kernel_rfl) (by simp) ?_
        refine AllReadyH.cons rfl (fun KK hK' => ?_) AllReadyH.nil
        obtain ⟨yv, kY⟩ := tab3 a3 yn hyn
        go_simp
        clear kY
        clear hHeld
        refine hK'.out _ _ (A5u) (fun hHeld => ?_)
        clear hK' KK
        try simp only [List.setIfInBounds_toArray, List.set_cons_zero, List.set_cons_succ]
        refine wpAnyH_take (i := 12) (v := .pointer (some ⟨go, xn, none⟩)) rfl (by kernel_rfl) (by kernel_rfl) (by kernel_rfl) (fun _ _ _ h => h) (Or.inl ⟨by kernel_rfl, ?_⟩) hHeld ?_
        · intro w' hSw; go_simp
        try simp only [Act.put, List.setIfInBounds_toArray, List.set_cons_zero, List.set_cons_succ, List.getElem_toArray, List.getElem_cons_succ, List.getElem_cons_zero]
        refine wpAnyH_ready (rs := [13]) (by kernel_rfl) (by simp) ?_
        refine AllReadyH.cons rfl (fun KK hK' => ?_) AllReadyH.nil
        obtain ⟨kO, fO⟩ := M4u.get hxl
        go_simp
        replace A5u := A5u.setOther (show q5 ≠ go by omega) (.int .i64 yv) (i := xn)
        replace A4u := A4u.setOther (show q4 ≠ go by omega) (.int .i64 yv) (i := xn)
        replace M4u := M4u.put hxl (Nat.le_refl _) yv
        replace hdu := hdu.set (g := go) (i := xn) hwgo hlt (.int .i64 yv)
        obtain ⟨u5, hv⟩ : ∃ V, u3.setCell ⟨go, xn, none⟩ (.int .i64 yv) = V := ⟨_, rfl⟩
        rw [hv] at A5u A4u M4u hdu ⊢
        clear hv kO fO
        clear hHeld
        refine hK'.out _ _ (A5u) (fun hHeld => ?_)
        clear hK' KK
        try simp only [List.setIfInBounds_toArray, List.set_cons_zero, List.set_cons_succ]
        refine wpAnyH_done (by kernel_rfl) ?_ _
        clear hHeld
        obtain ⟨wv, hwv⟩ : ∃ W, W = u5 := ⟨_, rfl⟩
        subst hwv
        have A5 := A5u
        have A4 := A4u
        have M9 := M4u
        have hd := hdu
        clear A5u A4u M4u hdu a3
        have AR : Arr wv w.heap.size wv.heap.size (.slice (some ⟨go, 0, none⟩) L L) L _ := .inr ⟨go, L, rfl, hwgo, M9.lt, ⟨Nat.le_refl _, by unfold maxLen; omega⟩, M9⟩
        have hLL : L ≤ 2000 := by omega
        clear M9
        have HAR := hid_of AR
        have HA4 := hid_of A4
        have HHD := hid_of hd
        have HNB := hid_of hNb
        have HA5 := hid_of A5
        clear AR hd hNb A5
        obtain ⟨o0, o1, -⟩ := HA5.out.open2
        obtain ⟨d0, d1, f0', f1'⟩ := A4.open2
        clear A4
        go_wp2
        have a9 : At 26 ((wv.setCell ⟨q4, 0, none⟩ (.int .i64 N)).setCell ⟨q4, 1, none⟩ (.slice (some ⟨go, 0, none⟩) L L)) q4 #[.int .i64 N, .slice (some ⟨go, 0, none⟩) L L] := by simpa using (HA4.out.set 0 (.int .i64 N)).set 1 (.slice (some ⟨go, 0, none⟩) L L)
        obtain ⟨p0, p1, -⟩ := a9.open2
        have hk4 : Kept q4 wv ((wv.setCell ⟨q4, 0, none⟩ (.int .i64 N)).setCell ⟨q4, 1, none⟩ (.slice (some ⟨go, 0, none⟩) L L)) := ((Kept.refl _ _).set _).set _
        have hAf := arr_keep HAR.out hk4 (arr_ne_map HAR.out HA4.out)
        have hdf : Dr w p a len cap ((wv.setCell ⟨q4, 0, none⟩ (.int .i64 N)).setCell ⟨q4, 1, none⟩ (.slice (some ⟨go, 0, none⟩) L L)) := (HHD.out.set (g := q4) (i := 0) (by omega) hlt _).set (g := q4) (i := 1) (by omega) hlt _
        exact bodyPost_ret (v := .agg #[.int .i64 N, .slice (some ⟨go, 0, none⟩) L L]) (by simp [results, Tryz.results22, go_sem, p0, p1]) rfl ⟨_, _, _, _, _, rfl, HNB.out, hLL, hAf, hdf⟩
    case inr.inr.inl =>
      obtain ⟨o0, o1, -⟩ := A5.open2
      obtain ⟨q9, hq9⟩ : ∃ q, w6.heap.size = q := ⟨_, rfl⟩
      obtain ⟨W7, hW7, a9, b7, -⟩ := boxed w6 2 #[.int .i64 0]
      have hbs7 := hbs1 w6
      rw [hW7, hq9] at hbs7
      rw [hq9] at a9
      replace A4 := A4.below b7
      replace A5 := A5.below b7
      replace M4 := Made.mb M4 b7
      replace hd := hd.below b7
      clear b7
      have K7 : ArK 1 2 W7 w.heap.size W7.heap.size (.slice (some ⟨go, 0, none⟩) L L) L F := by
        obtain ⟨cur, ac, h1, h2⟩ := M4
        exact ArK.own ⟨cur, ac, by omega, fun i hi => h2 i (by omega)⟩ hwgo (Nat.le_refl _) (by unfold maxLen; omega)
      have R9 : Recs 1 W7 q9 1 (fun _ => 0) := by
        refine ⟨a9.lt, fun i hi => ?_⟩
        have e0 : i = 0 := by omega
        rw [e0]
        exact a9.cell 0 rfl
      have HK7 := hid_of K7
      have HR9 := hid_of R9
      have hws7 : w.heap.size ≤ W7.heap.size := hd.1.size
      clear K7 R9 a9 M4
      go_wp2_with (at_builtin; refine Hid.out (?_ : Hid _))
      refine (?_ : wpList _ _ _ _ _ _)
      refine wpListK_append Tryz.underlying24 infoIv rfl (by omega) (by omega) W7 rfl _ _ rfl (v := .slice (some ⟨go, 0, none⟩) L L) rfl HK7.out (ad := some ⟨q9, 0, none⟩) (m := 1) (c := 1) rfl (.inr ⟨q9, rfl, HR9.out⟩) (fun h => by cases h) (by omega) hws7 ?_
      intro v10 w10 hA10 hOnly hnn
      have hb4 := HK7.out.box A4 (by decide)
      have hb5 := HK7.out.box A5 (by decide)
      replace A4 := A4.only hOnly hb4
      replace A5 := A5.only hOnly hb5
      replace hd : Dr w p a len cap w10 := hd.grown (row := (Value.slice (some ⟨go, 0, none⟩) L L).ownBlock) ⟨hOnly.os, hOnly.tape, hOnly.output, hOnly.size, fun k hk hne => hOnly.block k hk (fun e => hne e.symm)⟩ (fun k e => by cases e; exact hwgo) hlt
      obtain ⟨g10, c10, e10, -⟩ := hA10.nn (hnn (by intro h; cases h))
      subst e10
      have HA10 := hid_of hA10
      clear hA10 hOnly hnn HK7 HR9 o0 o1 hW7 hbs7 hq9 hb4 hb5
      obtain ⟨o0, o1, f0, f1⟩ := A5.open2
      have A5' : At 26 (w10.setCell ⟨q5, 1, none⟩ (.slice (some ⟨g10, 0, none⟩) (L + 1) c10)) q5 #[.int .i64 N, .slice (some ⟨g10, 0, none⟩) (L + 1) c10] := by simpa using A5.set 1 (.slice (some ⟨g10, 0, none⟩) (L + 1) c10)
      have A4' : At 26 (w10.setCell ⟨q5, 1, none⟩ (.slice (some ⟨g10, 0, none⟩) (L + 1) c10)) q4 #[.int .i64 0, .slice none 0 0] := A4.setOther (by omega) _
      have hAr := arr_ark HA10.out
      have hAr' := arr_keep hAr (((Kept.refl q5 w10).set (i := 1) (.slice (some ⟨g10, 0, none⟩) (L + 1) c10))) (arr_ne_map hAr A5)
      have hd' : Dr w p a len cap (w10.setCell ⟨q5, 1, none⟩ (.slice (some ⟨g10, 0, none⟩) (L + 1) c10)) := hd.set (g := q5) (i := 1) (by omega) hlt _
      obtain ⟨w9, hw9⟩ : ∃ W, w10.setCell ⟨q5, 1, none⟩ (.slice (some ⟨g10, 0, none⟩) (L + 1) c10) = W := ⟨_, rfl⟩
      rw [hw9] at A5' A4' hAr' hd'
      clear A4 A5 hd hAr HA10
      have A4 := A4'
      have A5 := A5'
      have hd := hd'
      have AR := hAr'
      have hLL : L + 1 ≤ 2000 := by omega
      clear A4' A5' hd' hAr'
      have HAR := hid_of AR
      have HA4 := hid_of A4
      have HHD := hid_of hd
      have HNB := hid_of hNb
      have HA5 := hid_of A5
      clear AR hd hNb A5
      obtain ⟨o0, o1, -⟩ := HA5.out.open2
      obtain ⟨d0, d1, f0', f1'⟩ := A4.open2
      clear A4
      go_wp2
      have a9 : At 26 ((w9.setCell ⟨q4, 0, none⟩ (.int .i64 N)).setCell ⟨q4, 1, none⟩ (.slice (some ⟨g10, 0, none⟩) (L + 1) c10)) q4 #[.int .i64 N, .slice (some ⟨g10, 0, none⟩) (L + 1) c10] := by simpa using (HA4.out.set 0 (.int .i64 N)).set 1 (.slice (some ⟨g10, 0, none⟩) (L + 1) c10)
      obtain ⟨p0, p1, -⟩ := a9.open2
      have hk4 : Kept q4 w9 ((w9.setCell ⟨q4, 0, none⟩ (.int .i64 N)).setCell ⟨q4, 1, none⟩ (.slice (some ⟨g10, 0, none⟩) (L + 1) c10)) := ((Kept.refl _ _).set _).set _
      have hAf := arr_keep HAR.out hk4 (arr_ne_map HAR.out HA4.out)
      have hdf : Dr w p a len cap ((w9.setCell ⟨q4, 0, none⟩ (.int .i64 N)).setCell ⟨q4, 1, none⟩ (.slice (some ⟨g10, 0, none⟩) (L + 1) c10)) := (HHD.out.set (g := q4) (i := 0) (by omega) hlt _).set (g := q4) (i := 1) (by omega) hlt _
      exact bodyPost_ret (v := .agg #[.int .i64 N, .slice (some ⟨g10, 0, none⟩) (L + 1) c10]) (by simp [results, Tryz.results22, go_sem, p0, p1]) rfl ⟨_, _, _, _, _, rfl, HNB.out, hLL, hAf, hdf⟩
    case inr.inr.inr =>
      obtain ⟨o0, o1, f0, f1⟩ := A5.open2
      have A5' : At 26 ((w6.setCell ⟨q5, 0, none⟩ (.int .i64 0)).setCell ⟨q5, 1, none⟩ (.slice none 0 0)) q5 #[.int .i64 0, .slice none 0 0] := by simpa using (A5.set 0 (.int .i64 0)).set 1 (.slice none 0 0)
      have A4' : At 26 ((w6.setCell ⟨q5, 0, none⟩ (.int .i64 0)).setCell ⟨q5, 1, none⟩ (.slice none 0 0)) q4 #[.int .i64 0, .slice none 0 0] := (A4.setOther (by omega) _).setOther (by omega) _
      have hd' : Dr w p a len cap ((w6.setCell ⟨q5, 0, none⟩ (.int .i64 0)).setCell ⟨q5, 1, none⟩ (.slice none 0 0)) := (hd.set (g := q5) (i := 0) (by omega) hlt _).set (g := q5) (i := 1) (by omega) hlt _
      obtain ⟨w9, hw9⟩ : ∃ W, (w6.setCell ⟨q5, 0, none⟩ (.int .i64 0)).setCell ⟨q5, 1, none⟩ (.slice none 0 0) = W := ⟨_, rfl⟩
      rw [hw9] at A5' A4' hd'
      clear A4 A5 hd M4 hNb
      have A4 := A4'
      have A5 := A5'
      have hd := hd'
      have hNb : -9223372036854775808 ≤ (0 : Int) ∧ (0 : Int) ≤ 9223372036854775807 := by omega
      have AR : Arr w9 w.heap.size w9.heap.size (.slice none 0 0) 0 F := .inl ⟨rfl, rfl⟩
      have hLL : (0 : Nat) ≤ 2000 := by omega
      clear A4' A5' hd'
      have HAR := hid_of AR
      have HA4 := hid_of A4
      have HHD := hid_of hd
      have HNB := hid_of hNb
      have HA5 := hid_of A5
      clear AR hd hNb A5
      obtain ⟨o0, o1, -⟩ := HA5.out.open2
      obtain ⟨d0, d1, f0', f1'⟩ := A4.open2
      clear A4
      go_wp2
      have a9 : At 26 ((w9.setCell ⟨q4, 0, none⟩ (.int .i64 0)).setCell ⟨q4, 1, none⟩ (.slice none 0 0)) q4 #[.int .i64 0, .slice none 0 0] := by simpa using (HA4.out.set 0 (.int .i64 0)).set 1 (.slice none 0 0)
      obtain ⟨p0, p1, -⟩ := a9.open2
      have hk4 : Kept q4 w9 ((w9.setCell ⟨q4, 0, none⟩ (.int .i64 0)).setCell ⟨q4, 1, none⟩ (.slice none 0 0)) := ((Kept.refl _ _).set _).set _
      have hAf := arr_keep HAR.out hk4 (arr_ne_map HAR.out HA4.out)
      have hdf : Dr w p a len cap ((w9.setCell ⟨q4, 0, none⟩ (.int .i64 0)).setCell ⟨q4, 1, none⟩ (.slice none 0 0)) := (HHD.out.set (g := q4) (i := 0) (by omega) hlt _).set (g := q4) (i := 1) (by omega) hlt _
      exact bodyPost_ret (v := .agg #[.int .i64 0, .slice none 0 0]) (by simp [results, Tryz.results22, go_sem, p0, p1]) rfl ⟨_, _, _, _, _, rfl, HNB.out, hLL, hAf, hdf⟩
end Go.Proofs.YtiocneailhplkaaGreat
