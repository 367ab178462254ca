/-
  Exposures drawn: walked.
-/
import Derived.Test.YtcpeaenophaphaaSx2
import Derived.Deep.CutRange
namespace Go.Proofs.Ytcpeaenophaphaa
open Go.RowKit

theorem news1S {w : World} {t : TypeId} {g : Nat} {x : Int} (h : At t w g #[.int .i64 x]) : ∀ j u, (lCells [x])[j]? = some u → w.cell? ((⟨g, 0, none⟩ : Addr).add j) = some u := by
  intro j u hu
  rcases j with _ | j
  · simp [lCells] at hu; subst hu; exact h.cell 0 rfl
  · simp [lCells] at hu
theorem newsL {w : World} {t : TypeId} {g : Nat} {x : Value} (h : At t w g #[x]) : ∀ j u, [x][j]? = some u → w.cell? ((⟨g, 0, none⟩ : Addr).add j) = some u := by
  intro j u hu
  rcases j with _ | j
  · simp at hu; subst hu; exact h.cell 0 rfl
  · simp at hu
theorem oneL {w : World} {B : Nat} {v : Value} {l : List Int} (_h : v ≠ .slice none 0 0) (s : Lst w B v l) : ∀ u ∈ [v], u.oneCell' = true := by
  obtain ⟨g, c, cur, rfl, -⟩ := s.open
  intro u hu
  simp at hu
  subst hu
  rfl
theorem LL.start {bd : Nat} {w : World} {B g : Nat} (h : At 25 w g #[]) (hB : B ≤ g) (V : Nat → Value) : LL bd w B (.slice (some ⟨g, 0, none⟩) 0 0) 0 V :=
  ⟨⟨rfl, .inr ⟨g, 0, #[], rfl, hB, h, Nat.le_refl _, Nat.zero_le _, rfl, rfl⟩⟩, nn_someS _ _ _, fun i hi => by omega, fun i j hi => by omega⟩
def sLenS (v : Value) : Nat := match v with | .slice _ n _ => n | _ => 0
/-- What is drawn. -/
def DsS (w1 : World) (p : Nat) (a : Option Addr) (len cap : Nat) (e : Ending) (w' : World) : Prop := ∃ v m V, e = .returned v ∧ m ≤ 13 ∧ LL 40 w' w1.heap.size v m V ∧ Drn w1 w' p a len cap
theorem infoSlS : (Try.prog.info? 25).map (fun i => (i.zero, i.size, i.bytes)) = some (some (.slice none 0 0), 1, 24) := by kernel_rfl
theorem atKeptS {t : TypeId} {w w' : World} {p q : Nat} {vs : Array Value} (h : At t w q vs) (hk : Kept p w w') (hq : q ≠ p) : At t w' q vs := (hk.block q h.lt hq).trans h
theorem tab4 {w : World} {q : Nat} {x : Int} {y0 y1 y2 y3 : Int} (h : At 2 w q #[.int .i64 y0, .int .i64 y1, .int .i64 y2, .int .i64 y3]) (h0 : 0 ≤ x) (h1 : x < 4) : ∃ Y, w.cell? ⟨q, x.toNat, none⟩ = some (.int .i64 Y) := by
  rcases (by omega : x = 0 ∨ x = 1 ∨ x = 2 ∨ x = 3) with rfl | rfl | rfl | rfl
  · exact ⟨_, h.cell 0 rfl⟩
  · exact ⟨_, h.cell 1 rfl⟩
  · exact ⟨_, h.cell 2 rfl⟩
  · exact ⟨_, h.cell 3 rfl⟩
theorem cell0S {bd : Nat} {w : World} {B g c m : Nat} {V : Nat → Value} (s : LL bd w B (.slice (some ⟨g, 0, none⟩) m c) m V) (hm : 0 < m) : w.cell? ⟨g, 0, none⟩ = some (V 0) ∧ w.frozen? ⟨g, 0, none⟩ = false ∧ g < w.heap.size := by
  obtain ⟨g', c', cur, e, h1, hh, q1, q2, q3, q4⟩ := s.open
  cases e
  have h3 := vCells_at V hm
  rw [← q4, List.getElem?_take_of_lt hm, Array.getElem?_toList] at h3
  exact ⟨hh.cell 0 h3, hh.frozen 0, hh.lt⟩
theorem LL.slot {bd : Nat} {w w' : World} {B g c m : Nat} {V : Nat → Value} (s : LL bd w B (.slice (some ⟨g, 0, none⟩) m c) m V) (hm : 0 < m) (hg : w.grownBy w' (V 0).ownBlock) : w'.cell? ⟨g, 0, none⟩ = some (V 0) ∧ w'.frozen? ⟨g, 0, none⟩ = false := by
  obtain ⟨z0, k0, -⟩ := s.each 0 hm
  have hne := s.inNe k0
  obtain ⟨c1, c2, c3⟩ := cell0S s hm
  have hb := hg.block g c3 (fun e => hne e.symm)
  exact ⟨(World.cell?_of_block (w := w) hb).trans c1, (World.frozen?_of_block (w := w) hb).trans c2⟩
set_option maxRecDepth 100000 in
set_option maxHeartbeats 8000000 in
theorem drawSets_any {w : World} {p : Nat} {a : Option Addr} {len cap : Nat} (hc : Cur w p a len cap) :
    Calls Try.prog 28 #[.pointer (some ⟨p, 0, none⟩)] w (DsS w p a len cap) := by
  obtain ⟨i0, hi0, hz0, hz1, hz2⟩ := info_parts infoI
  obtain ⟨i1, hi1, hy0, hy1, hy2⟩ := info_parts infoSlS
  obtain ⟨W0, hW0, A0, bb, -⟩ := boxed w 25 #[]
  have L : LL 39 W0 w.heap.size (.slice (some ⟨w.heap.size, 0, none⟩) 0 0) 0 (fun _ => undef) := LL.start A0 (Nat.le_refl _) _
  have D : Drn w W0 p a len cap := ⟨hc.kept bb, Kept.of_below bb, hc.lt⟩
  have hbo : ∀ w, (Instr.buildSlice 24 0 #[]).run Try.prog w = .ok (.slice (some ⟨w.heap.size, 0, none⟩) 0 0) (w.alloc (.cells #[] 25)) := fun _ => by kernel_rfl
  have hbe : ∀ w, (Instr.buildSlice 25 0 #[]).run Try.prog w = .ok (.slice (some ⟨w.heap.size, 0, none⟩) 0 0) (w.alloc (.cells #[] 2)) := fun _ => by kernel_rfl
  clear hc bb A0
  go_enter Try.func28, Try.ntmps28
  go_wp2_with fail
  refine (below_dr D.st 8 (by omega) (by omega)).mono ?_
  rintro e w1 ⟨nn, rfl, nn0, nn1, hd⟩
  replace L := L.draw hd.1 D.pN
  replace D := D.draw hd
  clear hd
  clear hW0
  go_wp2
  go_loopw [3, 4] (fun s t wr => ∃ (m : Nat) (k : Int) (V : Nat → Value), 0 ≤ k ∧ k ≤ 7 ∧ (m : Int) + k ≤ 7 ∧ t = .int .i64 k ∧ LL 39 wr w.heap.size s m V ∧ Drn w wr p a len cap) (fun _ t _ => (intOf t).toNat)
  case atStart => exact ⟨0, nn, _, by omega, by omega, by omega, rfl, L, D⟩
  case round =>
    clear L D
    obtain ⟨m, k, V, hk0, hk7, hmk, rfl, L, D⟩ := hrel
    by_cases hkp : 0 < k
    · have hkp2 := hkp
      obtain ⟨W2, hW2, A2, bb, -⟩ := boxed wr 2 #[]
      have E : Lst W2 w.heap.size (.slice (some ⟨wr.heap.size, 0, none⟩) 0 0) [] := Lst.start A2 D.kp.size
      have hap : ∀ i, i < m → (V i).ownBlock ≠ (Value.slice (some ⟨wr.heap.size, 0, none⟩) 0 0).ownBlock := fun i hi e => by
        obtain ⟨y, k1, -⟩ := L.each i hi
        have := (k1.ge (e.trans (show _ = some wr.heap.size from rfl))).2
        omega
      replace L := L.below bb
      replace D := D.below bb
      clear bb A2
      obtain ⟨h0, hh0⟩ : ∃ h, wr.heap.size = h := ⟨_, rfl⟩
      rw [hh0] at E hap
      go_wp2_with fail
      refine (from_dr D.st (-1) (3) (by omega) (by omega) (by omega) (by omega)).mono ?_
      rintro e w3 ⟨r, rfl, r0, r1, hd⟩
      replace L := L.draw hd.1 D.pN
      replace E := E.draw hd.1 D.pN
      replace D := D.draw hd
      clear hd
      clear hW2 hh0
      go_wp2_with fail
      refine (below_dr D.st 6 (by omega) (by omega)).mono ?_
      rintro e w4 ⟨kk, rfl, kk0, kk1, hd⟩
      replace L := L.draw hd.1 D.pN
      replace E := E.draw hd.1 D.pN
      replace D := D.draw hd
      clear hd
      go_wp2
      go_loopw [5, 6, 7] (fun s t u wr => ∃ (z : List Int) (r k2 : Int), 0 ≤ k2 ∧ k2 ≤ 5 ∧ (z.length : Int) + k2 ≤ 5 ∧ -10 ≤ r ∧ r ≤ 100 + 10 * (z.length : Int) ∧ t = .int .i64 r ∧ u = .int .i64 k2 ∧ LL 39 wr w.heap.size u3 m V ∧ Lst wr w.heap.size s z ∧ (∀ i, i < m → (V i).ownBlock ≠ s.ownBlock) ∧ Drn w wr p a len cap) (fun _ _ u _ => (intOf u).toNat)
      case atStart => exact ⟨[], r, kk, by omega, by omega, by simp; omega, by omega, by simp; omega, rfl, rfl, L, E, hap, D⟩
      case round =>
        clear L E D hap
        obtain ⟨z, r, k2, hk20, hk25, hzk, hr0, hr1, rfl, rfl, L, E, hap, D⟩ := hrel
        by_cases hk2p : 0 < k2
        · have hk2p2 := hk2p
          go_wp2_with fail
          refine (below_dr D.st 4 (by omega) (by omega)).mono ?_
          rintro e w6 ⟨x, rfl, x0, x1, hd⟩
          replace L := L.draw hd.1 D.pN
          replace E := E.draw hd.1 D.pN
          replace D := D.draw hd
          clear hd
          obtain ⟨R, hR⟩ : ∃ R, r + 1 + x = R := ⟨_, rfl⟩
          obtain ⟨V9, hV9, A9, b10, -⟩ := boxed w6 2 #[.int .i64 R]
          have L9 := L.below b10
          have E9 := E.below b10
          have D9 := D.below b10
          have hkk : w.heap.size ≤ V9.heap.size := D9.kp.size
          obtain ⟨g9, hg9⟩ : ∃ g, w6.heap.size = g := ⟨_, rfl⟩
          rw [hg9] at A9
          have hb9 : ∀ w, (Instr.buildSlice 25 1 #[(0, .int .i64 R)]).run Try.prog w = .ok (.slice (some ⟨w.heap.size, 0, none⟩) 1 1) (w.alloc (.cells #[.int .i64 R] 2)) := fun _ => by kernel_rfl
          have hown := E9.own
          obtain ⟨ml, hml⟩ : ∃ ml, z.length = ml := ⟨_, rfl⟩
          rw [hml] at hown
          clear b10 L E D
          go_wp2_with (at_builtin; refine wpList_append_own_at _ rfl _ _ _ rfl w.heap.size 2 i0 _ 1 8 Try.underlying25 hi0 hz0 hz1 hz2 rfl (by omega) u5 ml (lCells z) rfl hown ⟨g9, 0, none⟩ 1 1 (lCells [R]) rfl rfl (news1S A9) (lCells_one _) (by unfold maxLen; omega) (by omega) hkk ?_; intro v2 w16 hown2 hgrow2 hne2 hat2; refine Hid.out (?_ : Hid _))
          rw [← hml] at hown2
          have E3 := E9.grown hown2 hne2
          have L3 := L9.keep hgrow2 (fun e => L9.inNe E9 e.symm) hap
          have D3 := D9.grow hgrow2 (fun j hj => (E9.ge hj).1)
          have hap3 : ∀ i, i < m → (V i).ownBlock ≠ v2.ownBlock := fun i hi e => by
            rcases hat2 with h | h
            · exact hap i hi (e.trans h)
            · obtain ⟨y, k1, -⟩ := L9.each i hi
              have := (k1.ge (e.trans h)).2
              omega
          clear hown hown2 hgrow2 hne2 hat2 A9 hV9 L9 E9 D9 hap hb9 hkk hg9
          refine (?_ : wpList _ _ _ _ _ _)
          go_wp2
          exact ⟨⟨z ++ [R], R, k2 - 1, by omega, by omega, by simp; omega, by omega, by simp; omega, rfl, rfl, L3, E3, hap3, D3⟩, by simp [intOf]; omega⟩
        · obtain ⟨ge, ce, cure, rfl, -⟩ := E.open
          obtain ⟨zl, hzl⟩ : ∃ zl, z.length = zl := ⟨_, rfl⟩
          rw [hzl] at hzk E hap ⊢
          obtain ⟨V8, hV8, A8, b8, -⟩ := boxed wr 25 #[(.slice (some ⟨ge, 0, none⟩) zl ce)]
          have L8 := L.below b8
          have E8 := E.below b8
          have D8 := D.below b8
          have hkk : w.heap.size ≤ V8.heap.size := D8.kp.size
          obtain ⟨g8, hg8⟩ : ∃ g, wr.heap.size = g := ⟨_, rfl⟩
          rw [hg8] at A8
          have hb8 : ∀ w, (Instr.buildSlice 24 1 #[(0, (.slice (some ⟨ge, 0, none⟩) zl ce))]).run Try.prog w = .ok (.slice (some ⟨w.heap.size, 0, none⟩) 1 1) (w.alloc (.cells #[(.slice (some ⟨ge, 0, none⟩) zl ce)] 25)) := fun _ => by kernel_rfl
          clear b8 L E D
          go_wp2_with (at_builtin; refine wpList_append_own_at _ rfl _ _ _ rfl w.heap.size 25 i1 _ 1 24 Try.underlying24 hi1 hy0 hy1 hy2 rfl (by omega) u3 m (vCells V m) rfl L8.row ⟨g8, 0, none⟩ 1 1 [(.slice (some ⟨ge, 0, none⟩) zl ce)] rfl rfl (newsL A8) (oneL E8.nn E8) (by unfold maxLen; omega) (by omega) hkk ?_; intro v3 w17 hown3 hgrow3 hne3 hat3; refine Hid.out (?_ : Hid _))
          have L4 := L8.push E8 (by omega) hap hown3 hgrow3 hne3
          have D4 := D8.grow hgrow3 (fun j hj => (L8.ge hj).1)
          clear hown3 hgrow3 hne3 hat3 A8 hV8 L8 E8 D8 hb8 hkk hg8
          refine (?_ : wpList _ _ _ _ _ _)
          go_wp2
          exact ⟨⟨m + 1, k - 1, _, by omega, by omega, by omega, rfl, L4, D4⟩, by simp [intOf]; omega⟩
    · have hm7 : m ≤ 7 := by omega
      obtain ⟨gg, cc, curo, rfl, -⟩ := L.open
      go_wp2_with fail
      refine (once_dr D.st 14 (by omega) (by omega)).mono ?_
      rintro e w10 ⟨b1, rfl, hd⟩
      replace L := L.draw hd.1 D.pN
      replace D := D.draw hd
      clear hd
      cases b1
      · replace L := L.up
        go_wp2_with fail
        refine (once_dr D.st 40 (by omega) (by omega)).mono ?_
        rintro e w20 ⟨b2, rfl, hd⟩
        replace L := L.draw hd.1 D.pN
        replace D := D.draw hd
        clear hd
        cases b2
        · go_wp2
          exact bodyPost_ret (v := .slice (some ⟨gg, 0, none⟩) m cc) (by simp [results, Try.results28, go_sem]) rfl ⟨_, _, _, rfl, by omega, L, D⟩
        · go_wp2
          go_loopw [3] (fun s wr => ∃ (m : Nat) (V : Nat → Value), m ≤ 13 ∧ LL 40 wr w.heap.size s m V ∧ Drn w wr p a len cap) (fun s _ => 13 - sLenS s)
          case atStart => exact ⟨_, _, by omega, L, D⟩
          case round =>
            clear L D
            obtain ⟨m, V, hm13, L, D⟩ := hrel
            obtain ⟨g7, c7, cur7, rfl, -⟩ := L.open
            go_wp2_with fail
            refine (below_dr D.st 2 (by omega) (by omega)).mono ?_
            rintro e w21 ⟨x9, rfl, x90, x91, hd⟩
            replace L := L.draw hd.1 D.pN
            replace D := D.draw hd
            clear hd
            by_cases hc9 : (m : Int) < 12 + x9
            · obtain ⟨W5, hW5, A5, b5, -⟩ := boxed w21 2 #[.int .i64 (m : Int)]
              have hb5 : ∀ w, (Instr.buildSlice 25 1 #[(0, .int .i64 (m : Int))]).run Try.prog w = .ok (.slice (some ⟨w.heap.size, 0, none⟩) 1 1) (w.alloc (.cells #[.int .i64 (m : Int)] 2)) := fun _ => by kernel_rfl
              have E : Lst W5 w.heap.size (.slice (some ⟨w21.heap.size, 0, none⟩) 1 1) [(m : Int)] := Lst.one A5 D.kp.size
              have hap : ∀ i, i < m → (V i).ownBlock ≠ (Value.slice (some ⟨w21.heap.size, 0, none⟩) 1 1).ownBlock := fun i hi e => by
                obtain ⟨y, k1, -⟩ := L.each i hi
                have := (k1.ge (e.trans (show _ = some w21.heap.size from rfl))).2
                omega
              replace L := L.below b5
              replace D := D.below b5
              obtain ⟨h9, hh9⟩ : ∃ h, w21.heap.size = h := ⟨_, rfl⟩
              rw [hh9] at E hap
              obtain ⟨z, hz⟩ : ∃ z, [(m : Int)] = z := ⟨_, rfl⟩
              have hzl : z.length = 1 := by rw [← hz]; rfl
              rw [hz] at E
              clear A5 b5 hz
              obtain ⟨V8, hV8, A8, b8, -⟩ := boxed W5 25 #[(.slice (some ⟨h9, 0, none⟩) 1 1)]
              have L8 := L.below b8
              have E8 := E.below b8
              have D8 := D.below b8
              have hkk : w.heap.size ≤ V8.heap.size := D8.kp.size
              obtain ⟨g8, hg8⟩ : ∃ g, W5.heap.size = g := ⟨_, rfl⟩
              rw [hg8] at A8
              have hb8 : ∀ w, (Instr.buildSlice 24 1 #[(0, (.slice (some ⟨h9, 0, none⟩) 1 1))]).run Try.prog w = .ok (.slice (some ⟨w.heap.size, 0, none⟩) 1 1) (w.alloc (.cells #[(.slice (some ⟨h9, 0, none⟩) 1 1)] 25)) := fun _ => by kernel_rfl
              clear b8 L E D
              go_wp2_with (at_builtin; refine wpList_append_own_at _ rfl _ _ _ rfl w.heap.size 25 i1 _ 1 24 Try.underlying24 hi1 hy0 hy1 hy2 rfl (by omega) (.slice (some ⟨g7, 0, none⟩) m c7) m (vCells V m) rfl L8.row ⟨g8, 0, none⟩ 1 1 [(.slice (some ⟨h9, 0, none⟩) 1 1)] rfl rfl (newsL A8) (oneL E8.nn E8) (by unfold maxLen; omega) (by omega) hkk ?_; intro v3 w17 hown3 hgrow3 hne3 hat3; refine Hid.out (?_ : Hid _))
              have L4 := L8.push E8 (by omega) hap hown3 hgrow3 hne3
              have D4 := D8.grow hgrow3 (fun j hj => (L8.ge hj).1)
              clear hown3 hgrow3 hne3 hat3 A8 hV8 L8 E8 D8 hb8 hkk hg8
              refine (?_ : wpList _ _ _ _ _ _)
              obtain ⟨g6, c6, cur6, rfl, -⟩ := L4.open
              go_wp2
              exact ⟨⟨m + 1, _, by omega, L4, D4⟩, by simp [sLenS]; omega⟩
            · go_wp2
              exact bodyPost_ret (v := .slice (some ⟨g7, 0, none⟩) m c7) (by simp [results, Try.results28, go_sem]) rfl ⟨_, _, _, rfl, by omega, L, D⟩
      · by_cases hm0 : 0 < m
        · have hm0' : (m : Int) > 0 := by omega
          obtain ⟨z0, z0L, hz40⟩ := L.each 0 hm0
          obtain ⟨q0, c0, cur0, hV0, -⟩ := z0L.open
          rw [hV0] at z0L
          go_upto_region 14 with (fail)
          go_cut [] from 44 to 56 (fun wc => ∃ V2 : Nat → Value, LL 40 wc w.heap.size (.slice (some ⟨gg, 0, none⟩) m cc) m V2 ∧ Drn w wc p a len cap)
          case first =>
            skip
            obtain ⟨u0, hu0, bb⟩ : ∃ uu, w10.drew = uu ∧ Below w10.heap.size w10 uu := ⟨_, rfl, (Below.refl _ _).drew⟩
            replace L := L.below bb
            replace z0L := z0L.below bb
            replace D := D.below bb
            clear bb
            refine wp_region_held_drew (S := fun w' => 0 ≤ w'.heap.size) (by kernel_rfl) (by rw [hu0]; exact Nat.zero_le _) (fun hHeld => ?_)
            rw [hu0] at hHeld ⊢
            clear hu0
            change wpAnyH _ _ _ _ _ 13 #[false, false, false, false, false, false, false, false, false, false, false, false, false] _ _
            refine wpAnyH_take (i := 0) (v := .slice ((some ⟨gg, 0, none⟩)) m cc) rfl (by kernel_rfl) (by kernel_rfl) (by kernel_rfl) (fun _ _ _ h => h) (Or.inl ⟨by kernel_rfl, ?_⟩) hHeld ?_
            · intro w' hSw; go_simp
            try simp only [Act.put, List.setIfInBounds_toArray, List.set_cons_zero, List.set_cons_succ, List.getElem_toArray, List.getElem_cons_zero]
            refine wpAnyH_take (i := 1) (v := .slice ((some ⟨gg, 0, none⟩)) m cc) rfl (by kernel_rfl) (by kernel_rfl) (by kernel_rfl) (fun _ _ _ h => h) (Or.inl ⟨by kernel_rfl, ?_⟩) hHeld ?_
            · intro w' hSw; go_simp
            try simp only [Act.put, List.setIfInBounds_toArray, List.set_cons_zero, List.set_cons_succ, List.getElem_toArray, List.getElem_cons_succ, List.getElem_cons_zero]
            refine wpAnyH_take (i := 2) (v := .pointer (some ⟨gg, 0, none⟩)) rfl (by kernel_rfl) (by kernel_rfl) (by kernel_rfl) (fun _ _ _ h => h) (Or.inl ⟨by kernel_rfl, ?_⟩) hHeld ?_
            · intro w' hSw; go_simp
            try simp only [Act.put, List.setIfInBounds_toArray, List.set_cons_zero, List.set_cons_succ, List.getElem_toArray, List.getElem_cons_succ, List.getElem_cons_zero]
            refine wpAnyH_take (i := 5) (v := .pointer (some ⟨p, 0, none⟩)) rfl (by kernel_rfl) (by kernel_rfl) (by kernel_rfl) (fun _ _ _ h => h) (Or.inl ⟨by kernel_rfl, ?_⟩) hHeld ?_
            · intro w' hSw; go_simp
            try simp only [Act.put, List.setIfInBounds_toArray, List.set_cons_zero, List.set_cons_succ, List.getElem_toArray, List.getElem_cons_succ, List.getElem_cons_zero]
            refine wpAnyH_ready (rs := [3, 4, 6]) (by kernel_rfl) (by simp) ?_
            refine AllReadyH.cons rfl (fun KK hK' => ?_) (AllReadyH.cons rfl (fun KK hK' => ?_) (AllReadyH.cons rfl (fun KK hK' => ?_) AllReadyH.nil))
            · obtain ⟨x0, -, -⟩ := cell0S L hm0
              rw [hV0] at x0
              go_simp
              clear x0
              clear hHeld
              refine hK'.out _ _ (Nat.zero_le _) (fun hHeld => ?_)
              clear hK' KK
              try simp only [List.setIfInBounds_toArray, List.set_cons_zero, List.set_cons_succ]
              refine wpAnyH_ready (rs := [4, 6]) (by kernel_rfl) (by simp) ?_
              refine AllReadyH.cons rfl (fun KK hK' => ?_) (AllReadyH.cons rfl (fun KK hK' => ?_) AllReadyH.nil)
              · go_simp
                obtain ⟨u2, hUu2, tt, bb, -⟩ := boxed u0 2 #[.int .i64 63, .int .i64 64, .int .i64 0, .int .i64 (-1)]
                rw [hUu2]
                obtain ⟨q4, hq4⟩ : ∃ q, u0.heap.size = q := ⟨_, rfl⟩
                have hq4p : q4 ≠ p := by have := D.cur.lt; omega
                have hq4n : q0 ≠ q4 := by have := (z0L.ge (show _ = some q0 from rfl)).2; omega
                rw [hq4] at tt ⊢
                replace L := L.below bb
                replace z0L := z0L.below bb
                replace D := D.below bb
                clear bb hUu2 hq4
                clear hHeld
                refine hK'.out _ _ (Nat.zero_le _) (fun hHeld => ?_)
                clear hK' KK
                try simp only [List.setIfInBounds_toArray, List.set_cons_zero, List.set_cons_succ]
                refine wpAnyH_ready (rs := [6]) (by kernel_rfl) (by simp) ?_
                refine AllReadyH.cons rfl (fun KK hK' => ?_) AllReadyH.nil
                go_simp
                refine (below_dr D.st 4 (by omega) (by omega)).mono ?_
                rintro e u3 ⟨x4, rfl, x40, x41, hd⟩
                replace L := L.draw hd.1 D.pN
                replace z0L := z0L.draw hd.1 D.pN
                replace tt := atKeptS tt hd.1 hq4p
                replace D := D.draw hd
                clear hd
                try go_wp2_with fail
                clear hHeld
                refine hK'.out _ _ (Nat.zero_le _) (fun hHeld => ?_)
                clear hK' KK
                try simp only [List.setIfInBounds_toArray, List.set_cons_zero, List.set_cons_succ]
                refine wpAnyH_take (i := 7) (v := .pointer (some ⟨q4, x4.toNat, none⟩)) rfl (by kernel_rfl) (by kernel_rfl) (by kernel_rfl) (fun _ _ _ h => h) (Or.inl ⟨by kernel_rfl, ?_⟩) hHeld ?_
                · intro w' hSw; go_simp
                try simp only [Act.put, List.setIfInBounds_toArray, List.set_cons_zero, List.set_cons_succ, List.getElem_toArray, List.getElem_cons_succ, List.getElem_cons_zero]
                refine wpAnyH_ready (rs := [8]) (by kernel_rfl) (by simp) ?_
                refine AllReadyH.cons rfl (fun KK hK' => ?_) AllReadyH.nil
                obtain ⟨Y, hY⟩ : ∃ Y, u3.cell? ⟨q4, x4.toNat, none⟩ = some (.int .i64 Y) := tab4 tt x40 x41
                go_simp
                clear hY
                clear hHeld
                refine hK'.out _ _ (Nat.zero_le _) (fun hHeld => ?_)
                clear hK' KK
                try simp only [List.setIfInBounds_toArray, List.set_cons_zero, List.set_cons_succ]
                refine wpAnyH_ready (rs := [9]) (by kernel_rfl) (by simp) ?_
                refine AllReadyH.cons rfl (fun KK hK' => ?_) AllReadyH.nil
                go_simp
                obtain ⟨u5, hUu5, A9, bb, -⟩ := boxed u3 2 #[.int .i64 Y]
                rw [hUu5]
                obtain ⟨g9, hg9⟩ : ∃ g, u3.heap.size = g := ⟨_, rfl⟩
                rw [hg9] at A9 ⊢
                replace L := L.below bb
                replace z0L := z0L.below bb
                replace D := D.below bb
                clear bb hUu5 hg9 tt
                clear hHeld
                refine hK'.out _ _ (Nat.zero_le _) (fun hHeld => ?_)
                clear hK' KK
                try simp only [List.setIfInBounds_toArray, List.set_cons_zero, List.set_cons_succ]
                refine wpAnyH_ready (rs := [10]) (by kernel_rfl) (by simp) ?_
                refine AllReadyH.cons rfl (fun KK hK' => ?_) AllReadyH.nil
                have hown := z0L.own
                have hkk : w.heap.size ≤ u5.heap.size := D.kp.size
                refine step_append_at _ (by rfl) _ _ _ (by rfl) w.heap.size 2 i0 _ 1 8 Try.underlying25 hi0 hz0 hz1 hz2 rfl (by omega) (.slice (some ⟨q0, 0, none⟩) z0.length c0) z0.length (lCells z0) (by rfl) hown ⟨g9, 0, none⟩ 1 1 (lCells [Y]) (by rfl) (by rfl) (news1S A9) (lCells_one _) (by unfold maxLen; omega) (by omega) hkk ?_
                intro v2 u6 hown2 hgrow2 hne2 hat2
                obtain ⟨gn, cn, rfl⟩ : ∃ g6 c6, v2 = .slice (some ⟨g6, 0, none⟩) (z0.length + 1) c6 := by
                  rcases hown2.2 with ⟨e1, -⟩ | ⟨g6, c6, cur6, e1, -⟩
                  · exact absurd (hne2.1 e1).1 (fun h => by cases h)
                  · exact ⟨g6, c6, e1⟩
                have E3 := z0L.grown hown2 hne2
                have D3 := D.grow hgrow2 (fun j hj => (z0L.ge hj).1)
                have L3 := L.first hm0 (by rw [hV0]; exact hgrow2) E3 (by simp; omega) (by rw [hV0]; exact hat2)
                have cc3 := L.slot hm0 (by rw [hV0]; exact hgrow2)
                have hgB := (L.ge (show _ = some gg from rfl)).1
                clear hown hown2 hgrow2 hne2 hat2 A9 L z0L D hkk
                clear hHeld
                refine hK'.out _ _ (Nat.zero_le _) (fun hHeld => ?_)
                clear hK' KK
                try simp only [List.setIfInBounds_toArray, List.set_cons_zero, List.set_cons_succ]
                refine wpAnyH_take (i := 11) (v := .pointer (some ⟨gg, 0, none⟩)) rfl (by kernel_rfl) (by kernel_rfl) (by kernel_rfl) (fun _ _ _ h => h) (Or.inl ⟨by kernel_rfl, ?_⟩) hHeld ?_
                · intro w' hSw; go_simp
                try simp only [Act.put, List.setIfInBounds_toArray, List.set_cons_zero, List.set_cons_succ, List.getElem_toArray, List.getElem_cons_succ, List.getElem_cons_zero]
                refine wpAnyH_ready (rs := [12]) (by kernel_rfl) (by simp) ?_
                refine AllReadyH.cons rfl (fun KK hK' => ?_) AllReadyH.nil
                obtain ⟨c30, c31⟩ := cc3
                go_simp
                obtain ⟨u7, hU, L5, D5⟩ : ∃ U, u6.setCell ⟨gg, 0, none⟩ (.slice (some ⟨gn, 0, none⟩) (z0.length + 1) cn) = U ∧ LL 40 U w.heap.size (.slice (some ⟨gg, 0, none⟩) m cc) m (upd V 0 (.slice (some ⟨gn, 0, none⟩) (z0.length + 1) cn)) ∧ Drn w U p a len cap := ⟨_, rfl, L3, D3.grow (grownSet _ _ _ _) (fun j hj => by cases hj; exact hgB)⟩
                rw [hU]
                clear hU
                clear hHeld
                refine hK'.out _ _ (Nat.zero_le _) (fun hHeld => ?_)
                clear hK' KK
                try simp only [List.setIfInBounds_toArray, List.set_cons_zero, List.set_cons_succ]
                refine wpAnyH_done (by kernel_rfl) ?_ _
                clear hHeld
                go_wp2_with fail
                go_meet
                case rel => exact ⟨_, L5, D5⟩
              · go_simp
                refine (below_dr D.st 4 (by omega) (by omega)).mono ?_
                rintro e u2 ⟨x4, rfl, x40, x41, hd⟩
                replace L := L.draw hd.1 D.pN
                replace z0L := z0L.draw hd.1 D.pN
                replace D := D.draw hd
                clear hd
                try go_wp2_with fail
                clear hHeld
                refine hK'.out _ _ (Nat.zero_le _) (fun hHeld => ?_)
                clear hK' KK
                try simp only [List.setIfInBounds_toArray, List.set_cons_zero, List.set_cons_succ]
                refine wpAnyH_ready (rs := [4]) (by kernel_rfl) (by simp) ?_
                refine AllReadyH.cons rfl (fun KK hK' => ?_) AllReadyH.nil
                go_simp
                obtain ⟨u3, hUu3, tt, bb, -⟩ := boxed u2 2 #[.int .i64 63, .int .i64 64, .int .i64 0, .int .i64 (-1)]
                rw [hUu3]
                obtain ⟨q4, hq4⟩ : ∃ q, u2.heap.size = q := ⟨_, rfl⟩
                have hq4p : q4 ≠ p := by have := D.cur.lt; omega
                have hq4n : q0 ≠ q4 := by have := (z0L.ge (show _ = some q0 from rfl)).2; omega
                rw [hq4] at tt ⊢
                replace L := L.below bb
                replace z0L := z0L.below bb
                replace D := D.below bb
                clear bb hUu3 hq4
                clear hHeld
                refine hK'.out _ _ (Nat.zero_le _) (fun hHeld => ?_)
                clear hK' KK
                try simp only [List.setIfInBounds_toArray, List.set_cons_zero, List.set_cons_succ]
                refine wpAnyH_take (i := 7) (v := .pointer (some ⟨q4, x4.toNat, none⟩)) rfl (by kernel_rfl) (by kernel_rfl) (by kernel_rfl) (fun _ _ _ h => h) (Or.inl ⟨by kernel_rfl, ?_⟩) hHeld ?_
                · intro w' hSw; go_simp
                try simp only [Act.put, List.setIfInBounds_toArray, List.set_cons_zero, List.set_cons_succ, List.getElem_toArray, List.getElem_cons_succ, List.getElem_cons_zero]
                refine wpAnyH_ready (rs := [8]) (by kernel_rfl) (by simp) ?_
                refine AllReadyH.cons rfl (fun KK hK' => ?_) AllReadyH.nil
                obtain ⟨Y, hY⟩ : ∃ Y, u3.cell? ⟨q4, x4.toNat, none⟩ = some (.int .i64 Y) := tab4 tt x40 x41
                go_simp
                clear hY
                clear hHeld
                refine hK'.out _ _ (Nat.zero_le _) (fun hHeld => ?_)
                clear hK' KK
                try simp only [List.setIfInBounds_toArray, List.set_cons_zero, List.set_cons_succ]
                refine wpAnyH_ready (rs := [9]) (by kernel_rfl) (by simp) ?_
                refine AllReadyH.cons rfl (fun KK hK' => ?_) AllReadyH.nil
                go_simp
                obtain ⟨u5, hUu5, A9, bb, -⟩ := boxed u3 2 #[.int .i64 Y]
                rw [hUu5]
                obtain ⟨g9, hg9⟩ : ∃ g, u3.heap.size = g := ⟨_, rfl⟩
                rw [hg9] at A9 ⊢
                replace L := L.below bb
                replace z0L := z0L.below bb
                replace D := D.below bb
                clear bb hUu5 hg9 tt
                clear hHeld
                refine hK'.out _ _ (Nat.zero_le _) (fun hHeld => ?_)
                clear hK' KK
                try simp only [List.setIfInBounds_toArray, List.set_cons_zero, List.set_cons_succ]
                refine wpAnyH_ready (rs := [10]) (by kernel_rfl) (by simp) ?_
                refine AllReadyH.cons rfl (fun KK hK' => ?_) AllReadyH.nil
                have hown := z0L.own
                have hkk : w.heap.size ≤ u5.heap.size := D.kp.size
                refine step_append_at _ (by rfl) _ _ _ (by rfl) w.heap.size 2 i0 _ 1 8 Try.underlying25 hi0 hz0 hz1 hz2 rfl (by omega) (.slice (some ⟨q0, 0, none⟩) z0.length c0) z0.length (lCells z0) (by rfl) hown ⟨g9, 0, none⟩ 1 1 (lCells [Y]) (by rfl) (by rfl) (news1S A9) (lCells_one _) (by unfold maxLen; omega) (by omega) hkk ?_
                intro v2 u6 hown2 hgrow2 hne2 hat2
                obtain ⟨gn, cn, rfl⟩ : ∃ g6 c6, v2 = .slice (some ⟨g6, 0, none⟩) (z0.length + 1) c6 := by
                  rcases hown2.2 with ⟨e1, -⟩ | ⟨g6, c6, cur6, e1, -⟩
                  · exact absurd (hne2.1 e1).1 (fun h => by cases h)
                  · exact ⟨g6, c6, e1⟩
                have E3 := z0L.grown hown2 hne2
                have D3 := D.grow hgrow2 (fun j hj => (z0L.ge hj).1)
                have L3 := L.first hm0 (by rw [hV0]; exact hgrow2) E3 (by simp; omega) (by rw [hV0]; exact hat2)
                have cc3 := L.slot hm0 (by rw [hV0]; exact hgrow2)
                have hgB := (L.ge (show _ = some gg from rfl)).1
                clear hown hown2 hgrow2 hne2 hat2 A9 L z0L D hkk
                clear hHeld
                refine hK'.out _ _ (Nat.zero_le _) (fun hHeld => ?_)
                clear hK' KK
                try simp only [List.setIfInBounds_toArray, List.set_cons_zero, List.set_cons_succ]
                refine wpAnyH_take (i := 11) (v := .pointer (some ⟨gg, 0, none⟩)) rfl (by kernel_rfl) (by kernel_rfl) (by kernel_rfl) (fun _ _ _ h => h) (Or.inl ⟨by kernel_rfl, ?_⟩) hHeld ?_
                · intro w' hSw; go_simp
                try simp only [Act.put, List.setIfInBounds_toArray, List.set_cons_zero, List.set_cons_succ, List.getElem_toArray, List.getElem_cons_succ, List.getElem_cons_zero]
                refine wpAnyH_ready (rs := [12]) (by kernel_rfl) (by simp) ?_
                refine AllReadyH.cons rfl (fun KK hK' => ?_) AllReadyH.nil
                obtain ⟨c30, c31⟩ := cc3
                go_simp
                obtain ⟨u7, hU, L5, D5⟩ : ∃ U, u6.setCell ⟨gg, 0, none⟩ (.slice (some ⟨gn, 0, none⟩) (z0.length + 1) cn) = U ∧ LL 40 U w.heap.size (.slice (some ⟨gg, 0, none⟩) m cc) m (upd V 0 (.slice (some ⟨gn, 0, none⟩) (z0.length + 1) cn)) ∧ Drn w U p a len cap := ⟨_, rfl, L3, D3.grow (grownSet _ _ _ _) (fun j hj => by cases hj; exact hgB)⟩
                rw [hU]
                clear hU
                clear hHeld
                refine hK'.out _ _ (Nat.zero_le _) (fun hHeld => ?_)
                clear hK' KK
                try simp only [List.setIfInBounds_toArray, List.set_cons_zero, List.set_cons_succ]
                refine wpAnyH_done (by kernel_rfl) ?_ _
                clear hHeld
                go_wp2_with fail
                go_meet
                case rel => exact ⟨_, L5, D5⟩
            · go_simp
              obtain ⟨u1, hUu1, tt, bb, -⟩ := boxed u0 2 #[.int .i64 63, .int .i64 64, .int .i64 0, .int .i64 (-1)]
              rw [hUu1]
              obtain ⟨q4, hq4⟩ : ∃ q, u0.heap.size = q := ⟨_, rfl⟩
              have hq4p : q4 ≠ p := by have := D.cur.lt; omega
              have hq4n : q0 ≠ q4 := by have := (z0L.ge (show _ = some q0 from rfl)).2; omega
              rw [hq4] at tt ⊢
              replace L := L.below bb
              replace z0L := z0L.below bb
              replace D := D.below bb
              clear bb hUu1 hq4
              clear hHeld
              refine hK'.out _ _ (Nat.zero_le _) (fun hHeld => ?_)
              clear hK' KK
              try simp only [List.setIfInBounds_toArray, List.set_cons_zero, List.set_cons_succ]
              refine wpAnyH_ready (rs := [3, 6]) (by kernel_rfl) (by simp) ?_
              refine AllReadyH.cons rfl (fun KK hK' => ?_) (AllReadyH.cons rfl (fun KK hK' => ?_) AllReadyH.nil)
              · obtain ⟨x0, -, -⟩ := cell0S L hm0
                rw [hV0] at x0
                go_simp
                clear x0
                clear hHeld
                refine hK'.out _ _ (Nat.zero_le _) (fun hHeld => ?_)
                clear hK' KK
                try simp only [List.setIfInBounds_toArray, List.set_cons_zero, List.set_cons_succ]
                refine wpAnyH_ready (rs := [6]) (by kernel_rfl) (by simp) ?_
                refine AllReadyH.cons rfl (fun KK hK' => ?_) AllReadyH.nil
                go_simp
                refine (below_dr D.st 4 (by omega) (by omega)).mono ?_
                rintro e u3 ⟨x4, rfl, x40, x41, hd⟩
                replace L := L.draw hd.1 D.pN
                replace z0L := z0L.draw hd.1 D.pN
                replace tt := atKeptS tt hd.1 hq4p
                replace D := D.draw hd
                clear hd
                try go_wp2_with fail
                clear hHeld
                refine hK'.out _ _ (Nat.zero_le _) (fun hHeld => ?_)
                clear hK' KK
                try simp only [List.setIfInBounds_toArray, List.set_cons_zero, List.set_cons_succ]
                refine wpAnyH_take (i := 7) (v := .pointer (some ⟨q4, x4.toNat, none⟩)) rfl (by kernel_rfl) (by kernel_rfl) (by kernel_rfl) (fun _ _ _ h => h) (Or.inl ⟨by kernel_rfl, ?_⟩) hHeld ?_
                · intro w' hSw; go_simp
                try simp only [Act.put, List.setIfInBounds_toArray, List.set_cons_zero, List.set_cons_succ, List.getElem_toArray, List.getElem_cons_succ, List.getElem_cons_zero]
                refine wpAnyH_ready (rs := [8]) (by kernel_rfl) (by simp) ?_
                refine AllReadyH.cons rfl (fun KK hK' => ?_) AllReadyH.nil
                obtain ⟨Y, hY⟩ : ∃ Y, u3.cell? ⟨q4, x4.toNat, none⟩ = some (.int .i64 Y) := tab4 tt x40 x41
                go_simp
                clear hY
                clear hHeld
                refine hK'.out _ _ (Nat.zero_le _) (fun hHeld => ?_)
                clear hK' KK
                try simp only [List.setIfInBounds_toArray, List.set_cons_zero, List.set_cons_succ]
                refine wpAnyH_ready (rs := [9]) (by kernel_rfl) (by simp) ?_
                refine AllReadyH.cons rfl (fun KK hK' => ?_) AllReadyH.nil
                go_simp
                obtain ⟨u5, hUu5, A9, bb, -⟩ := boxed u3 2 #[.int .i64 Y]
                rw [hUu5]
                obtain ⟨g9, hg9⟩ : ∃ g, u3.heap.size = g := ⟨_, rfl⟩
                rw [hg9] at A9 ⊢
                replace L := L.below bb
                replace z0L := z0L.below bb
                replace D := D.below bb
                clear bb hUu5 hg9 tt
                clear hHeld
                refine hK'.out _ _ (Nat.zero_le _) (fun hHeld => ?_)
                clear hK' KK
                try simp only [List.setIfInBounds_toArray, List.set_cons_zero, List.set_cons_succ]
                refine wpAnyH_ready (rs := [10]) (by kernel_rfl) (by simp) ?_
                refine AllReadyH.cons rfl (fun KK hK' => ?_) AllReadyH.nil
                have hown := z0L.own
                have hkk : w.heap.size ≤ u5.heap.size := D.kp.size
                refine step_append_at _ (by rfl) _ _ _ (by rfl) w.heap.size 2 i0 _ 1 8 Try.underlying25 hi0 hz0 hz1 hz2 rfl (by omega) (.slice (some ⟨q0, 0, none⟩) z0.length c0) z0.length (lCells z0) (by rfl) hown ⟨g9, 0, none⟩ 1 1 (lCells [Y]) (by rfl) (by rfl) (news1S A9) (lCells_one _) (by unfold maxLen; omega) (by omega) hkk ?_
                intro v2 u6 hown2 hgrow2 hne2 hat2
                obtain ⟨gn, cn, rfl⟩ : ∃ g6 c6, v2 = .slice (some ⟨g6, 0, none⟩) (z0.length + 1) c6 := by
                  rcases hown2.2 with ⟨e1, -⟩ | ⟨g6, c6, cur6, e1, -⟩
                  · exact absurd (hne2.1 e1).1 (fun h => by cases h)
                  · exact ⟨g6, c6, e1⟩
                have E3 := z0L.grown hown2 hne2
                have D3 := D.grow hgrow2 (fun j hj => (z0L.ge hj).1)
                have L3 := L.first hm0 (by rw [hV0]; exact hgrow2) E3 (by simp; omega) (by rw [hV0]; exact hat2)
                have cc3 := L.slot hm0 (by rw [hV0]; exact hgrow2)
                have hgB := (L.ge (show _ = some gg from rfl)).1
                clear hown hown2 hgrow2 hne2 hat2 A9 L z0L D hkk
                clear hHeld
                refine hK'.out _ _ (Nat.zero_le _) (fun hHeld => ?_)
                clear hK' KK
                try simp only [List.setIfInBounds_toArray, List.set_cons_zero, List.set_cons_succ]
                refine wpAnyH_take (i := 11) (v := .pointer (some ⟨gg, 0, none⟩)) rfl (by kernel_rfl) (by kernel_rfl) (by kernel_rfl) (fun _ _ _ h => h) (Or.inl ⟨by kernel_rfl, ?_⟩) hHeld ?_
                · intro w' hSw; go_simp
                try simp only [Act.put, List.setIfInBounds_toArray, List.set_cons_zero, List.set_cons_succ, List.getElem_toArray, List.getElem_cons_succ, List.getElem_cons_zero]
                refine wpAnyH_ready (rs := [12]) (by kernel_rfl) (by simp) ?_
                refine AllReadyH.cons rfl (fun KK hK' => ?_) AllReadyH.nil
                obtain ⟨c30, c31⟩ := cc3
                go_simp
                obtain ⟨u7, hU, L5, D5⟩ : ∃ U, u6.setCell ⟨gg, 0, none⟩ (.slice (some ⟨gn, 0, none⟩) (z0.length + 1) cn) = U ∧ LL 40 U w.heap.size (.slice (some ⟨gg, 0, none⟩) m cc) m (upd V 0 (.slice (some ⟨gn, 0, none⟩) (z0.length + 1) cn)) ∧ Drn w U p a len cap := ⟨_, rfl, L3, D3.grow (grownSet _ _ _ _) (fun j hj => by cases hj; exact hgB)⟩
                rw [hU]
                clear hU
                clear hHeld
                refine hK'.out _ _ (Nat.zero_le _) (fun hHeld => ?_)
                clear hK' KK
                try simp only [List.setIfInBounds_toArray, List.set_cons_zero, List.set_cons_succ]
                refine wpAnyH_done (by kernel_rfl) ?_ _
                clear hHeld
                go_wp2_with fail
                go_meet
                case rel => exact ⟨_, L5, D5⟩
              · go_simp
                refine (below_dr D.st 4 (by omega) (by omega)).mono ?_
                rintro e u2 ⟨x4, rfl, x40, x41, hd⟩
                replace L := L.draw hd.1 D.pN
                replace z0L := z0L.draw hd.1 D.pN
                replace tt := atKeptS tt hd.1 hq4p
                replace D := D.draw hd
                clear hd
                try go_wp2_with fail
                clear hHeld
                refine hK'.out _ _ (Nat.zero_le _) (fun hHeld => ?_)
                clear hK' KK
                try simp only [List.setIfInBounds_toArray, List.set_cons_zero, List.set_cons_succ]
                refine wpAnyH_take (i := 7) (v := .pointer (some ⟨q4, x4.toNat, none⟩)) rfl (by kernel_rfl) (by kernel_rfl) (by kernel_rfl) (fun _ _ _ h => h) (Or.inl ⟨by kernel_rfl, ?_⟩) hHeld ?_
                · intro w' hSw; go_simp
                try simp only [Act.put, List.setIfInBounds_toArray, List.set_cons_zero, List.set_cons_succ, List.getElem_toArray, List.getElem_cons_succ, List.getElem_cons_zero]
                refine wpAnyH_ready (rs := [3, 8]) (by kernel_rfl) (by simp) ?_
                refine AllReadyH.cons rfl (fun KK hK' => ?_) (AllReadyH.cons rfl (fun KK hK' => ?_) AllReadyH.nil)
                · obtain ⟨x0, -, -⟩ := cell0S L hm0
                  rw [hV0] at x0
                  go_simp
                  clear x0
                  clear hHeld
                  refine hK'.out _ _ (Nat.zero_le _) (fun hHeld => ?_)
                  clear hK' KK
                  try simp only [List.setIfInBounds_toArray, List.set_cons_zero, List.set_cons_succ]
                  refine wpAnyH_ready (rs := [8]) (by kernel_rfl) (by simp) ?_
                  refine AllReadyH.cons rfl (fun KK hK' => ?_) AllReadyH.nil
                  obtain ⟨Y, hY⟩ : ∃ Y, u2.cell? ⟨q4, x4.toNat, none⟩ = some (.int .i64 Y) := tab4 tt x40 x41
                  go_simp
                  clear hY
                  clear hHeld
                  refine hK'.out _ _ (Nat.zero_le _) (fun hHeld => ?_)
                  clear hK' KK
                  try simp only [List.setIfInBounds_toArray, List.set_cons_zero, List.set_cons_succ]
                  refine wpAnyH_ready (rs := [9]) (by kernel_rfl) (by simp) ?_
                  refine AllReadyH.cons rfl (fun KK hK' => ?_) AllReadyH.nil
                  go_simp
                  obtain ⟨u5, hUu5, A9, bb, -⟩ := boxed u2 2 #[.int .i64 Y]
                  rw [hUu5]
                  obtain ⟨g9, hg9⟩ : ∃ g, u2.heap.size = g := ⟨_, rfl⟩
                  rw [hg9] at A9 ⊢
                  replace L := L.below bb
                  replace z0L := z0L.below bb
                  replace D := D.below bb
                  clear bb hUu5 hg9 tt
                  clear hHeld
                  refine hK'.out _ _ (Nat.zero_le _) (fun hHeld => ?_)
                  clear hK' KK
                  try simp only [List.setIfInBounds_toArray, List.set_cons_zero, List.set_cons_succ]
                  refine wpAnyH_ready (rs := [10]) (by kernel_rfl) (by simp) ?_
                  refine AllReadyH.cons rfl (fun KK hK' => ?_) AllReadyH.nil
                  have hown := z0L.own
                  have hkk : w.heap.size ≤ u5.heap.size := D.kp.size
                  refine step_append_at _ (by rfl) _ _ _ (by rfl) w.heap.size 2 i0 _ 1 8 Try.underlying25 hi0 hz0 hz1 hz2 rfl (by omega) (.slice (some ⟨q0, 0, none⟩) z0.length c0) z0.length (lCells z0) (by rfl) hown ⟨g9, 0, none⟩ 1 1 (lCells [Y]) (by rfl) (by rfl) (news1S A9) (lCells_one _) (by unfold maxLen; omega) (by omega) hkk ?_
                  intro v2 u6 hown2 hgrow2 hne2 hat2
                  obtain ⟨gn, cn, rfl⟩ : ∃ g6 c6, v2 = .slice (some ⟨g6, 0, none⟩) (z0.length + 1) c6 := by
                    rcases hown2.2 with ⟨e1, -⟩ | ⟨g6, c6, cur6, e1, -⟩
                    · exact absurd (hne2.1 e1).1 (fun h => by cases h)
                    · exact ⟨g6, c6, e1⟩
                  have E3 := z0L.grown hown2 hne2
                  have D3 := D.grow hgrow2 (fun j hj => (z0L.ge hj).1)
                  have L3 := L.first hm0 (by rw [hV0]; exact hgrow2) E3 (by simp; omega) (by rw [hV0]; exact hat2)
                  have cc3 := L.slot hm0 (by rw [hV0]; exact hgrow2)
                  have hgB := (L.ge (show _ = some gg from rfl)).1
                  clear hown hown2 hgrow2 hne2 hat2 A9 L z0L D hkk
                  clear hHeld
                  refine hK'.out _ _ (Nat.zero_le _) (fun hHeld => ?_)
                  clear hK' KK
                  try simp only [List.setIfInBounds_toArray, List.set_cons_zero, List.set_cons_succ]
                  refine wpAnyH_take (i := 11) (v := .pointer (some ⟨gg, 0, none⟩)) rfl (by kernel_rfl) (by kernel_rfl) (by kernel_rfl) (fun _ _ _ h => h) (Or.inl ⟨by kernel_rfl, ?_⟩) hHeld ?_
                  · intro w' hSw; go_simp
                  try simp only [Act.put, List.setIfInBounds_toArray, List.set_cons_zero, List.set_cons_succ, List.getElem_toArray, List.getElem_cons_succ, List.getElem_cons_zero]
                  refine wpAnyH_ready (rs := [12]) (by kernel_rfl) (by simp) ?_
                  refine AllReadyH.cons rfl (fun KK hK' => ?_) AllReadyH.nil
                  obtain ⟨c30, c31⟩ := cc3
                  go_simp
                  obtain ⟨u7, hU, L5, D5⟩ : ∃ U, u6.setCell ⟨gg, 0, none⟩ (.slice (some ⟨gn, 0, none⟩) (z0.length + 1) cn) = U ∧ LL 40 U w.heap.size (.slice (some ⟨gg, 0, none⟩) m cc) m (upd V 0 (.slice (some ⟨gn, 0, none⟩) (z0.length + 1) cn)) ∧ Drn w U p a len cap := ⟨_, rfl, L3, D3.grow (grownSet _ _ _ _) (fun j hj => by cases hj; exact hgB)⟩
                  rw [hU]
                  clear hU
                  clear hHeld
                  refine hK'.out _ _ (Nat.zero_le _) (fun hHeld => ?_)
                  clear hK' KK
                  try simp only [List.setIfInBounds_toArray, List.set_cons_zero, List.set_cons_succ]
                  refine wpAnyH_done (by kernel_rfl) ?_ _
                  clear hHeld
                  go_wp2_with fail
                  go_meet
                  case rel => exact ⟨_, L5, D5⟩
                · obtain ⟨Y, hY⟩ : ∃ Y, u2.cell? ⟨q4, x4.toNat, none⟩ = some (.int .i64 Y) := tab4 tt x40 x41
                  go_simp
                  clear hY
                  clear hHeld
                  refine hK'.out _ _ (Nat.zero_le _) (fun hHeld => ?_)
                  clear hK' KK
                  try simp only [List.setIfInBounds_toArray, List.set_cons_zero, List.set_cons_succ]
                  refine wpAnyH_ready (rs := [3, 9]) (by kernel_rfl) (by simp) ?_
                  refine AllReadyH.cons rfl (fun KK hK' => ?_) (AllReadyH.cons rfl (fun KK hK' => ?_) AllReadyH.nil)
                  · obtain ⟨x0, -, -⟩ := cell0S L hm0
                    rw [hV0] at x0
                    go_simp
                    clear x0
                    clear hHeld
                    refine hK'.out _ _ (Nat.zero_le _) (fun hHeld => ?_)
                    clear hK' KK
                    try simp only [List.setIfInBounds_toArray, List.set_cons_zero, List.set_cons_succ]
                    refine wpAnyH_ready (rs := [9]) (by kernel_rfl) (by simp) ?_
                    refine AllReadyH.cons rfl (fun KK hK' => ?_) AllReadyH.nil
                    go_simp
                    obtain ⟨u5, hUu5, A9, bb, -⟩ := boxed u2 2 #[.int .i64 Y]
                    rw [hUu5]
                    obtain ⟨g9, hg9⟩ : ∃ g, u2.heap.size = g := ⟨_, rfl⟩
                    rw [hg9] at A9 ⊢
                    replace L := L.below bb
                    replace z0L := z0L.below bb
                    replace D := D.below bb
                    clear bb hUu5 hg9 tt
                    clear hHeld
                    refine hK'.out _ _ (Nat.zero_le _) (fun hHeld => ?_)
                    clear hK' KK
                    try simp only [List.setIfInBounds_toArray, List.set_cons_zero, List.set_cons_succ]
                    refine wpAnyH_ready (rs := [10]) (by kernel_rfl) (by simp) ?_
                    refine AllReadyH.cons rfl (fun KK hK' => ?_) AllReadyH.nil
                    have hown := z0L.own
                    have hkk : w.heap.size ≤ u5.heap.size := D.kp.size
                    refine step_append_at _ (by rfl) _ _ _ (by rfl) w.heap.size 2 i0 _ 1 8 Try.underlying25 hi0 hz0 hz1 hz2 rfl (by omega) (.slice (some ⟨q0, 0, none⟩) z0.length c0) z0.length (lCells z0) (by rfl) hown ⟨g9, 0, none⟩ 1 1 (lCells [Y]) (by rfl) (by rfl) (news1S A9) (lCells_one _) (by unfold maxLen; omega) (by omega) hkk ?_
                    intro v2 u6 hown2 hgrow2 hne2 hat2
                    obtain ⟨gn, cn, rfl⟩ : ∃ g6 c6, v2 = .slice (some ⟨g6, 0, none⟩) (z0.length + 1) c6 := by
                      rcases hown2.2 with ⟨e1, -⟩ | ⟨g6, c6, cur6, e1, -⟩
                      · exact absurd (hne2.1 e1).1 (fun h => by cases h)
                      · exact ⟨g6, c6, e1⟩
                    have E3 := z0L.grown hown2 hne2
                    have D3 := D.grow hgrow2 (fun j hj => (z0L.ge hj).1)
                    have L3 := L.first hm0 (by rw [hV0]; exact hgrow2) E3 (by simp; omega) (by rw [hV0]; exact hat2)
                    have cc3 := L.slot hm0 (by rw [hV0]; exact hgrow2)
                    have hgB := (L.ge (show _ = some gg from rfl)).1
                    clear hown hown2 hgrow2 hne2 hat2 A9 L z0L D hkk
                    clear hHeld
                    refine hK'.out _ _ (Nat.zero_le _) (fun hHeld => ?_)
                    clear hK' KK
                    try simp only [List.setIfInBounds_toArray, List.set_cons_zero, List.set_cons_succ]
                    refine wpAnyH_take (i := 11) (v := .pointer (some ⟨gg, 0, none⟩)) rfl (by kernel_rfl) (by kernel_rfl) (by kernel_rfl) (fun _ _ _ h => h) (Or.inl ⟨by kernel_rfl, ?_⟩) hHeld ?_
                    · intro w' hSw; go_simp
                    try simp only [Act.put, List.setIfInBounds_toArray, List.set_cons_zero, List.set_cons_succ, List.getElem_toArray, List.getElem_cons_succ, List.getElem_cons_zero]
                    refine wpAnyH_ready (rs := [12]) (by kernel_rfl) (by simp) ?_
                    refine AllReadyH.cons rfl (fun KK hK' => ?_) AllReadyH.nil
                    obtain ⟨c30, c31⟩ := cc3
                    go_simp
                    obtain ⟨u7, hU, L5, D5⟩ : ∃ U, u6.setCell ⟨gg, 0, none⟩ (.slice (some ⟨gn, 0, none⟩) (z0.length + 1) cn) = U ∧ LL 40 U w.heap.size (.slice (some ⟨gg, 0, none⟩) m cc) m (upd V 0 (.slice (some ⟨gn, 0, none⟩) (z0.length + 1) cn)) ∧ Drn w U p a len cap := ⟨_, rfl, L3, D3.grow (grownSet _ _ _ _) (fun j hj => by cases hj; exact hgB)⟩
                    rw [hU]
                    clear hU
                    clear hHeld
                    refine hK'.out _ _ (Nat.zero_le _) (fun hHeld => ?_)
                    clear hK' KK
                    try simp only [List.setIfInBounds_toArray, List.set_cons_zero, List.set_cons_succ]
                    refine wpAnyH_done (by kernel_rfl) ?_ _
                    clear hHeld
                    go_wp2_with fail
                    go_meet
                    case rel => exact ⟨_, L5, D5⟩
                  · go_simp
                    obtain ⟨u4, hUu4, A9, bb, -⟩ := boxed u2 2 #[.int .i64 Y]
                    rw [hUu4]
                    obtain ⟨g9, hg9⟩ : ∃ g, u2.heap.size = g := ⟨_, rfl⟩
                    rw [hg9] at A9 ⊢
                    replace L := L.below bb
                    replace z0L := z0L.below bb
                    replace D := D.below bb
                    clear bb hUu4 hg9 tt
                    clear hHeld
                    refine hK'.out _ _ (Nat.zero_le _) (fun hHeld => ?_)
                    clear hK' KK
                    try simp only [List.setIfInBounds_toArray, List.set_cons_zero, List.set_cons_succ]
                    refine wpAnyH_ready (rs := [3]) (by kernel_rfl) (by simp) ?_
                    refine AllReadyH.cons rfl (fun KK hK' => ?_) AllReadyH.nil
                    obtain ⟨x0, -, -⟩ := cell0S L hm0
                    rw [hV0] at x0
                    go_simp
                    clear x0
                    clear hHeld
                    refine hK'.out _ _ (Nat.zero_le _) (fun hHeld => ?_)
                    clear hK' KK
                    try simp only [List.setIfInBounds_toArray, List.set_cons_zero, List.set_cons_succ]
                    refine wpAnyH_ready (rs := [10]) (by kernel_rfl) (by simp) ?_
                    refine AllReadyH.cons rfl (fun KK hK' => ?_) AllReadyH.nil
                    have hown := z0L.own
                    have hkk : w.heap.size ≤ u4.heap.size := D.kp.size
                    refine step_append_at _ (by rfl) _ _ _ (by rfl) w.heap.size 2 i0 _ 1 8 Try.underlying25 hi0 hz0 hz1 hz2 rfl (by omega) (.slice (some ⟨q0, 0, none⟩) z0.length c0) z0.length (lCells z0) (by rfl) hown ⟨g9, 0, none⟩ 1 1 (lCells [Y]) (by rfl) (by rfl) (news1S A9) (lCells_one _) (by unfold maxLen; omega) (by omega) hkk ?_
                    intro v2 u6 hown2 hgrow2 hne2 hat2
                    obtain ⟨gn, cn, rfl⟩ : ∃ g6 c6, v2 = .slice (some ⟨g6, 0, none⟩) (z0.length + 1) c6 := by
                      rcases hown2.2 with ⟨e1, -⟩ | ⟨g6, c6, cur6, e1, -⟩
                      · exact absurd (hne2.1 e1).1 (fun h => by cases h)
                      · exact ⟨g6, c6, e1⟩
                    have E3 := z0L.grown hown2 hne2
                    have D3 := D.grow hgrow2 (fun j hj => (z0L.ge hj).1)
                    have L3 := L.first hm0 (by rw [hV0]; exact hgrow2) E3 (by simp; omega) (by rw [hV0]; exact hat2)
                    have cc3 := L.slot hm0 (by rw [hV0]; exact hgrow2)
                    have hgB := (L.ge (show _ = some gg from rfl)).1
                    clear hown hown2 hgrow2 hne2 hat2 A9 L z0L D hkk
                    clear hHeld
                    refine hK'.out _ _ (Nat.zero_le _) (fun hHeld => ?_)
                    clear hK' KK
                    try simp only [List.setIfInBounds_toArray, List.set_cons_zero, List.set_cons_succ]
                    refine wpAnyH_take (i := 11) (v := .pointer (some ⟨gg, 0, none⟩)) rfl (by kernel_rfl) (by kernel_rfl) (by kernel_rfl) (fun _ _ _ h => h) (Or.inl ⟨by kernel_rfl, ?_⟩) hHeld ?_
                    · intro w' hSw; go_simp
                    try simp only [Act.put, List.setIfInBounds_toArray, List.set_cons_zero, List.set_cons_succ, List.getElem_toArray, List.getElem_cons_succ, List.getElem_cons_zero]
                    refine wpAnyH_ready (rs := [12]) (by kernel_rfl) (by simp) ?_
                    refine AllReadyH.cons rfl (fun KK hK' => ?_) AllReadyH.nil
                    obtain ⟨c30, c31⟩ := cc3
                    go_simp
                    obtain ⟨u7, hU, L5, D5⟩ : ∃ U, u6.setCell ⟨gg, 0, none⟩ (.slice (some ⟨gn, 0, none⟩) (z0.length + 1) cn) = U ∧ LL 40 U w.heap.size (.slice (some ⟨gg, 0, none⟩) m cc) m (upd V 0 (.slice (some ⟨gn, 0, none⟩) (z0.length + 1) cn)) ∧ Drn w U p a len cap := ⟨_, rfl, L3, D3.grow (grownSet _ _ _ _) (fun j hj => by cases hj; exact hgB)⟩
                    rw [hU]
                    clear hU
                    clear hHeld
                    refine hK'.out _ _ (Nat.zero_le _) (fun hHeld => ?_)
                    clear hK' KK
                    try simp only [List.setIfInBounds_toArray, List.set_cons_zero, List.set_cons_succ]
                    refine wpAnyH_done (by kernel_rfl) ?_ _
                    clear hHeld
                    go_wp2_with fail
                    go_meet
                    case rel => exact ⟨_, L5, D5⟩
            · go_simp
              refine (below_dr D.st 4 (by omega) (by omega)).mono ?_
              rintro e u1 ⟨x4, rfl, x40, x41, hd⟩
              replace L := L.draw hd.1 D.pN
              replace z0L := z0L.draw hd.1 D.pN
              replace D := D.draw hd
              clear hd
              try go_wp2_with fail
              clear hHeld
              refine hK'.out _ _ (Nat.zero_le _) (fun hHeld => ?_)
              clear hK' KK
              try simp only [List.setIfInBounds_toArray, List.set_cons_zero, List.set_cons_succ]
              refine wpAnyH_ready (rs := [3, 4]) (by kernel_rfl) (by simp) ?_
              refine AllReadyH.cons rfl (fun KK hK' => ?_) (AllReadyH.cons rfl (fun KK hK' => ?_) AllReadyH.nil)
              · obtain ⟨x0, -, -⟩ := cell0S L hm0
                rw [hV0] at x0
                go_simp
                clear x0
                clear hHeld
                refine hK'.out _ _ (Nat.zero_le _) (fun hHeld => ?_)
                clear hK' KK
                try simp only [List.setIfInBounds_toArray, List.set_cons_zero, List.set_cons_succ]
                refine wpAnyH_ready (rs := [4]) (by kernel_rfl) (by simp) ?_
                refine AllReadyH.cons rfl (fun KK hK' => ?_) AllReadyH.nil
                go_simp
                obtain ⟨u3, hUu3, tt, bb, -⟩ := boxed u1 2 #[.int .i64 63, .int .i64 64, .int .i64 0, .int .i64 (-1)]
                rw [hUu3]
                obtain ⟨q4, hq4⟩ : ∃ q, u1.heap.size = q := ⟨_, rfl⟩
                have hq4p : q4 ≠ p := by have := D.cur.lt; omega
                have hq4n : q0 ≠ q4 := by have := (z0L.ge (show _ = some q0 from rfl)).2; omega
                rw [hq4] at tt ⊢
                replace L := L.below bb
                replace z0L := z0L.below bb
                replace D := D.below bb
                clear bb hUu3 hq4
                clear hHeld
                refine hK'.out _ _ (Nat.zero_le _) (fun hHeld => ?_)
                clear hK' KK
                try simp only [List.setIfInBounds_toArray, List.set_cons_zero, List.set_cons_succ]
                refine wpAnyH_take (i := 7) (v := .pointer (some ⟨q4, x4.toNat, none⟩)) rfl (by kernel_rfl) (by kernel_rfl) (by kernel_rfl) (fun _ _ _ h => h) (Or.inl ⟨by kernel_rfl, ?_⟩) hHeld ?_
                · intro w' hSw; go_simp
                try simp only [Act.put, List.setIfInBounds_toArray, List.set_cons_zero, List.set_cons_succ, List.getElem_toArray, List.getElem_cons_succ, List.getElem_cons_zero]
                refine wpAnyH_ready (rs := [8]) (by kernel_rfl) (by simp) ?_
                refine AllReadyH.cons rfl (fun KK hK' => ?_) AllReadyH.nil
                obtain ⟨Y, hY⟩ : ∃ Y, u3.cell? ⟨q4, x4.toNat, none⟩ = some (.int .i64 Y) := tab4 tt x40 x41
                go_simp
                clear hY
                clear hHeld
                refine hK'.out _ _ (Nat.zero_le _) (fun hHeld => ?_)
                clear hK' KK
                try simp only [List.setIfInBounds_toArray, List.set_cons_zero, List.set_cons_succ]
                refine wpAnyH_ready (rs := [9]) (by kernel_rfl) (by simp) ?_
                refine AllReadyH.cons rfl (fun KK hK' => ?_) AllReadyH.nil
                go_simp
                obtain ⟨u5, hUu5, A9, bb, -⟩ := boxed u3 2 #[.int .i64 Y]
                rw [hUu5]
                obtain ⟨g9, hg9⟩ : ∃ g, u3.heap.size = g := ⟨_, rfl⟩
                rw [hg9] at A9 ⊢
                replace L := L.below bb
                replace z0L := z0L.below bb
                replace D := D.below bb
                clear bb hUu5 hg9 tt
                clear hHeld
                refine hK'.out _ _ (Nat.zero_le _) (fun hHeld => ?_)
                clear hK' KK
                try simp only [List.setIfInBounds_toArray, List.set_cons_zero, List.set_cons_succ]
                refine wpAnyH_ready (rs := [10]) (by kernel_rfl) (by simp) ?_
                refine AllReadyH.cons rfl (fun KK hK' => ?_) AllReadyH.nil
                have hown := z0L.own
                have hkk : w.heap.size ≤ u5.heap.size := D.kp.size
                refine step_append_at _ (by rfl) _ _ _ (by rfl) w.heap.size 2 i0 _ 1 8 Try.underlying25 hi0 hz0 hz1 hz2 rfl (by omega) (.slice (some ⟨q0, 0, none⟩) z0.length c0) z0.length (lCells z0) (by rfl) hown ⟨g9, 0, none⟩ 1 1 (lCells [Y]) (by rfl) (by rfl) (news1S A9) (lCells_one _) (by unfold maxLen; omega) (by omega) hkk ?_
                intro v2 u6 hown2 hgrow2 hne2 hat2
                obtain ⟨gn, cn, rfl⟩ : ∃ g6 c6, v2 = .slice (some ⟨g6, 0, none⟩) (z0.length + 1) c6 := by
                  rcases hown2.2 with ⟨e1, -⟩ | ⟨g6, c6, cur6, e1, -⟩
                  · exact absurd (hne2.1 e1).1 (fun h => by cases h)
                  · exact ⟨g6, c6, e1⟩
                have E3 := z0L.grown hown2 hne2
                have D3 := D.grow hgrow2 (fun j hj => (z0L.ge hj).1)
                have L3 := L.first hm0 (by rw [hV0]; exact hgrow2) E3 (by simp; omega) (by rw [hV0]; exact hat2)
                have cc3 := L.slot hm0 (by rw [hV0]; exact hgrow2)
                have hgB := (L.ge (show _ = some gg from rfl)).1
                clear hown hown2 hgrow2 hne2 hat2 A9 L z0L D hkk
                clear hHeld
                refine hK'.out _ _ (Nat.zero_le _) (fun hHeld => ?_)
                clear hK' KK
                try simp only [List.setIfInBounds_toArray, List.set_cons_zero, List.set_cons_succ]
                refine wpAnyH_take (i := 11) (v := .pointer (some ⟨gg, 0, none⟩)) rfl (by kernel_rfl) (by kernel_rfl) (by kernel_rfl) (fun _ _ _ h => h) (Or.inl ⟨by kernel_rfl, ?_⟩) hHeld ?_
                · intro w' hSw; go_simp
                try simp only [Act.put, List.setIfInBounds_toArray, List.set_cons_zero, List.set_cons_succ, List.getElem_toArray, List.getElem_cons_succ, List.getElem_cons_zero]
                refine wpAnyH_ready (rs := [12]) (by kernel_rfl) (by simp) ?_
                refine AllReadyH.cons rfl (fun KK hK' => ?_) AllReadyH.nil
                obtain ⟨c30, c31⟩ := cc3
                go_simp
                obtain ⟨u7, hU, L5, D5⟩ : ∃ U, u6.setCell ⟨gg, 0, none⟩ (.slice (some ⟨gn, 0, none⟩) (z0.length + 1) cn) = U ∧ LL 40 U w.heap.size (.slice (some ⟨gg, 0, none⟩) m cc) m (upd V 0 (.slice (some ⟨gn, 0, none⟩) (z0.length + 1) cn)) ∧ Drn w U p a len cap := ⟨_, rfl, L3, D3.grow (grownSet _ _ _ _) (fun j hj => by cases hj; exact hgB)⟩
                rw [hU]
                clear hU
                clear hHeld
                refine hK'.out _ _ (Nat.zero_le _) (fun hHeld => ?_)
                clear hK' KK
                try simp only [List.setIfInBounds_toArray, List.set_cons_zero, List.set_cons_succ]
                refine wpAnyH_done (by kernel_rfl) ?_ _
                clear hHeld
                go_wp2_with fail
                go_meet
                case rel => exact ⟨_, L5, D5⟩
              · go_simp
                obtain ⟨u2, hUu2, tt, bb, -⟩ := boxed u1 2 #[.int .i64 63, .int .i64 64, .int .i64 0, .int .i64 (-1)]
                rw [hUu2]
                obtain ⟨q4, hq4⟩ : ∃ q, u1.heap.size = q := ⟨_, rfl⟩
                have hq4p : q4 ≠ p := by have := D.cur.lt; omega
                have hq4n : q0 ≠ q4 := by have := (z0L.ge (show _ = some q0 from rfl)).2; omega
                rw [hq4] at tt ⊢
                replace L := L.below bb
                replace z0L := z0L.below bb
                replace D := D.below bb
                clear bb hUu2 hq4
                clear hHeld
                refine hK'.out _ _ (Nat.zero_le _) (fun hHeld => ?_)
                clear hK' KK
                try simp only [List.setIfInBounds_toArray, List.set_cons_zero, List.set_cons_succ]
                refine wpAnyH_take (i := 7) (v := .pointer (some ⟨q4, x4.toNat, none⟩)) rfl (by kernel_rfl) (by kernel_rfl) (by kernel_rfl) (fun _ _ _ h => h) (Or.inl ⟨by kernel_rfl, ?_⟩) hHeld ?_
                · intro w' hSw; go_simp
                try simp only [Act.put, List.setIfInBounds_toArray, List.set_cons_zero, List.set_cons_succ, List.getElem_toArray, List.getElem_cons_succ, List.getElem_cons_zero]
                refine wpAnyH_ready (rs := [3, 8]) (by kernel_rfl) (by simp) ?_
                refine AllReadyH.cons rfl (fun KK hK' => ?_) (AllReadyH.cons rfl (fun KK hK' => ?_) AllReadyH.nil)
                · obtain ⟨x0, -, -⟩ := cell0S L hm0
                  rw [hV0] at x0
                  go_simp
                  clear x0
                  clear hHeld
                  refine hK'.out _ _ (Nat.zero_le _) (fun hHeld => ?_)
                  clear hK' KK
                  try simp only [List.setIfInBounds_toArray, List.set_cons_zero, List.set_cons_succ]
                  refine wpAnyH_ready (rs := [8]) (by kernel_rfl) (by simp) ?_
                  refine AllReadyH.cons rfl (fun KK hK' => ?_) AllReadyH.nil
                  obtain ⟨Y, hY⟩ : ∃ Y, u2.cell? ⟨q4, x4.toNat, none⟩ = some (.int .i64 Y) := tab4 tt x40 x41
                  go_simp
                  clear hY
                  clear hHeld
                  refine hK'.out _ _ (Nat.zero_le _) (fun hHeld => ?_)
                  clear hK' KK
                  try simp only [List.setIfInBounds_toArray, List.set_cons_zero, List.set_cons_succ]
                  refine wpAnyH_ready (rs := [9]) (by kernel_rfl) (by simp) ?_
                  refine AllReadyH.cons rfl (fun KK hK' => ?_) AllReadyH.nil
                  go_simp
                  obtain ⟨u5, hUu5, A9, bb, -⟩ := boxed u2 2 #[.int .i64 Y]
                  rw [hUu5]
                  obtain ⟨g9, hg9⟩ : ∃ g, u2.heap.size = g := ⟨_, rfl⟩
                  rw [hg9] at A9 ⊢
                  replace L := L.below bb
                  replace z0L := z0L.below bb
                  replace D := D.below bb
                  clear bb hUu5 hg9 tt
                  clear hHeld
                  refine hK'.out _ _ (Nat.zero_le _) (fun hHeld => ?_)
                  clear hK' KK
                  try simp only [List.setIfInBounds_toArray, List.set_cons_zero, List.set_cons_succ]
                  refine wpAnyH_ready (rs := [10]) (by kernel_rfl) (by simp) ?_
                  refine AllReadyH.cons rfl (fun KK hK' => ?_) AllReadyH.nil
                  have hown := z0L.own
                  have hkk : w.heap.size ≤ u5.heap.size := D.kp.size
                  refine step_append_at _ (by rfl) _ _ _ (by rfl) w.heap.size 2 i0 _ 1 8 Try.underlying25 hi0 hz0 hz1 hz2 rfl (by omega) (.slice (some ⟨q0, 0, none⟩) z0.length c0) z0.length (lCells z0) (by rfl) hown ⟨g9, 0, none⟩ 1 1 (lCells [Y]) (by rfl) (by rfl) (news1S A9) (lCells_one _) (by unfold maxLen; omega) (by omega) hkk ?_
                  intro v2 u6 hown2 hgrow2 hne2 hat2
                  obtain ⟨gn, cn, rfl⟩ : ∃ g6 c6, v2 = .slice (some ⟨g6, 0, none⟩) (z0.length + 1) c6 := by
                    rcases hown2.2 with ⟨e1, -⟩ | ⟨g6, c6, cur6, e1, -⟩
                    · exact absurd (hne2.1 e1).1 (fun h => by cases h)
                    · exact ⟨g6, c6, e1⟩
                  have E3 := z0L.grown hown2 hne2
                  have D3 := D.grow hgrow2 (fun j hj => (z0L.ge hj).1)
                  have L3 := L.first hm0 (by rw [hV0]; exact hgrow2) E3 (by simp; omega) (by rw [hV0]; exact hat2)
                  have cc3 := L.slot hm0 (by rw [hV0]; exact hgrow2)
                  have hgB := (L.ge (show _ = some gg from rfl)).1
                  clear hown hown2 hgrow2 hne2 hat2 A9 L z0L D hkk
                  clear hHeld
                  refine hK'.out _ _ (Nat.zero_le _) (fun hHeld => ?_)
                  clear hK' KK
                  try simp only [List.setIfInBounds_toArray, List.set_cons_zero, List.set_cons_succ]
                  refine wpAnyH_take (i := 11) (v := .pointer (some ⟨gg, 0, none⟩)) rfl (by kernel_rfl) (by kernel_rfl) (by kernel_rfl) (fun _ _ _ h => h) (Or.inl ⟨by kernel_rfl, ?_⟩) hHeld ?_
                  · intro w' hSw; go_simp
                  try simp only [Act.put, List.setIfInBounds_toArray, List.set_cons_zero, List.set_cons_succ, List.getElem_toArray, List.getElem_cons_succ, List.getElem_cons_zero]
                  refine wpAnyH_ready (rs := [12]) (by kernel_rfl) (by simp) ?_
                  refine AllReadyH.cons rfl (fun KK hK' => ?_) AllReadyH.nil
                  obtain ⟨c30, c31⟩ := cc3
                  go_simp
                  obtain ⟨u7, hU, L5, D5⟩ : ∃ U, u6.setCell ⟨gg, 0, none⟩ (.slice (some ⟨gn, 0, none⟩) (z0.length + 1) cn) = U ∧ LL 40 U w.heap.size (.slice (some ⟨gg, 0, none⟩) m cc) m (upd V 0 (.slice (some ⟨gn, 0, none⟩) (z0.length + 1) cn)) ∧ Drn w U p a len cap := ⟨_, rfl, L3, D3.grow (grownSet _ _ _ _) (fun j hj => by cases hj; exact hgB)⟩
                  rw [hU]
                  clear hU
                  clear hHeld
                  refine hK'.out _ _ (Nat.zero_le _) (fun hHeld => ?_)
                  clear hK' KK
                  try simp only [List.setIfInBounds_toArray, List.set_cons_zero, List.set_cons_succ]
                  refine wpAnyH_done (by kernel_rfl) ?_ _
                  clear hHeld
                  go_wp2_with fail
                  go_meet
                  case rel => exact ⟨_, L5, D5⟩
                · obtain ⟨Y, hY⟩ : ∃ Y, u2.cell? ⟨q4, x4.toNat, none⟩ = some (.int .i64 Y) := tab4 tt x40 x41
                  go_simp
                  clear hY
                  clear hHeld
                  refine hK'.out _ _ (Nat.zero_le _) (fun hHeld => ?_)
                  clear hK' KK
                  try simp only [List.setIfInBounds_toArray, List.set_cons_zero, List.set_cons_succ]
                  refine wpAnyH_ready (rs := [3, 9]) (by kernel_rfl) (by simp) ?_
                  refine AllReadyH.cons rfl (fun KK hK' => ?_) (AllReadyH.cons rfl (fun KK hK' => ?_) AllReadyH.nil)
                  · obtain ⟨x0, -, -⟩ := cell0S L hm0
                    rw [hV0] at x0
                    go_simp
                    clear x0
                    clear hHeld
                    refine hK'.out _ _ (Nat.zero_le _) (fun hHeld => ?_)
                    clear hK' KK
                    try simp only [List.setIfInBounds_toArray, List.set_cons_zero, List.set_cons_succ]
                    refine wpAnyH_ready (rs := [9]) (by kernel_rfl) (by simp) ?_
                    refine AllReadyH.cons rfl (fun KK hK' => ?_) AllReadyH.nil
                    go_simp
                    obtain ⟨u5, hUu5, A9, bb, -⟩ := boxed u2 2 #[.int .i64 Y]
                    rw [hUu5]
                    obtain ⟨g9, hg9⟩ : ∃ g, u2.heap.size = g := ⟨_, rfl⟩
                    rw [hg9] at A9 ⊢
                    replace L := L.below bb
                    replace z0L := z0L.below bb
                    replace D := D.below bb
                    clear bb hUu5 hg9 tt
                    clear hHeld
                    refine hK'.out _ _ (Nat.zero_le _) (fun hHeld => ?_)
                    clear hK' KK
                    try simp only [List.setIfInBounds_toArray, List.set_cons_zero, List.set_cons_succ]
                    refine wpAnyH_ready (rs := [10]) (by kernel_rfl) (by simp) ?_
                    refine AllReadyH.cons rfl (fun KK hK' => ?_) AllReadyH.nil
                    have hown := z0L.own
                    have hkk : w.heap.size ≤ u5.heap.size := D.kp.size
                    refine step_append_at _ (by rfl) _ _ _ (by rfl) w.heap.size 2 i0 _ 1 8 Try.underlying25 hi0 hz0 hz1 hz2 rfl (by omega) (.slice (some ⟨q0, 0, none⟩) z0.length c0) z0.length (lCells z0) (by rfl) hown ⟨g9, 0, none⟩ 1 1 (lCells [Y]) (by rfl) (by rfl) (news1S A9) (lCells_one _) (by unfold maxLen; omega) (by omega) hkk ?_
                    intro v2 u6 hown2 hgrow2 hne2 hat2
                    obtain ⟨gn, cn, rfl⟩ : ∃ g6 c6, v2 = .slice (some ⟨g6, 0, none⟩) (z0.length + 1) c6 := by
                      rcases hown2.2 with ⟨e1, -⟩ | ⟨g6, c6, cur6, e1, -⟩
                      · exact absurd (hne2.1 e1).1 (fun h => by cases h)
                      · exact ⟨g6, c6, e1⟩
                    have E3 := z0L.grown hown2 hne2
                    have D3 := D.grow hgrow2 (fun j hj => (z0L.ge hj).1)
                    have L3 := L.first hm0 (by rw [hV0]; exact hgrow2) E3 (by simp; omega) (by rw [hV0]; exact hat2)
                    have cc3 := L.slot hm0 (by rw [hV0]; exact hgrow2)
                    have hgB := (L.ge (show _ = some gg from rfl)).1
                    clear hown hown2 hgrow2 hne2 hat2 A9 L z0L D hkk
                    clear hHeld
                    refine hK'.out _ _ (Nat.zero_le _) (fun hHeld => ?_)
                    clear hK' KK
                    try simp only [List.setIfInBounds_toArray, List.set_cons_zero, List.set_cons_succ]
                    refine wpAnyH_take (i := 11) (v := .pointer (some ⟨gg, 0, none⟩)) rfl (by kernel_rfl) (by kernel_rfl) (by kernel_rfl) (fun _ _ _ h => h) (Or.inl ⟨by kernel_rfl, ?_⟩) hHeld ?_
                    · intro w' hSw; go_simp
                    try simp only [Act.put, List.setIfInBounds_toArray, List.set_cons_zero, List.set_cons_succ, List.getElem_toArray, List.getElem_cons_succ, List.getElem_cons_zero]
                    refine wpAnyH_ready (rs := [12]) (by kernel_rfl) (by simp) ?_
                    refine AllReadyH.cons rfl (fun KK hK' => ?_) AllReadyH.nil
                    obtain ⟨c30, c31⟩ := cc3
                    go_simp
                    obtain ⟨u7, hU, L5, D5⟩ : ∃ U, u6.setCell ⟨gg, 0, none⟩ (.slice (some ⟨gn, 0, none⟩) (z0.length + 1) cn) = U ∧ LL 40 U w.heap.size (.slice (some ⟨gg, 0, none⟩) m cc) m (upd V 0 (.slice (some ⟨gn, 0, none⟩) (z0.length + 1) cn)) ∧ Drn w U p a len cap := ⟨_, rfl, L3, D3.grow (grownSet _ _ _ _) (fun j hj => by cases hj; exact hgB)⟩
                    rw [hU]
                    clear hU
                    clear hHeld
                    refine hK'.out _ _ (Nat.zero_le _) (fun hHeld => ?_)
                    clear hK' KK
                    try simp only [List.setIfInBounds_toArray, List.set_cons_zero, List.set_cons_succ]
                    refine wpAnyH_done (by kernel_rfl) ?_ _
                    clear hHeld
                    go_wp2_with fail
                    go_meet
                    case rel => exact ⟨_, L5, D5⟩
                  · go_simp
                    obtain ⟨u4, hUu4, A9, bb, -⟩ := boxed u2 2 #[.int .i64 Y]
                    rw [hUu4]
                    obtain ⟨g9, hg9⟩ : ∃ g, u2.heap.size = g := ⟨_, rfl⟩
                    rw [hg9] at A9 ⊢
                    replace L := L.below bb
                    replace z0L := z0L.below bb
                    replace D := D.below bb
                    clear bb hUu4 hg9 tt
                    clear hHeld
                    refine hK'.out _ _ (Nat.zero_le _) (fun hHeld => ?_)
                    clear hK' KK
                    try simp only [List.setIfInBounds_toArray, List.set_cons_zero, List.set_cons_succ]
                    refine wpAnyH_ready (rs := [3]) (by kernel_rfl) (by simp) ?_
                    refine AllReadyH.cons rfl (fun KK hK' => ?_) AllReadyH.nil
                    obtain ⟨x0, -, -⟩ := cell0S L hm0
                    rw [hV0] at x0
                    go_simp
                    clear x0
                    clear hHeld
                    refine hK'.out _ _ (Nat.zero_le _) (fun hHeld => ?_)
                    clear hK' KK
                    try simp only [List.setIfInBounds_toArray, List.set_cons_zero, List.set_cons_succ]
                    refine wpAnyH_ready (rs := [10]) (by kernel_rfl) (by simp) ?_
                    refine AllReadyH.cons rfl (fun KK hK' => ?_) AllReadyH.nil
                    have hown := z0L.own
                    have hkk : w.heap.size ≤ u4.heap.size := D.kp.size
                    refine step_append_at _ (by rfl) _ _ _ (by rfl) w.heap.size 2 i0 _ 1 8 Try.underlying25 hi0 hz0 hz1 hz2 rfl (by omega) (.slice (some ⟨q0, 0, none⟩) z0.length c0) z0.length (lCells z0) (by rfl) hown ⟨g9, 0, none⟩ 1 1 (lCells [Y]) (by rfl) (by rfl) (news1S A9) (lCells_one _) (by unfold maxLen; omega) (by omega) hkk ?_
                    intro v2 u6 hown2 hgrow2 hne2 hat2
                    obtain ⟨gn, cn, rfl⟩ : ∃ g6 c6, v2 = .slice (some ⟨g6, 0, none⟩) (z0.length + 1) c6 := by
                      rcases hown2.2 with ⟨e1, -⟩ | ⟨g6, c6, cur6, e1, -⟩
                      · exact absurd (hne2.1 e1).1 (fun h => by cases h)
                      · exact ⟨g6, c6, e1⟩
                    have E3 := z0L.grown hown2 hne2
                    have D3 := D.grow hgrow2 (fun j hj => (z0L.ge hj).1)
                    have L3 := L.first hm0 (by rw [hV0]; exact hgrow2) E3 (by simp; omega) (by rw [hV0]; exact hat2)
                    have cc3 := L.slot hm0 (by rw [hV0]; exact hgrow2)
                    have hgB := (L.ge (show _ = some gg from rfl)).1
                    clear hown hown2 hgrow2 hne2 hat2 A9 L z0L D hkk
                    clear hHeld
                    refine hK'.out _ _ (Nat.zero_le _) (fun hHeld => ?_)
                    clear hK' KK
                    try simp only [List.setIfInBounds_toArray, List.set_cons_zero, List.set_cons_succ]
                    refine wpAnyH_take (i := 11) (v := .pointer (some ⟨gg, 0, none⟩)) rfl (by kernel_rfl) (by kernel_rfl) (by kernel_rfl) (fun _ _ _ h => h) (Or.inl ⟨by kernel_rfl, ?_⟩) hHeld ?_
                    · intro w' hSw; go_simp
                    try simp only [Act.put, List.setIfInBounds_toArray, List.set_cons_zero, List.set_cons_succ, List.getElem_toArray, List.getElem_cons_succ, List.getElem_cons_zero]
                    refine wpAnyH_ready (rs := [12]) (by kernel_rfl) (by simp) ?_
                    refine AllReadyH.cons rfl (fun KK hK' => ?_) AllReadyH.nil
                    obtain ⟨c30, c31⟩ := cc3
                    go_simp
                    obtain ⟨u7, hU, L5, D5⟩ : ∃ U, u6.setCell ⟨gg, 0, none⟩ (.slice (some ⟨gn, 0, none⟩) (z0.length + 1) cn) = U ∧ LL 40 U w.heap.size (.slice (some ⟨gg, 0, none⟩) m cc) m (upd V 0 (.slice (some ⟨gn, 0, none⟩) (z0.length + 1) cn)) ∧ Drn w U p a len cap := ⟨_, rfl, L3, D3.grow (grownSet _ _ _ _) (fun j hj => by cases hj; exact hgB)⟩
                    rw [hU]
                    clear hU
                    clear hHeld
                    refine hK'.out _ _ (Nat.zero_le _) (fun hHeld => ?_)
                    clear hK' KK
                    try simp only [List.setIfInBounds_toArray, List.set_cons_zero, List.set_cons_succ]
                    refine wpAnyH_done (by kernel_rfl) ?_ _
                    clear hHeld
                    go_wp2_with fail
                    go_meet
                    case rel => exact ⟨_, L5, D5⟩
          case rest =>
            clear L D z0L
            obtain ⟨V2, L, D⟩ := hcut
            go_wp2_with fail
            refine (once_dr D.st 40 (by omega) (by omega)).mono ?_
            rintro e w20 ⟨b2, rfl, hd⟩
            replace L := L.draw hd.1 D.pN
            replace D := D.draw hd
            clear hd
            cases b2
            · go_wp2
              exact bodyPost_ret (v := .slice (some ⟨gg, 0, none⟩) m cc) (by simp [results, Try.results28, go_sem]) rfl ⟨_, _, _, rfl, by omega, L, D⟩
            · go_wp2
              go_loopw [3] (fun s wr => ∃ (m : Nat) (V : Nat → Value), m ≤ 13 ∧ LL 40 wr w.heap.size s m V ∧ Drn w wr p a len cap) (fun s _ => 13 - sLenS s)
              case atStart => exact ⟨_, _, by omega, L, D⟩
              case round =>
                clear L D
                obtain ⟨m, V, hm13, L, D⟩ := hrel
                obtain ⟨g7, c7, cur7, rfl, -⟩ := L.open
                go_wp2_with fail
                refine (below_dr D.st 2 (by omega) (by omega)).mono ?_
                rintro e w21 ⟨x9, rfl, x90, x91, hd⟩
                replace L := L.draw hd.1 D.pN
                replace D := D.draw hd
                clear hd
                by_cases hc9 : (m : Int) < 12 + x9
                · obtain ⟨W5, hW5, A5, b5, -⟩ := boxed w21 2 #[.int .i64 (m : Int)]
                  have hb5 : ∀ w, (Instr.buildSlice 25 1 #[(0, .int .i64 (m : Int))]).run Try.prog w = .ok (.slice (some ⟨w.heap.size, 0, none⟩) 1 1) (w.alloc (.cells #[.int .i64 (m : Int)] 2)) := fun _ => by kernel_rfl
                  have E : Lst W5 w.heap.size (.slice (some ⟨w21.heap.size, 0, none⟩) 1 1) [(m : Int)] := Lst.one A5 D.kp.size
                  have hap : ∀ i, i < m → (V i).ownBlock ≠ (Value.slice (some ⟨w21.heap.size, 0, none⟩) 1 1).ownBlock := fun i hi e => by
                    obtain ⟨y, k1, -⟩ := L.each i hi
                    have := (k1.ge (e.trans (show _ = some w21.heap.size from rfl))).2
                    omega
                  replace L := L.below b5
                  replace D := D.below b5
                  obtain ⟨h9, hh9⟩ : ∃ h, w21.heap.size = h := ⟨_, rfl⟩
                  rw [hh9] at E hap
                  obtain ⟨z, hz⟩ : ∃ z, [(m : Int)] = z := ⟨_, rfl⟩
                  have hzl : z.length = 1 := by rw [← hz]; rfl
                  rw [hz] at E
                  clear A5 b5 hz
                  obtain ⟨V8, hV8, A8, b8, -⟩ := boxed W5 25 #[(.slice (some ⟨h9, 0, none⟩) 1 1)]
                  have L8 := L.below b8
                  have E8 := E.below b8
                  have D8 := D.below b8
                  have hkk : w.heap.size ≤ V8.heap.size := D8.kp.size
                  obtain ⟨g8, hg8⟩ : ∃ g, W5.heap.size = g := ⟨_, rfl⟩
                  rw [hg8] at A8
                  have hb8 : ∀ w, (Instr.buildSlice 24 1 #[(0, (.slice (some ⟨h9, 0, none⟩) 1 1))]).run Try.prog w = .ok (.slice (some ⟨w.heap.size, 0, none⟩) 1 1) (w.alloc (.cells #[(.slice (some ⟨h9, 0, none⟩) 1 1)] 25)) := fun _ => by kernel_rfl
                  clear b8 L E D
                  go_wp2_with (at_builtin; refine wpList_append_own_at _ rfl _ _ _ rfl w.heap.size 25 i1 _ 1 24 Try.underlying24 hi1 hy0 hy1 hy2 rfl (by omega) (.slice (some ⟨g7, 0, none⟩) m c7) m (vCells V m) rfl L8.row ⟨g8, 0, none⟩ 1 1 [(.slice (some ⟨h9, 0, none⟩) 1 1)] rfl rfl (newsL A8) (oneL E8.nn E8) (by unfold maxLen; omega) (by omega) hkk ?_; intro v3 w17 hown3 hgrow3 hne3 hat3; refine Hid.out (?_ : Hid _))
                  have L4 := L8.push E8 (by omega) hap hown3 hgrow3 hne3
                  have D4 := D8.grow hgrow3 (fun j hj => (L8.ge hj).1)
                  clear hown3 hgrow3 hne3 hat3 A8 hV8 L8 E8 D8 hb8 hkk hg8
                  refine (?_ : wpList _ _ _ _ _ _)
                  obtain ⟨g6, c6, cur6, rfl, -⟩ := L4.open
                  go_wp2
                  exact ⟨⟨m + 1, _, by omega, L4, D4⟩, by simp [sLenS]; omega⟩
                · go_wp2
                  exact bodyPost_ret (v := .slice (some ⟨g7, 0, none⟩) m c7) (by simp [results, Try.results28, go_sem]) rfl ⟨_, _, _, rfl, by omega, L, D⟩
        · have hm0' : ¬ (m : Int) > 0 := by omega
          replace L := L.up
          go_wp2_with fail
          refine (once_dr D.st 40 (by omega) (by omega)).mono ?_
          rintro e w20 ⟨b2, rfl, hd⟩
          replace L := L.draw hd.1 D.pN
          replace D := D.draw hd
          clear hd
          cases b2
          · go_wp2
            exact bodyPost_ret (v := .slice (some ⟨gg, 0, none⟩) m cc) (by simp [results, Try.results28, go_sem]) rfl ⟨_, _, _, rfl, by omega, L, D⟩
          · go_wp2
            go_loopw [3] (fun s wr => ∃ (m : Nat) (V : Nat → Value), m ≤ 13 ∧ LL 40 wr w.heap.size s m V ∧ Drn w wr p a len cap) (fun s _ => 13 - sLenS s)
            case atStart => exact ⟨_, _, by omega, L, D⟩
            case round =>
              clear L D
              obtain ⟨m, V, hm13, L, D⟩ := hrel
              obtain ⟨g7, c7, cur7, rfl, -⟩ := L.open
              go_wp2_with fail
              refine (below_dr D.st 2 (by omega) (by omega)).mono ?_
              rintro e w21 ⟨x9, rfl, x90, x91, hd⟩
              replace L := L.draw hd.1 D.pN
              replace D := D.draw hd
              clear hd
              by_cases hc9 : (m : Int) < 12 + x9
              · obtain ⟨W5, hW5, A5, b5, -⟩ := boxed w21 2 #[.int .i64 (m : Int)]
                have hb5 : ∀ w, (Instr.buildSlice 25 1 #[(0, .int .i64 (m : Int))]).run Try.prog w = .ok (.slice (some ⟨w.heap.size, 0, none⟩) 1 1) (w.alloc (.cells #[.int .i64 (m : Int)] 2)) := fun _ => by kernel_rfl
                have E : Lst W5 w.heap.size (.slice (some ⟨w21.heap.size, 0, none⟩) 1 1) [(m : Int)] := Lst.one A5 D.kp.size
                have hap : ∀ i, i < m → (V i).ownBlock ≠ (Value.slice (some ⟨w21.heap.size, 0, none⟩) 1 1).ownBlock := fun i hi e => by
                  obtain ⟨y, k1, -⟩ := L.each i hi
                  have := (k1.ge (e.trans (show _ = some w21.heap.size from rfl))).2
                  omega
                replace L := L.below b5
                replace D := D.below b5
                obtain ⟨h9, hh9⟩ : ∃ h, w21.heap.size = h := ⟨_, rfl⟩
                rw [hh9] at E hap
                obtain ⟨z, hz⟩ : ∃ z, [(m : Int)] = z := ⟨_, rfl⟩
                have hzl : z.length = 1 := by rw [← hz]; rfl
                rw [hz] at E
                clear A5 b5 hz
                obtain ⟨V8, hV8, A8, b8, -⟩ := boxed W5 25 #[(.slice (some ⟨h9, 0, none⟩) 1 1)]
                have L8 := L.below b8
                have E8 := E.below b8
                have D8 := D.below b8
                have hkk : w.heap.size ≤ V8.heap.size := D8.kp.size
                obtain ⟨g8, hg8⟩ : ∃ g, W5.heap.size = g := ⟨_, rfl⟩
                rw [hg8] at A8
                have hb8 : ∀ w, (Instr.buildSlice 24 1 #[(0, (.slice (some ⟨h9, 0, none⟩) 1 1))]).run Try.prog w = .ok (.slice (some ⟨w.heap.size, 0, none⟩) 1 1) (w.alloc (.cells #[(.slice (some ⟨h9, 0, none⟩) 1 1)] 25)) := fun _ => by kernel_rfl
                clear b8 L E D
                go_wp2_with (at_builtin; refine wpList_append_own_at _ rfl _ _ _ rfl w.heap.size 25 i1 _ 1 24 Try.underlying24 hi1 hy0 hy1 hy2 rfl (by omega) (.slice (some ⟨g7, 0, none⟩) m c7) m (vCells V m) rfl L8.row ⟨g8, 0, none⟩ 1 1 [(.slice (some ⟨h9, 0, none⟩) 1 1)] rfl rfl (newsL A8) (oneL E8.nn E8) (by unfold maxLen; omega) (by omega) hkk ?_; intro v3 w17 hown3 hgrow3 hne3 hat3; refine Hid.out (?_ : Hid _))
                have L4 := L8.push E8 (by omega) hap hown3 hgrow3 hne3
                have D4 := D8.grow hgrow3 (fun j hj => (L8.ge hj).1)
                clear hown3 hgrow3 hne3 hat3 A8 hV8 L8 E8 D8 hb8 hkk hg8
                refine (?_ : wpList _ _ _ _ _ _)
                obtain ⟨g6, c6, cur6, rfl, -⟩ := L4.open
                go_wp2
                exact ⟨⟨m + 1, _, by omega, L4, D4⟩, by simp [sLenS]; omega⟩
              · go_wp2
                exact bodyPost_ret (v := .slice (some ⟨g7, 0, none⟩) m c7) (by simp [results, Try.results28, go_sem]) rfl ⟨_, _, _, rfl, by omega, L, D⟩
end Go.Proofs.Ytcpeaenophaphaa
