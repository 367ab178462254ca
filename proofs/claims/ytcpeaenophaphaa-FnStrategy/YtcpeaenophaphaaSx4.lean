/-
  Exposures and a list drawn: walked.
-/
import Derived.Test.YtcpeaenophaphaaSx3
import Derived.Test.YtcpeaenophaphaaAn2
namespace Go.Proofs.Ytcpeaenophaphaa
open Go.RowKit

/-- What is drawn: lists of lists, and a list. -/
def DsL (w1 : World) (p : Nat) (a : Option Addr) (len cap : Nat) (e : Ending) (w' : World) : Prop := ∃ v m V u, ∃ z : List Int, ∃ (_ : True), e = .returned (.tuple #[v, u]) ∧ m ≤ 13 ∧ z.length ≤ 61 ∧ LL 40 w' w1.heap.size v m V ∧ Lst w' w1.heap.size u z ∧ Drn w1 w' p a len cap
theorem Drn.less {w0 w1 w : World} {p : Nat} {a : Option Addr} {len cap : Nat} (s : Drn w1 w p a len cap) (hk : Below w0.heap.size w0 w1) (hp : w0.heap.size ≤ p) : Below w0.heap.size w0 w :=
  hk.trans (s.kp.below hp (Nat.le_trans (Nat.le_of_lt (Nat.lt_of_le_of_lt hp s.pN)) (Nat.le_refl _)))
theorem LL.wide {bd : Nat} {w : World} {B B' : Nat} {v : Value} {m : Nat} {V : Nat → Value} (s : LL bd w B v m V) (hB : B' ≤ B) : LL bd w B' v m V :=
  ⟨own_downA s.row hB, s.nn, fun i hi => by obtain ⟨z, h1, h2⟩ := s.each i hi; exact ⟨z, ⟨own_downA h1.own hB, h1.nn⟩, h2⟩, s.dis⟩
set_option maxRecDepth 100000 in
set_option maxHeartbeats 8000000 in
theorem drawStrat_any {w : World} {a : Option Addr} {len cap : Nat} (hr : Row w w.heap.size a len) :
    Calls Try.prog 9 #[.slice a len cap] w (fun e w' => ∃ w1 p, Below w.heap.size w w1 ∧ w.heap.size ≤ p ∧ DsL w1 p a len cap e w') := by
  obtain ⟨i0, hi0, hz0, hz1, hz2⟩ := info_parts infoI
  have hbe : ∀ w, (Instr.buildSlice 25 0 #[]).run Try.prog w = .ok (.slice (some ⟨w.heap.size, 0, none⟩) 0 0) (w.alloc (.cells #[] 2)) := fun _ => by kernel_rfl
  go_enter Try.func9, Try.ntmps9
  go_wp2_with fail
  refine (new_any hr).mono ?_
  rintro e w1 ⟨rfl, B1, C1⟩
  obtain ⟨p, hp⟩ : ∃ p, w.heap.size = p := ⟨_, rfl⟩
  have hpp : w.heap.size ≤ p := by omega
  have B1' := B1
  rw [hp] at C1 ⊢
  clear hp B1
  go_wp2_with fail
  refine (drawSets_any C1).mono ?_
  rintro e w2 ⟨vo, m, V, rfl, hm13, L, D⟩
  obtain ⟨go, co, curo, rfl, -⟩ := L.open
  have hm13' : (m : Int) ≤ 13 := by omega
  obtain ⟨W3, hW3, A3, bb, -⟩ := boxed w2 2 #[]
  have E : Lst W3 w1.heap.size (.slice (some ⟨w2.heap.size, 0, none⟩) 0 0) [] := Lst.start A3 D.kp.size
  have hap : ∀ i, i < m → (V i).ownBlock ≠ (Value.slice (some ⟨w2.heap.size, 0, none⟩) 0 0).ownBlock := fun i hi e => by
    obtain ⟨y, k1, -⟩ := L.each i hi
    have := (k1.ge (e.trans (show _ = some w2.heap.size from rfl))).2
    omega
  replace L := L.below bb
  replace D := D.below bb
  clear bb A3 C1
  have hw1 : Below w.heap.size w w1 ∧ w.heap.size ≤ p := ⟨B1', hpp⟩
  have HW1 : Hid (Below w.heap.size w w1 ∧ w.heap.size ≤ p) := hw1
  clear hw1 B1' hpp
  obtain ⟨h0, hh0⟩ : ∃ h, w2.heap.size = h := ⟨_, rfl⟩
  rw [hh0] at E hap
  go_wp2
  clear hW3 hh0
  go_loopw [6, 7] (fun s t wr => ∃ (k : Nat) (z : List Int), k ≤ m ∧ z.length ≤ k ∧ t = .int .i64 (k : Int) ∧ LL 40 wr w1.heap.size (.slice (some ⟨go, 0, none⟩) m co) m V ∧ Lst wr w1.heap.size s z ∧ (∀ i, i < m → (V i).ownBlock ≠ s.ownBlock) ∧ Drn w1 wr p a len cap) (fun _ t _ => m - (intOf t).toNat)
  case atStart => exact ⟨0, [], by omega, by simp, rfl, L, E, hap, D⟩
  case round =>
    clear L E D hap
    obtain ⟨k, z, hk, hzl, rfl, L, E, hap, D⟩ := hrel
    by_cases hkm : k < m
    · have hkm' : (k : Int) < (m : Int) := by omega
      go_wp2_with fail
      refine (once_dr D.st 4 (by omega) (by omega)).mono ?_
      rintro e w10 ⟨b1, rfl, hd⟩
      replace L := L.draw hd.1 D.pN
      replace E := E.draw hd.1 D.pN
      replace D := D.draw hd
      clear hd
      cases b1
      · obtain ⟨X, hX⟩ : ∃ X : Int, (k : Int) = X := ⟨_, rfl⟩
        have HX : Hid ((k : Int) = X) := hX
        rw [hX] at hkm' ⊢
        have hX0 : 0 ≤ X ∧ X ≤ 13 := by omega
        clear hX
        obtain ⟨V9, hV9, A9, b10, -⟩ := boxed w10 2 #[.int .i64 X]
        have L9 := L.below b10
        have E9 := E.below b10
        have D9 := D.below b10
        have hkk : w1.heap.size ≤ V9.heap.size := D9.kp.size
        obtain ⟨g9, hg9⟩ : ∃ g, w10.heap.size = g := ⟨_, rfl⟩
        rw [hg9] at A9
        have hb9 : ∀ w, (Instr.buildSlice 25 1 #[(0, .int .i64 X)]).run Try.prog w = .ok (.slice (some ⟨w.heap.size, 0, none⟩) 1 1) (w.alloc (.cells #[.int .i64 X] 2)) := fun _ => by kernel_rfl
        have hown := E9.own
        obtain ⟨ml, hml⟩ : ∃ ml, z.length = ml := ⟨_, rfl⟩
        rw [hml] at hown hzl
        clear b10 L E D
        go_wp2_with (at_builtin; refine wpList_append_own_at _ rfl _ _ _ rfl w1.heap.size 2 i0 _ 1 8 Try.underlying25 hi0 hz0 hz1 hz2 rfl (by omega) u6 ml (lCells z) rfl hown ⟨g9, 0, none⟩ 1 1 (lCells [X]) rfl rfl (news1S A9) (lCells_one _) (by unfold maxLen; omega) (by omega) hkk ?_; intro v2 w16 hown2 hgrow2 hne2 hat2; refine Hid.out (?_ : Hid _))
        rw [← hml] at hown2
        have E3 := E9.grown hown2 hne2
        have L3 := L9.keep hgrow2 (fun e => L9.inNe E9 e.symm) hap
        have D3 := D9.grow hgrow2 (fun j hj => (E9.ge hj).1)
        have hap3 : ∀ i, i < m → (V i).ownBlock ≠ v2.ownBlock := fun i hi e => by
          rcases hat2 with h | h
          · exact hap i hi (e.trans h)
          · obtain ⟨y, k1, -⟩ := L9.each i hi
            have := (k1.ge (e.trans h)).2
            omega
        clear hown hown2 hgrow2 hne2 hat2 A9 hV9 L9 E9 D9 hap hb9 hkk hg9
        refine (?_ : wpList _ _ _ _ _ _)
        go_wp2
        exact ⟨⟨k + 1, z ++ [X], by omega, by simp; omega, by have := HX.out; subst this; go_num, L3, E3, hap3, D3⟩, by have := HX.out; subst this; simp [intOf]; omega⟩
      · go_wp2
        exact ⟨⟨k + 1, z, by omega, by omega, by go_num, L, E, hap, D⟩, by simp [intOf]; omega⟩
    · have hkm' : ¬ (k : Int) < (m : Int) := by omega
      have hzl : z.length ≤ 60 := by omega
      go_wp2_with fail
      refine (once_dr D.st 3 (by omega) (by omega)).mono ?_
      rintro e w20 ⟨b3, rfl, hd⟩
      replace L := L.draw hd.1 D.pN
      replace E := E.draw hd.1 D.pN
      replace D := D.draw hd
      clear hd
      cases b3
      · obtain ⟨uE, huE⟩ : ∃ uE, u6 = uE := ⟨_, rfl⟩
        rw [huE] at E hap ⊢
        clear huE
        go_wp2_with fail
        refine (once_dr D.st 14 (by omega) (by omega)).mono ?_
        rintro e w30 ⟨b4, rfl, hd⟩
        replace L := L.draw hd.1 D.pN
        replace E := E.draw hd.1 D.pN
        replace D := D.draw hd
        clear hd
        cases b4
        · go_wp2
          exact bodyPost_ret (v := .tuple #[.slice (some ⟨go, 0, none⟩) m co, uE]) (by simp [results, Try.results9, go_sem]) rfl ⟨w1, p, HW1.out.1, HW1.out.2, _, _, _, _, _, trivial, rfl, by omega, by omega, L, E, D⟩
        · go_wp2_with fail
          refine (from_dr D.st (-1) 9 (by omega) (by omega) (by omega) (by omega)).mono ?_
          rintro e w31 ⟨x, rfl, x0, x1, hd⟩
          replace L := L.draw hd.1 D.pN
          replace E := E.draw hd.1 D.pN
          replace D := D.draw hd
          clear hd
          obtain ⟨V9, hV9, A9, b10, -⟩ := boxed w31 2 #[.int .i64 x]
          have L9 := L.below b10
          have E9 := E.below b10
          have D9 := D.below b10
          have hkk : w1.heap.size ≤ V9.heap.size := D9.kp.size
          obtain ⟨g9, hg9⟩ : ∃ g, w31.heap.size = g := ⟨_, rfl⟩
          rw [hg9] at A9
          have hb9 : ∀ w, (Instr.buildSlice 25 1 #[(0, .int .i64 x)]).run Try.prog w = .ok (.slice (some ⟨w.heap.size, 0, none⟩) 1 1) (w.alloc (.cells #[.int .i64 x] 2)) := fun _ => by kernel_rfl
          have hown := E9.own
          obtain ⟨ml, hml⟩ : ∃ ml, z.length = ml := ⟨_, rfl⟩
          rw [hml] at hown hzl
          clear b10 L E D
          go_wp2_with (at_builtin; refine wpList_append_own_at _ rfl _ _ _ rfl w1.heap.size 2 i0 _ 1 8 Try.underlying25 hi0 hz0 hz1 hz2 rfl (by omega) uE ml (lCells z) rfl hown ⟨g9, 0, none⟩ 1 1 (lCells [x]) rfl rfl (news1S A9) (lCells_one _) (by unfold maxLen; omega) (by omega) hkk ?_; intro v2 w16 hown2 hgrow2 hne2 hat2; refine Hid.out (?_ : Hid _))
          rw [← hml] at hown2
          have E3 := E9.grown hown2 hne2
          have L3 := L9.keep hgrow2 (fun e => L9.inNe E9 e.symm) hap
          have D3 := D9.grow hgrow2 (fun j hj => (E9.ge hj).1)
          have hap3 : ∀ i, i < m → (V i).ownBlock ≠ v2.ownBlock := fun i hi e => by
            rcases hat2 with h | h
            · exact hap i hi (e.trans h)
            · obtain ⟨y, k1, -⟩ := L9.each i hi
              have := (k1.ge (e.trans h)).2
              omega
          clear hown hown2 hgrow2 hne2 hat2 A9 hV9 L9 E9 D9 hap hb9 hkk hg9
          refine (?_ : wpList _ _ _ _ _ _)
          go_wp2
          exact bodyPost_ret (v := .tuple #[.slice (some ⟨go, 0, none⟩) m co, v2]) (by simp [results, Try.results9, go_sem]) rfl ⟨w1, p, HW1.out.1, HW1.out.2, _, _, _, _, _, trivial, rfl, by omega, by simp; omega, L3, E3, D3⟩
      · obtain ⟨gL, cL, aL, cc, nn, ff, e1, hLl, hn40⟩ := L.lli
        obtain ⟨rfl, rfl⟩ : go = gL ∧ co = cL := by
          simp only [Value.slice.injEq, Option.some.injEq, Addr.mk.injEq] at e1
          exact ⟨e1.1.1, e1.2.2⟩
        go_wp2_with fail
        refine (specStgO_any hLl (by omega) (fun i hi => by have := hn40 i hi; omega)).mono ?_
        rintro e w21 ⟨BB, hBB, vB, rfl, G⟩
        have hBl : BB.length ≤ 12 := by
          rcases hBB with ⟨h1, h2⟩ | ⟨h1, rfl⟩
          · obtain ⟨M0, -, e⟩ := mk_onto m BB h2.1
            rw [← e]
            exact Nat.le_trans (mk_len M0 m) h1.1
          · exact Nat.zero_le _
        have bb := G.b
        have hapB : ∀ i, i < m → (V i).ownBlock ≠ vB.ownBlock := fun i hi e => by
          obtain ⟨y, k1, -⟩ := L.each i hi
          obtain ⟨g1, c1, cur1, e2, -, hh1, -⟩ := k1.open
          have e3 : vB.ownBlock = some g1 := by rw [← e, e2]; rfl
          have h4 := (own_ge G.own e3).1
          have h5 := hh1.lt
          omega
        have EB : Lst w21 w1.heap.size vB (toI BB) := by
          have h1 := own_downA G.own D.kp.size
          rw [← toI_len] at h1
          exact ⟨h1, G.nn⟩
        replace L := L.below bb
        replace D := D.below bb
        clear G bb E hap hBB hLl hn40
        obtain ⟨E, hE⟩ : ∃ _ : Unit, Lst w21 w1.heap.size vB (toI BB) := ⟨(), EB⟩
        clear E EB
        have E := hE
        clear hE
        have hap := hapB
        clear hapB
        obtain ⟨z, hz⟩ : ∃ z, toI BB = z := ⟨_, rfl⟩
        have hzl : z.length ≤ 60 := by rw [← hz, toI_len]; omega
        rw [hz] at E
        clear hz hBl
        obtain ⟨uE, huE⟩ : ∃ uE, vB = uE := ⟨_, rfl⟩
        rw [huE] at E hap ⊢
        clear huE
        go_wp2_with fail
        refine (once_dr D.st 14 (by omega) (by omega)).mono ?_
        rintro e w30 ⟨b4, rfl, hd⟩
        replace L := L.draw hd.1 D.pN
        replace E := E.draw hd.1 D.pN
        replace D := D.draw hd
        clear hd
        cases b4
        · go_wp2
          exact bodyPost_ret (v := .tuple #[.slice (some ⟨go, 0, none⟩) m co, uE]) (by simp [results, Try.results9, go_sem]) rfl ⟨w1, p, HW1.out.1, HW1.out.2, _, _, _, _, _, trivial, rfl, by omega, by omega, L, E, D⟩
        · go_wp2_with fail
          refine (from_dr D.st (-1) 9 (by omega) (by omega) (by omega) (by omega)).mono ?_
          rintro e w31 ⟨x, rfl, x0, x1, hd⟩
          replace L := L.draw hd.1 D.pN
          replace E := E.draw hd.1 D.pN
          replace D := D.draw hd
          clear hd
          obtain ⟨V9, hV9, A9, b10, -⟩ := boxed w31 2 #[.int .i64 x]
          have L9 := L.below b10
          have E9 := E.below b10
          have D9 := D.below b10
          have hkk : w1.heap.size ≤ V9.heap.size := D9.kp.size
          obtain ⟨g9, hg9⟩ : ∃ g, w31.heap.size = g := ⟨_, rfl⟩
          rw [hg9] at A9
          have hb9 : ∀ w, (Instr.buildSlice 25 1 #[(0, .int .i64 x)]).run Try.prog w = .ok (.slice (some ⟨w.heap.size, 0, none⟩) 1 1) (w.alloc (.cells #[.int .i64 x] 2)) := fun _ => by kernel_rfl
          have hown := E9.own
          obtain ⟨ml, hml⟩ : ∃ ml, z.length = ml := ⟨_, rfl⟩
          rw [hml] at hown hzl
          clear b10 L E D
          go_wp2_with (at_builtin; refine wpList_append_own_at _ rfl _ _ _ rfl w1.heap.size 2 i0 _ 1 8 Try.underlying25 hi0 hz0 hz1 hz2 rfl (by omega) uE ml (lCells z) rfl hown ⟨g9, 0, none⟩ 1 1 (lCells [x]) rfl rfl (news1S A9) (lCells_one _) (by unfold maxLen; omega) (by omega) hkk ?_; intro v2 w16 hown2 hgrow2 hne2 hat2; refine Hid.out (?_ : Hid _))
          rw [← hml] at hown2
          have E3 := E9.grown hown2 hne2
          have L3 := L9.keep hgrow2 (fun e => L9.inNe E9 e.symm) hap
          have D3 := D9.grow hgrow2 (fun j hj => (E9.ge hj).1)
          have hap3 : ∀ i, i < m → (V i).ownBlock ≠ v2.ownBlock := fun i hi e => by
            rcases hat2 with h | h
            · exact hap i hi (e.trans h)
            · obtain ⟨y, k1, -⟩ := L9.each i hi
              have := (k1.ge (e.trans h)).2
              omega
          clear hown hown2 hgrow2 hne2 hat2 A9 hV9 L9 E9 D9 hap hb9 hkk hg9
          refine (?_ : wpList _ _ _ _ _ _)
          go_wp2
          exact bodyPost_ret (v := .tuple #[.slice (some ⟨go, 0, none⟩) m co, v2]) (by simp [results, Try.results9, go_sem]) rfl ⟨w1, p, HW1.out.1, HW1.out.2, _, _, _, _, _, trivial, rfl, by omega, by simp; omega, L3, E3, D3⟩
end Go.Proofs.Ytcpeaenophaphaa
