/-
  A list of frames drawn: walked.
-/
import Derived.Test.YtlofbgkefalpoaaWf
namespace Go.Proofs.Ytlofbgkefalpoaa
open Go.RowKit

theorem fc_one (x : FrD) (a : Option Addr) (n c : Nat) (e : x.2.2.1 = .slice a n c) : ∀ u ∈ fc x, u.oneCell' = true := by
  intro u hu
  unfold fc at hu
  rw [e] at hu
  simp only [List.mem_cons, List.not_mem_nil, or_false] at hu
  rcases hu with rfl | rfl | rfl <;> rfl
theorem newsF {w : World} {g : Nat} {x : FrD} (h : At 28 w g #[.int .i64 x.1, .int .i64 x.2.1, x.2.2.1]) : ∀ j u, (fc x)[j]? = some u → w.cell? ((⟨g, 0, none⟩ : Addr).add j) = some u := fun j u hu => by
  rw [Addr.add_lit, Nat.zero_add]
  match j, hu with
  | 0, hu => exact h.cell 0 hu
  | 1, hu => exact h.cell 1 hu
  | 2, hu => exact h.cell 2 hu
  | j + 3, hu => cases hu
/-- What is drawn: a list of frames in memory of its own. -/
def DrL (w : World) (e : Ending) (w' : World) : Prop := ∃ g c L, e = .returned (.slice (some ⟨g, 0, none⟩) L.length c) ∧ L.length ≤ 110 ∧ (∀ x ∈ L, x.2.2.2.length ≤ 5000) ∧ Gf w' w.heap.size (.slice (some ⟨g, 0, none⟩) L.length c) L ∧ Below w.heap.size w w'
theorem Gf.wide {w : World} {B B' : Nat} {v : Value} {L : List FrD} (h : Gf w B v L) (hb : B' ≤ B) : Gf w B' v L :=
  ⟨own_wide h.own hb, h.nn, fun x hx => own_wide (h.px x hx) hb, Nat.le_trans hb h.o⟩
theorem frame_len {P : List Int} {X0 X1 : Int} (h : (P.length : Int) = X0 * X1) (h0 : 1 ≤ X0 ∧ X0 ≤ 5) (h1 : 1 ≤ X1 ∧ X1 ≤ 5) : 1 ≤ P.length ∧ P.length ≤ 5000 := by
  have a := Int.mul_le_mul h0.2 h1.2 (by omega) (by omega)
  have b := Int.mul_pos (show 0 < X0 by omega) (show 0 < X1 by omega)
  omega
set_option maxRecDepth 100000 in
set_option maxHeartbeats 8000000 in
theorem drawAdd_any {w : World} {a : Option Addr} {len cap : Nat} (hr : Row w w.heap.size a len) :
    Calls Try.prog 8 #[.slice a len cap] w fun e w' => DrL w e w' := by
  obtain ⟨i0, hi0, hz0, hz1, hz2⟩ := info_parts infoFr
  have hbs : ∀ w, (Instr.buildSlice 24 0 #[]).run Try.prog w = .ok (.slice (some ⟨w.heap.size, 0, none⟩) 0 0) (w.alloc (.cells #[] 28)) := fun _ => by kernel_rfl
  go_enter Try.func8, Try.ntmps8
  go_wp2_with fail
  refine (new_any hr).mono ?_
  rintro e w1 ⟨rfl, hb1, hc⟩
  have dr := Dr.start hc
  have hsz := hb1.size
  have hpl := hc.lt
  obtain ⟨p, hp⟩ : ∃ p, w.heap.size = p := ⟨_, rfl⟩
  rw [hp] at dr hpl ⊢
  clear hc
  go_wp2_with fail
  refine (below_dr (Dr.start dr.2) 5 (by omega) (by omega)).mono ?_
  rintro e w2 ⟨x0, rfl, x00, x01, hd⟩
  replace dr := hd.from dr.1
  clear hd
  go_wp2_with fail
  refine (below_dr (Dr.start dr.2) 5 (by omega) (by omega)).mono ?_
  rintro e w3 ⟨x1, rfl, x10, x11, hd⟩
  replace dr := hd.from dr.1
  clear hd
  obtain ⟨X0, hX0⟩ : ∃ X, 1 + x0 = X := ⟨_, rfl⟩
  obtain ⟨X1, hX1⟩ : ∃ X, 1 + x1 = X := ⟨_, rfl⟩
  have HX0 : 1 ≤ X0 ∧ X0 ≤ 5 := by omega
  have HX1 : 1 ≤ X1 ∧ X1 ≤ 5 := by omega
  obtain ⟨V4, hV4, A4, b4, -⟩ := boxed w3 28 #[]
  have l3 : w1.heap.size ≤ w3.heap.size := dr.1.size
  have G := Gf.start (B := w1.heap.size) A4 l3
  have dr4 : Dr w1 p a len cap V4 := dr.below b4
  obtain ⟨g4, hg4⟩ : ∃ g, w3.heap.size = g := ⟨_, rfl⟩
  rw [hg4] at G
  go_wp2_with fail
  clear A4 b4 dr l3 hV4 hg4 hX0 hX1
  have hpB : p < w1.heap.size := hpl
  refine (below_dr (Dr.start dr4.2) 5 (by omega) (by omega)).mono ?_
  rintro e w5 ⟨x2, rfl, x20, x21, hd⟩
  replace G := G.kept hd.1 hpB
  replace dr4 := hd.from dr4.1
  obtain ⟨n0, rfl⟩ : ∃ n : Nat, x2 = n := ⟨x2.toNat, by omega⟩
  clear hd
  go_wp2_with fail
  have HD1 : Hid (hb1 = hb1) := rfl
  clear HD1
  go_loopw [6, 7] (fun s6 s7 wr => ∃ (L : List FrD) (k : Nat), L.length + k ≤ 4 ∧ s7 = .int .i64 (k : Int) ∧ (∀ x ∈ L, 1 ≤ x.2.2.2.length ∧ x.2.2.2.length ≤ 5000) ∧ Gf wr w1.heap.size s6 L ∧ Dr w1 p a len cap wr) (fun _ s7 _ => (intOf s7).toNat)
  case atStart => exact ⟨[], n0, by simp; omega, rfl, fun x hx => (by cases hx), G, dr4⟩
  case round =>
    clear G dr4
    obtain ⟨L, k, hk4, rfl, hP, G, dr⟩ := hrel
    obtain ⟨g6, c6, -, rfl, -, -, -, -, -⟩ := G.open
    by_cases hk : 0 < k
    · have hk' : (0 : Int) < (k : Int) := by omega
      have hkb : (k : Int) ≤ 4 := by omega
      go_wp2_with fail
      refine (l12Draw_dr X0 X1 (Dr.start dr.2) (by omega) (by omega) (Nat.le_refl _)).mono ?_
      rintro e w7 ⟨va0, P, rfl, ho, hPl, -, hd⟩
      have hw0 := dr.1.size
      replace G := G.kept hd.1 hpB
      have hwr := G.o
      replace dr := hd.from dr.1
      obtain ⟨va, vc, rfl⟩ := own_sl ho
      replace ho := own_wide ho (B' := w1.heap.size) hw0
      clear hd
      have hb2 : ∀ w, (Instr.buildSlice 24 1 #[(0, fV X0 X1 (.slice va P.length vc))]).run Try.prog w = .ok (.slice (some ⟨w.heap.size, 0, none⟩) 1 1) (w.alloc (.cells #[.int .i64 X0, .int .i64 X1, .slice va P.length vc] 28)) := fun _ => by kernel_rfl
      obtain ⟨V8, hV8, A8, b8, -⟩ := boxed w7 28 #[.int .i64 X0, .int .i64 X1, .slice va P.length vc]
      obtain ⟨g8, hg8⟩ : ∃ g, w7.heap.size = g := ⟨_, rfl⟩
      rw [hg8] at A8
      have G8 := G.below b8
      have ho8 := own_below ho b8
      have dr8 := dr.below b8
      have news := newsF (x := (X0, X1, .slice va P.length vc, P)) A8
      have hLs : L.length + 1 ≤ 1000 := by omega
      clear G ho dr b8 A8
      go_wp2_with (at_builtin; refine Hid.out (?_ : Hid _))
      refine (?_ : wpList _ _ _ _ _ _)
      refine wpList_append_own _ rfl _ _ _ rfl w1.heap.size 28 i0 _ 3 40 Try.underlying24 hi0 hz0 hz1 hz2 rfl (by omega) (.slice (some ⟨g6, 0, none⟩) L.length c6) L.length (fCl L) rfl G8.own ⟨g8, 0, none⟩ 1 1 (fc (X0, X1, .slice va P.length vc, P)) rfl rfl news (fc_one _ va P.length vc rfl) (by unfold maxLen; omega) (by omega) G8.o ?_
      intro v9 w9 hown hgrow hne
      have G7 : Gf w9 w1.heap.size v9 (L ++ [(X0, X1, .slice va P.length vc, P)]) := G8.add ho8 hown hgrow (fun h => G8.nn (hne.1 h).1)
      have dr7 : Dr w1 p a len cap w9 := dr8.grown (N := w1.heap.size) (Below.grown (Below.refl _ _) hgrow G8.o (fun x hx => ownBlock_ge G8.own hx)) (Nat.le_refl _) hpB
      clear G8 ho8 dr8 news hown hgrow hne hV8 hb2 hg8
      go_wp2
      obtain ⟨k', rfl⟩ : ∃ k', k = k' + 1 := ⟨k - 1, by omega⟩
      refine ⟨⟨L ++ [(X0, X1, Value.slice va P.length vc, P)], k', by rw [List.length_append, List.length_singleton]; omega, by go_num, fun x hx => ?_, G7, dr7⟩, by simp [intOf]⟩
      rcases List.mem_append.1 hx with z | z
      · exact hP x z
      · rw [List.mem_singleton.1 z]; exact frame_len hPl HX0 HX1
    · have hk' : ¬ (0 : Int) < (k : Int) := by omega
      have hkz : (k : Int) = 0 := by omega
      go_wp2_with fail
      refine (once_dr (Dr.start dr.2) 6 (by omega) (by omega)).mono ?_
      rintro e w6 ⟨b, rfl, hd⟩
      replace G := G.kept hd.1 hpB
      replace dr := hd.from dr.1
      clear hd
      have hL4 : L.length ≤ 4 := by omega
      clear hk' hkz hk hk4
      have REST : ∀ (wx : World) (L : List FrD) (g6 c6 : Nat), L.length ≤ 4 → (∀ x ∈ L, x.2.2.2.length ≤ 5000) → Gf wx w1.heap.size (.slice (some ⟨g6, 0, none⟩) L.length c6) L → Dr w1 p a len cap wx → True := fun _ _ _ _ _ _ _ _ => trivial
      clear REST
      by_cases hb : b = true ∧ 0 < L.length
      · obtain ⟨rfl, hL0⟩ := hb
        have hL0' : (0 : Int) < (L.length : Int) := by omega
        obtain ⟨d0, d1, d2⟩ := G.at hL0
        have hp0 := hP L[0] (List.getElem_mem hL0)
        have ho0 := G.px L[0] (List.getElem_mem hL0)
        rcases ho0.2 with ⟨e0, e1⟩ | ⟨gv, cv, cu, e0, hbg, hat, hc1, hc2, hsz0, ht0⟩
        · exfalso
          have := own_src ho0 rfl
          rcases this.2 with h | ⟨b', o', h, -⟩
          · omega
          · rw [e0] at h; cases h
        have ha : At 2 w6 gv cu := hat
        obtain ⟨L', hl1, hl2, G'⟩ := G.setPix ha 65535
        have hcell : ∃ u, w6.cell? ⟨gv, 0, none⟩ = some u := ⟨_, ha.cell 0 (v := cu[0]'(by omega)) (Array.getElem?_eq_getElem (by omega))⟩
        obtain ⟨u0, hu0⟩ := hcell
        have hfr := ha.frozen 0
        rw [e0] at d2
        have dr' : Dr w1 p a len cap (w6.setCell ⟨gv, 0, none⟩ (.int .i64 65535)) := dr.grown (N := w1.heap.size) ((Below.refl _ _).setCell hbg _) (Nat.le_refl _) hpB
        obtain ⟨V9, hV9⟩ : ∃ V, w6.setCell ⟨gv, 0, none⟩ (.int .i64 65535) = V := ⟨_, rfl⟩
        rw [hV9] at G' dr'
        have hlp : (0 : Int) < (L[0].2.2.2.length : Int) := by omega
        obtain ⟨lp, hlp2⟩ : ∃ l, L[0].2.2.2.length = l := ⟨_, rfl⟩
        rw [hlp2] at d2 hlp
        rw [← hl1] at G'
        have hP' := hl2 5000 (fun y hy => (hP y hy).2)
        have hL4' : L'.length ≤ 4 := by omega
        have hgl : (L.length : Int) = (L'.length : Int) := by omega
        have HE : Hid (L.length = L'.length) := hl1.symm
        clear hp0 ho0 ht0 hl2 hP hL4 hgl
        go_wp2_with fail
        clear d0 d1 d2 hu0 hfr hV9 hat ha hlp G dr
        rw [HE.out]
        have G := G'
        have dr := dr'
        have hP := hP'
        have hL4 := hL4'
        clear G' dr' hP' hL4' HE hl1 e0 hc1 hc2 hsz0 hlp2
        clear hL0'
        clear hL0
        generalize L' = L at *
        refine (once_dr (Dr.start dr.2) 14 (by omega) (by omega)).mono ?_
        rintro e w7 ⟨b1, rfl, hd⟩
        replace G := G.kept hd.1 hpB
        replace dr := hd.from dr.1
        clear hd
        cases b1
        · have hL5 : L.length ≤ 5 := by omega
          go_wp2_with fail
          refine (once_dr (Dr.start dr.2) 60 (by omega) (by omega)).mono ?_
          rintro e w8 ⟨b2, rfl, hd⟩
          replace G := G.kept hd.1 hpB
          replace dr := hd.from dr.1
          clear hd
          cases b2
          · have HB : Below w.heap.size w w8 := hb1.trans (dr.1.below (by omega) hsz)
            have GG := G.wide hsz
            go_wp2
            go_ret
            exact ⟨_, _, L, rfl, by omega, hP, GG, HB⟩
          · go_wp2_with fail
            have HG : Hid (Gf w8 w1.heap.size (.slice (some ⟨g6, 0, none⟩) L.length c6) L) := G
            have HR : Hid (Dr w1 p a len cap w8) := dr
            have HP5 : Hid (∀ x ∈ L, x.2.2.2.length ≤ 5000) := hP
            clear G dr hP
            go_loopw [6] (fun s6 wr => ∃ L : List FrD, L.length ≤ 101 ∧ (∀ x ∈ L, x.2.2.2.length ≤ 5000) ∧ Gf wr w1.heap.size s6 L ∧ Dr w1 p a len cap wr) (fun s6 _ => 200 - lenV s6)
            case atStart => exact ⟨L, by omega, HP5.out, HG.out, HR.out⟩
            case round =>
              clear HG HR HP5 hL5
              obtain ⟨L, hL5, hP, G, dr⟩ := hrel
              obtain ⟨g6, c6, -, rfl, -, -, -, -, -⟩ := G.open
              go_wp2_with fail
              refine (below_dr (Dr.start dr.2) 2 (by omega) (by omega)).mono ?_
              rintro e w10 ⟨x3, rfl, x30, x31, hd⟩
              replace G := G.kept hd.1 hpB
              replace dr := hd.from dr.1
              clear hd
              by_cases hlt : (L.length : Int) < 100 + x3
              · go_wp2_with fail
                refine (l12Draw_dr X0 X1 (Dr.start dr.2) (by omega) (by omega) (Nat.le_refl _)).mono ?_
                rintro e w7 ⟨va0, P, rfl, ho, hPl, -, hd⟩
                have hw0 := dr.1.size
                replace G := G.kept hd.1 hpB
                have hwr := G.o
                replace dr := hd.from dr.1
                obtain ⟨va, vc, rfl⟩ := own_sl ho
                replace ho := own_wide ho (B' := w1.heap.size) hw0
                clear hd
                have hb2 : ∀ w, (Instr.buildSlice 24 1 #[(0, fV X0 X1 (.slice va P.length vc))]).run Try.prog w = .ok (.slice (some ⟨w.heap.size, 0, none⟩) 1 1) (w.alloc (.cells #[.int .i64 X0, .int .i64 X1, .slice va P.length vc] 28)) := fun _ => by kernel_rfl
                obtain ⟨V8, hV8, A8, b8, -⟩ := boxed w7 28 #[.int .i64 X0, .int .i64 X1, .slice va P.length vc]
                obtain ⟨g8, hg8⟩ : ∃ g, w7.heap.size = g := ⟨_, rfl⟩
                rw [hg8] at A8
                have G8 := G.below b8
                have ho8 := own_below ho b8
                have dr8 := dr.below b8
                have news := newsF (x := (X0, X1, .slice va P.length vc, P)) A8
                have hLs : L.length + 1 ≤ 1000 := by omega
                clear G ho dr b8 A8
                go_wp2_with (at_builtin; refine Hid.out (?_ : Hid _))
                refine (?_ : wpList _ _ _ _ _ _)
                refine wpList_append_own _ rfl _ _ _ rfl w1.heap.size 28 i0 _ 3 40 Try.underlying24 hi0 hz0 hz1 hz2 rfl (by omega) (.slice (some ⟨g6, 0, none⟩) L.length c6) L.length (fCl L) rfl G8.own ⟨g8, 0, none⟩ 1 1 (fc (X0, X1, .slice va P.length vc, P)) rfl rfl news (fc_one _ va P.length vc rfl) (by unfold maxLen; omega) (by omega) G8.o ?_
                intro v9 w9 hown hgrow hne
                have G7 : Gf w9 w1.heap.size v9 (L ++ [(X0, X1, .slice va P.length vc, P)]) := G8.add ho8 hown hgrow (fun h => G8.nn (hne.1 h).1)
                have dr7 : Dr w1 p a len cap w9 := dr8.grown (N := w1.heap.size) (Below.grown (Below.refl _ _) hgrow G8.o (fun x hx => ownBlock_ge G8.own hx)) (Nat.le_refl _) hpB
                clear G8 ho8 dr8 news hown hgrow hne hV8 hb2 hg8
                obtain ⟨g9, c9, -, rfl, -, -, -, -, -⟩ := G7.open
                have hl9 : (L ++ [(X0, X1, Value.slice va P.length vc, P)]).length = L.length + 1 := by rw [List.length_append, List.length_singleton]
                have HG7 : Hid (Gf w9 w1.heap.size (.slice (some ⟨g9, 0, none⟩) (L ++ [(X0, X1, Value.slice va P.length vc, P)]).length c9) (L ++ [(X0, X1, Value.slice va P.length vc, P)])) := G7
                obtain ⟨L9, hL9⟩ : ∃ l, L ++ [(X0, X1, Value.slice va P.length vc, P)] = l := ⟨_, rfl⟩
                have hP9 : ∀ x ∈ L9, x.2.2.2.length ≤ 5000 := fun x hx => by
                  rw [← hL9] at hx
                  rcases List.mem_append.1 hx with z | z
                  · exact hP x z
                  · rw [List.mem_singleton.1 z]; exact (frame_len hPl HX0 HX1).2
                rw [hL9] at HG7 hl9 ⊢
                have H9 : Hid (L9.length = L.length + 1) := hl9
                clear hl9 hL9 G7
                go_wp2
                exact ⟨⟨L9, by have := H9.out; omega, hP9, HG7.out, dr7⟩, by simp only [lenV]; have := H9.out; omega⟩
              · have HB : Below w.heap.size w w10 := hb1.trans (dr.1.below (by omega) hsz)
                have GG := G.wide hsz
                go_wp2
                go_ret
                exact ⟨_, _, L, rfl, by omega, hP, GG, HB⟩
        · go_wp2_with fail
          refine (l12DrawAny_dr (Dr.start dr.2) (Nat.le_refl _)).mono ?_
          rintro e w11 ⟨W5, H5, va0, P, rfl, ho, hPl, hd⟩
          have hw0 := dr.1.size
          replace G := G.kept hd.1 hpB
          have hwr := G.o
          replace dr := hd.from dr.1
          obtain ⟨va, vc, rfl⟩ := own_sl ho
          replace ho := own_wide ho (B' := w1.heap.size) hw0
          clear hd
          have hb2 : ∀ w, (Instr.buildSlice 24 1 #[(0, fV W5 H5 (.slice va P.length vc))]).run Try.prog w = .ok (.slice (some ⟨w.heap.size, 0, none⟩) 1 1) (w.alloc (.cells #[.int .i64 W5, .int .i64 H5, .slice va P.length vc] 28)) := fun _ => by kernel_rfl
          obtain ⟨V8, hV8, A8, b8, -⟩ := boxed w11 28 #[.int .i64 W5, .int .i64 H5, .slice va P.length vc]
          obtain ⟨g8, hg8⟩ : ∃ g, w11.heap.size = g := ⟨_, rfl⟩
          rw [hg8] at A8
          have G8 := G.below b8
          have ho8 := own_below ho b8
          have dr8 := dr.below b8
          have news := newsF (x := (W5, H5, .slice va P.length vc, P)) A8
          have hLs : L.length + 1 ≤ 1000 := by omega
          clear G ho dr b8 A8
          go_wp2_with (at_builtin; refine Hid.out (?_ : Hid _))
          refine (?_ : wpList _ _ _ _ _ _)
          refine wpList_append_own _ rfl _ _ _ rfl w1.heap.size 28 i0 _ 3 40 Try.underlying24 hi0 hz0 hz1 hz2 rfl (by omega) (.slice (some ⟨g6, 0, none⟩) L.length c6) L.length (fCl L) rfl G8.own ⟨g8, 0, none⟩ 1 1 (fc (W5, H5, .slice va P.length vc, P)) rfl rfl news (fc_one _ va P.length vc rfl) (by unfold maxLen; omega) (by omega) G8.o ?_
          intro v9 w9 hown hgrow hne
          have G7 : Gf w9 w1.heap.size v9 (L ++ [(W5, H5, .slice va P.length vc, P)]) := G8.add ho8 hown hgrow (fun h => G8.nn (hne.1 h).1)
          have dr7 : Dr w1 p a len cap w9 := dr8.grown (N := w1.heap.size) (Below.grown (Below.refl _ _) hgrow G8.o (fun x hx => ownBlock_ge G8.own hx)) (Nat.le_refl _) hpB
          clear G8 ho8 dr8 news hown hgrow hne hV8 hb2 hg8
          obtain ⟨g9, c9, -, rfl, -, -, -, -, -⟩ := G7.open
          obtain ⟨L9, hL9⟩ : ∃ l, L ++ [(W5, H5, Value.slice va P.length vc, P)] = l := ⟨_, rfl⟩
          have hl9 : L9.length = L.length + 1 := by rw [← hL9, List.length_append, List.length_singleton]
          have hP9 : ∀ x ∈ L9, x.2.2.2.length ≤ 5000 := fun x hx => by
            rw [← hL9] at hx
            rcases List.mem_append.1 hx with z | z
            · exact hP x z
            · rw [List.mem_singleton.1 z]; exact hPl
          rw [hL9] at G7 ⊢
          have hL5 : L9.length ≤ 5 := by omega
          clear hL9 hP hL4 hl9
          clear hLs hwr
          have hP := hP9
          clear hP9
          generalize hLL : L9 = L at *
          clear hLL
          have G := G7
          have dr := dr7
          clear G7 dr7
          generalize g9 = g6 at *
          generalize c9 = c6 at *
          go_wp2_with fail
          refine (once_dr (Dr.start dr.2) 60 (by omega) (by omega)).mono ?_
          rintro e w8 ⟨b2, rfl, hd⟩
          replace G := G.kept hd.1 hpB
          replace dr := hd.from dr.1
          clear hd
          cases b2
          · have HB : Below w.heap.size w w8 := hb1.trans (dr.1.below (by omega) hsz)
            have GG := G.wide hsz
            go_wp2
            go_ret
            exact ⟨_, _, L, rfl, by omega, hP, GG, HB⟩
          · go_wp2_with fail
            have HG : Hid (Gf w8 w1.heap.size (.slice (some ⟨g6, 0, none⟩) L.length c6) L) := G
            have HR : Hid (Dr w1 p a len cap w8) := dr
            have HP5 : Hid (∀ x ∈ L, x.2.2.2.length ≤ 5000) := hP
            clear G dr hP
            go_loopw [6] (fun s6 wr => ∃ L : List FrD, L.length ≤ 101 ∧ (∀ x ∈ L, x.2.2.2.length ≤ 5000) ∧ Gf wr w1.heap.size s6 L ∧ Dr w1 p a len cap wr) (fun s6 _ => 200 - lenV s6)
            case atStart => exact ⟨L, by omega, HP5.out, HG.out, HR.out⟩
            case round =>
              clear HG HR HP5 hL5
              obtain ⟨L, hL5, hP, G, dr⟩ := hrel
              obtain ⟨g6, c6, -, rfl, -, -, -, -, -⟩ := G.open
              go_wp2_with fail
              refine (below_dr (Dr.start dr.2) 2 (by omega) (by omega)).mono ?_
              rintro e w10 ⟨x3, rfl, x30, x31, hd⟩
              replace G := G.kept hd.1 hpB
              replace dr := hd.from dr.1
              clear hd
              by_cases hlt : (L.length : Int) < 100 + x3
              · go_wp2_with fail
                refine (l12Draw_dr X0 X1 (Dr.start dr.2) (by omega) (by omega) (Nat.le_refl _)).mono ?_
                rintro e w7 ⟨va0, P, rfl, ho, hPl, -, hd⟩
                have hw0 := dr.1.size
                replace G := G.kept hd.1 hpB
                have hwr := G.o
                replace dr := hd.from dr.1
                obtain ⟨va, vc, rfl⟩ := own_sl ho
                replace ho := own_wide ho (B' := w1.heap.size) hw0
                clear hd
                have hb2 : ∀ w, (Instr.buildSlice 24 1 #[(0, fV X0 X1 (.slice va P.length vc))]).run Try.prog w = .ok (.slice (some ⟨w.heap.size, 0, none⟩) 1 1) (w.alloc (.cells #[.int .i64 X0, .int .i64 X1, .slice va P.length vc] 28)) := fun _ => by kernel_rfl
                obtain ⟨V8, hV8, A8, b8, -⟩ := boxed w7 28 #[.int .i64 X0, .int .i64 X1, .slice va P.length vc]
                obtain ⟨g8, hg8⟩ : ∃ g, w7.heap.size = g := ⟨_, rfl⟩
                rw [hg8] at A8
                have G8 := G.below b8
                have ho8 := own_below ho b8
                have dr8 := dr.below b8
                have news := newsF (x := (X0, X1, .slice va P.length vc, P)) A8
                have hLs : L.length + 1 ≤ 1000 := by omega
                clear G ho dr b8 A8
                go_wp2_with (at_builtin; refine Hid.out (?_ : Hid _))
                refine (?_ : wpList _ _ _ _ _ _)
                refine wpList_append_own _ rfl _ _ _ rfl w1.heap.size 28 i0 _ 3 40 Try.underlying24 hi0 hz0 hz1 hz2 rfl (by omega) (.slice (some ⟨g6, 0, none⟩) L.length c6) L.length (fCl L) rfl G8.own ⟨g8, 0, none⟩ 1 1 (fc (X0, X1, .slice va P.length vc, P)) rfl rfl news (fc_one _ va P.length vc rfl) (by unfold maxLen; omega) (by omega) G8.o ?_
                intro v9 w9 hown hgrow hne
                have G7 : Gf w9 w1.heap.size v9 (L ++ [(X0, X1, .slice va P.length vc, P)]) := G8.add ho8 hown hgrow (fun h => G8.nn (hne.1 h).1)
                have dr7 : Dr w1 p a len cap w9 := dr8.grown (N := w1.heap.size) (Below.grown (Below.refl _ _) hgrow G8.o (fun x hx => ownBlock_ge G8.own hx)) (Nat.le_refl _) hpB
                clear G8 ho8 dr8 news hown hgrow hne hV8 hb2 hg8
                obtain ⟨g9, c9, -, rfl, -, -, -, -, -⟩ := G7.open
                have hl9 : (L ++ [(X0, X1, Value.slice va P.length vc, P)]).length = L.length + 1 := by rw [List.length_append, List.length_singleton]
                have HG7 : Hid (Gf w9 w1.heap.size (.slice (some ⟨g9, 0, none⟩) (L ++ [(X0, X1, Value.slice va P.length vc, P)]).length c9) (L ++ [(X0, X1, Value.slice va P.length vc, P)])) := G7
                obtain ⟨L9, hL9⟩ : ∃ l, L ++ [(X0, X1, Value.slice va P.length vc, P)] = l := ⟨_, rfl⟩
                have hP9 : ∀ x ∈ L9, x.2.2.2.length ≤ 5000 := fun x hx => by
                  rw [← hL9] at hx
                  rcases List.mem_append.1 hx with z | z
                  · exact hP x z
                  · rw [List.mem_singleton.1 z]; exact (frame_len hPl HX0 HX1).2
                rw [hL9] at HG7 hl9 ⊢
                have H9 : Hid (L9.length = L.length + 1) := hl9
                clear hl9 hL9 G7
                go_wp2
                exact ⟨⟨L9, by have := H9.out; omega, hP9, HG7.out, dr7⟩, by simp only [lenV]; have := H9.out; omega⟩
              · have HB : Below w.heap.size w w10 := hb1.trans (dr.1.below (by omega) hsz)
                have GG := G.wide hsz
                go_wp2
                go_ret
                exact ⟨_, _, L, rfl, by omega, hP, GG, HB⟩
      · have hPP : ∀ x ∈ L, x.2.2.2.length ≤ 5000 := fun x hx => (hP x hx).2
        clear hP
        have hP := hPP
        clear hPP
        cases b
        · clear hb
          go_wp2_with fail
          refine (once_dr (Dr.start dr.2) 14 (by omega) (by omega)).mono ?_
          rintro e w7 ⟨b1, rfl, hd⟩
          replace G := G.kept hd.1 hpB
          replace dr := hd.from dr.1
          clear hd
          cases b1
          · have hL5 : L.length ≤ 5 := by omega
            go_wp2_with fail
            refine (once_dr (Dr.start dr.2) 60 (by omega) (by omega)).mono ?_
            rintro e w8 ⟨b2, rfl, hd⟩
            replace G := G.kept hd.1 hpB
            replace dr := hd.from dr.1
            clear hd
            cases b2
            · have HB : Below w.heap.size w w8 := hb1.trans (dr.1.below (by omega) hsz)
              have GG := G.wide hsz
              go_wp2
              go_ret
              exact ⟨_, _, L, rfl, by omega, hP, GG, HB⟩
            · go_wp2_with fail
              have HG : Hid (Gf w8 w1.heap.size (.slice (some ⟨g6, 0, none⟩) L.length c6) L) := G
              have HR : Hid (Dr w1 p a len cap w8) := dr
              have HP5 : Hid (∀ x ∈ L, x.2.2.2.length ≤ 5000) := hP
              clear G dr hP
              go_loopw [6] (fun s6 wr => ∃ L : List FrD, L.length ≤ 101 ∧ (∀ x ∈ L, x.2.2.2.length ≤ 5000) ∧ Gf wr w1.heap.size s6 L ∧ Dr w1 p a len cap wr) (fun s6 _ => 200 - lenV s6)
              case atStart => exact ⟨L, by omega, HP5.out, HG.out, HR.out⟩
              case round =>
                clear HG HR HP5 hL5
                obtain ⟨L, hL5, hP, G, dr⟩ := hrel
                obtain ⟨g6, c6, -, rfl, -, -, -, -, -⟩ := G.open
                go_wp2_with fail
                refine (below_dr (Dr.start dr.2) 2 (by omega) (by omega)).mono ?_
                rintro e w10 ⟨x3, rfl, x30, x31, hd⟩
                replace G := G.kept hd.1 hpB
                replace dr := hd.from dr.1
                clear hd
                by_cases hlt : (L.length : Int) < 100 + x3
                · go_wp2_with fail
                  refine (l12Draw_dr X0 X1 (Dr.start dr.2) (by omega) (by omega) (Nat.le_refl _)).mono ?_
                  rintro e w7 ⟨va0, P, rfl, ho, hPl, -, hd⟩
                  have hw0 := dr.1.size
                  replace G := G.kept hd.1 hpB
                  have hwr := G.o
                  replace dr := hd.from dr.1
                  obtain ⟨va, vc, rfl⟩ := own_sl ho
                  replace ho := own_wide ho (B' := w1.heap.size) hw0
                  clear hd
                  have hb2 : ∀ w, (Instr.buildSlice 24 1 #[(0, fV X0 X1 (.slice va P.length vc))]).run Try.prog w = .ok (.slice (some ⟨w.heap.size, 0, none⟩) 1 1) (w.alloc (.cells #[.int .i64 X0, .int .i64 X1, .slice va P.length vc] 28)) := fun _ => by kernel_rfl
                  obtain ⟨V8, hV8, A8, b8, -⟩ := boxed w7 28 #[.int .i64 X0, .int .i64 X1, .slice va P.length vc]
                  obtain ⟨g8, hg8⟩ : ∃ g, w7.heap.size = g := ⟨_, rfl⟩
                  rw [hg8] at A8
                  have G8 := G.below b8
                  have ho8 := own_below ho b8
                  have dr8 := dr.below b8
                  have news := newsF (x := (X0, X1, .slice va P.length vc, P)) A8
                  have hLs : L.length + 1 ≤ 1000 := by omega
                  clear G ho dr b8 A8
                  go_wp2_with (at_builtin; refine Hid.out (?_ : Hid _))
                  refine (?_ : wpList _ _ _ _ _ _)
                  refine wpList_append_own _ rfl _ _ _ rfl w1.heap.size 28 i0 _ 3 40 Try.underlying24 hi0 hz0 hz1 hz2 rfl (by omega) (.slice (some ⟨g6, 0, none⟩) L.length c6) L.length (fCl L) rfl G8.own ⟨g8, 0, none⟩ 1 1 (fc (X0, X1, .slice va P.length vc, P)) rfl rfl news (fc_one _ va P.length vc rfl) (by unfold maxLen; omega) (by omega) G8.o ?_
                  intro v9 w9 hown hgrow hne
                  have G7 : Gf w9 w1.heap.size v9 (L ++ [(X0, X1, .slice va P.length vc, P)]) := G8.add ho8 hown hgrow (fun h => G8.nn (hne.1 h).1)
                  have dr7 : Dr w1 p a len cap w9 := dr8.grown (N := w1.heap.size) (Below.grown (Below.refl _ _) hgrow G8.o (fun x hx => ownBlock_ge G8.own hx)) (Nat.le_refl _) hpB
                  clear G8 ho8 dr8 news hown hgrow hne hV8 hb2 hg8
                  obtain ⟨g9, c9, -, rfl, -, -, -, -, -⟩ := G7.open
                  have hl9 : (L ++ [(X0, X1, Value.slice va P.length vc, P)]).length = L.length + 1 := by rw [List.length_append, List.length_singleton]
                  have HG7 : Hid (Gf w9 w1.heap.size (.slice (some ⟨g9, 0, none⟩) (L ++ [(X0, X1, Value.slice va P.length vc, P)]).length c9) (L ++ [(X0, X1, Value.slice va P.length vc, P)])) := G7
                  obtain ⟨L9, hL9⟩ : ∃ l, L ++ [(X0, X1, Value.slice va P.length vc, P)] = l := ⟨_, rfl⟩
                  have hP9 : ∀ x ∈ L9, x.2.2.2.length ≤ 5000 := fun x hx => by
                    rw [← hL9] at hx
                    rcases List.mem_append.1 hx with z | z
                    · exact hP x z
                    · rw [List.mem_singleton.1 z]; exact (frame_len hPl HX0 HX1).2
                  rw [hL9] at HG7 hl9 ⊢
                  have H9 : Hid (L9.length = L.length + 1) := hl9
                  clear hl9 hL9 G7
                  go_wp2
                  exact ⟨⟨L9, by have := H9.out; omega, hP9, HG7.out, dr7⟩, by simp only [lenV]; have := H9.out; omega⟩
                · have HB : Below w.heap.size w w10 := hb1.trans (dr.1.below (by omega) hsz)
                  have GG := G.wide hsz
                  go_wp2
                  go_ret
                  exact ⟨_, _, L, rfl, by omega, hP, GG, HB⟩
          · go_wp2_with fail
            refine (l12DrawAny_dr (Dr.start dr.2) (Nat.le_refl _)).mono ?_
            rintro e w11 ⟨W5, H5, va0, P, rfl, ho, hPl, hd⟩
            have hw0 := dr.1.size
            replace G := G.kept hd.1 hpB
            have hwr := G.o
            replace dr := hd.from dr.1
            obtain ⟨va, vc, rfl⟩ := own_sl ho
            replace ho := own_wide ho (B' := w1.heap.size) hw0
            clear hd
            have hb2 : ∀ w, (Instr.buildSlice 24 1 #[(0, fV W5 H5 (.slice va P.length vc))]).run Try.prog w = .ok (.slice (some ⟨w.heap.size, 0, none⟩) 1 1) (w.alloc (.cells #[.int .i64 W5, .int .i64 H5, .slice va P.length vc] 28)) := fun _ => by kernel_rfl
            obtain ⟨V8, hV8, A8, b8, -⟩ := boxed w11 28 #[.int .i64 W5, .int .i64 H5, .slice va P.length vc]
            obtain ⟨g8, hg8⟩ : ∃ g, w11.heap.size = g := ⟨_, rfl⟩
            rw [hg8] at A8
            have G8 := G.below b8
            have ho8 := own_below ho b8
            have dr8 := dr.below b8
            have news := newsF (x := (W5, H5, .slice va P.length vc, P)) A8
            have hLs : L.length + 1 ≤ 1000 := by omega
            clear G ho dr b8 A8
            go_wp2_with (at_builtin; refine Hid.out (?_ : Hid _))
            refine (?_ : wpList _ _ _ _ _ _)
            refine wpList_append_own _ rfl _ _ _ rfl w1.heap.size 28 i0 _ 3 40 Try.underlying24 hi0 hz0 hz1 hz2 rfl (by omega) (.slice (some ⟨g6, 0, none⟩) L.length c6) L.length (fCl L) rfl G8.own ⟨g8, 0, none⟩ 1 1 (fc (W5, H5, .slice va P.length vc, P)) rfl rfl news (fc_one _ va P.length vc rfl) (by unfold maxLen; omega) (by omega) G8.o ?_
            intro v9 w9 hown hgrow hne
            have G7 : Gf w9 w1.heap.size v9 (L ++ [(W5, H5, .slice va P.length vc, P)]) := G8.add ho8 hown hgrow (fun h => G8.nn (hne.1 h).1)
            have dr7 : Dr w1 p a len cap w9 := dr8.grown (N := w1.heap.size) (Below.grown (Below.refl _ _) hgrow G8.o (fun x hx => ownBlock_ge G8.own hx)) (Nat.le_refl _) hpB
            clear G8 ho8 dr8 news hown hgrow hne hV8 hb2 hg8
            obtain ⟨g9, c9, -, rfl, -, -, -, -, -⟩ := G7.open
            obtain ⟨L9, hL9⟩ : ∃ l, L ++ [(W5, H5, Value.slice va P.length vc, P)] = l := ⟨_, rfl⟩
            have hl9 : L9.length = L.length + 1 := by rw [← hL9, List.length_append, List.length_singleton]
            have hP9 : ∀ x ∈ L9, x.2.2.2.length ≤ 5000 := fun x hx => by
              rw [← hL9] at hx
              rcases List.mem_append.1 hx with z | z
              · exact hP x z
              · rw [List.mem_singleton.1 z]; exact hPl
            rw [hL9] at G7 ⊢
            have hL5 : L9.length ≤ 5 := by omega
            clear hL9 hP hL4 hl9
            clear hLs hwr
            have hP := hP9
            clear hP9
            generalize hLL : L9 = L at *
            clear hLL
            have G := G7
            have dr := dr7
            clear G7 dr7
            generalize g9 = g6 at *
            generalize c9 = c6 at *
            go_wp2_with fail
            refine (once_dr (Dr.start dr.2) 60 (by omega) (by omega)).mono ?_
            rintro e w8 ⟨b2, rfl, hd⟩
            replace G := G.kept hd.1 hpB
            replace dr := hd.from dr.1
            clear hd
            cases b2
            · have HB : Below w.heap.size w w8 := hb1.trans (dr.1.below (by omega) hsz)
              have GG := G.wide hsz
              go_wp2
              go_ret
              exact ⟨_, _, L, rfl, by omega, hP, GG, HB⟩
            · go_wp2_with fail
              have HG : Hid (Gf w8 w1.heap.size (.slice (some ⟨g6, 0, none⟩) L.length c6) L) := G
              have HR : Hid (Dr w1 p a len cap w8) := dr
              have HP5 : Hid (∀ x ∈ L, x.2.2.2.length ≤ 5000) := hP
              clear G dr hP
              go_loopw [6] (fun s6 wr => ∃ L : List FrD, L.length ≤ 101 ∧ (∀ x ∈ L, x.2.2.2.length ≤ 5000) ∧ Gf wr w1.heap.size s6 L ∧ Dr w1 p a len cap wr) (fun s6 _ => 200 - lenV s6)
              case atStart => exact ⟨L, by omega, HP5.out, HG.out, HR.out⟩
              case round =>
                clear HG HR HP5 hL5
                obtain ⟨L, hL5, hP, G, dr⟩ := hrel
                obtain ⟨g6, c6, -, rfl, -, -, -, -, -⟩ := G.open
                go_wp2_with fail
                refine (below_dr (Dr.start dr.2) 2 (by omega) (by omega)).mono ?_
                rintro e w10 ⟨x3, rfl, x30, x31, hd⟩
                replace G := G.kept hd.1 hpB
                replace dr := hd.from dr.1
                clear hd
                by_cases hlt : (L.length : Int) < 100 + x3
                · go_wp2_with fail
                  refine (l12Draw_dr X0 X1 (Dr.start dr.2) (by omega) (by omega) (Nat.le_refl _)).mono ?_
                  rintro e w7 ⟨va0, P, rfl, ho, hPl, -, hd⟩
                  have hw0 := dr.1.size
                  replace G := G.kept hd.1 hpB
                  have hwr := G.o
                  replace dr := hd.from dr.1
                  obtain ⟨va, vc, rfl⟩ := own_sl ho
                  replace ho := own_wide ho (B' := w1.heap.size) hw0
                  clear hd
                  have hb2 : ∀ w, (Instr.buildSlice 24 1 #[(0, fV X0 X1 (.slice va P.length vc))]).run Try.prog w = .ok (.slice (some ⟨w.heap.size, 0, none⟩) 1 1) (w.alloc (.cells #[.int .i64 X0, .int .i64 X1, .slice va P.length vc] 28)) := fun _ => by kernel_rfl
                  obtain ⟨V8, hV8, A8, b8, -⟩ := boxed w7 28 #[.int .i64 X0, .int .i64 X1, .slice va P.length vc]
                  obtain ⟨g8, hg8⟩ : ∃ g, w7.heap.size = g := ⟨_, rfl⟩
                  rw [hg8] at A8
                  have G8 := G.below b8
                  have ho8 := own_below ho b8
                  have dr8 := dr.below b8
                  have news := newsF (x := (X0, X1, .slice va P.length vc, P)) A8
                  have hLs : L.length + 1 ≤ 1000 := by omega
                  clear G ho dr b8 A8
                  go_wp2_with (at_builtin; refine Hid.out (?_ : Hid _))
                  refine (?_ : wpList _ _ _ _ _ _)
                  refine wpList_append_own _ rfl _ _ _ rfl w1.heap.size 28 i0 _ 3 40 Try.underlying24 hi0 hz0 hz1 hz2 rfl (by omega) (.slice (some ⟨g6, 0, none⟩) L.length c6) L.length (fCl L) rfl G8.own ⟨g8, 0, none⟩ 1 1 (fc (X0, X1, .slice va P.length vc, P)) rfl rfl news (fc_one _ va P.length vc rfl) (by unfold maxLen; omega) (by omega) G8.o ?_
                  intro v9 w9 hown hgrow hne
                  have G7 : Gf w9 w1.heap.size v9 (L ++ [(X0, X1, .slice va P.length vc, P)]) := G8.add ho8 hown hgrow (fun h => G8.nn (hne.1 h).1)
                  have dr7 : Dr w1 p a len cap w9 := dr8.grown (N := w1.heap.size) (Below.grown (Below.refl _ _) hgrow G8.o (fun x hx => ownBlock_ge G8.own hx)) (Nat.le_refl _) hpB
                  clear G8 ho8 dr8 news hown hgrow hne hV8 hb2 hg8
                  obtain ⟨g9, c9, -, rfl, -, -, -, -, -⟩ := G7.open
                  have hl9 : (L ++ [(X0, X1, Value.slice va P.length vc, P)]).length = L.length + 1 := by rw [List.length_append, List.length_singleton]
                  have HG7 : Hid (Gf w9 w1.heap.size (.slice (some ⟨g9, 0, none⟩) (L ++ [(X0, X1, Value.slice va P.length vc, P)]).length c9) (L ++ [(X0, X1, Value.slice va P.length vc, P)])) := G7
                  obtain ⟨L9, hL9⟩ : ∃ l, L ++ [(X0, X1, Value.slice va P.length vc, P)] = l := ⟨_, rfl⟩
                  have hP9 : ∀ x ∈ L9, x.2.2.2.length ≤ 5000 := fun x hx => by
                    rw [← hL9] at hx
                    rcases List.mem_append.1 hx with z | z
                    · exact hP x z
                    · rw [List.mem_singleton.1 z]; exact (frame_len hPl HX0 HX1).2
                  rw [hL9] at HG7 hl9 ⊢
                  have H9 : Hid (L9.length = L.length + 1) := hl9
                  clear hl9 hL9 G7
                  go_wp2
                  exact ⟨⟨L9, by have := H9.out; omega, hP9, HG7.out, dr7⟩, by simp only [lenV]; have := H9.out; omega⟩
                · have HB : Below w.heap.size w w10 := hb1.trans (dr.1.below (by omega) hsz)
                  have GG := G.wide hsz
                  go_wp2
                  go_ret
                  exact ⟨_, _, L, rfl, by omega, hP, GG, HB⟩
        · have hL0 : L.length = 0 := by
            by_cases h : 0 < L.length
            · exact absurd ⟨rfl, h⟩ hb
            · omega
          have hL0' : ¬ (0 : Int) < (L.length : Int) := by omega
          clear hb hL0
          go_wp2_with fail
          clear hL0'
          refine (once_dr (Dr.start dr.2) 14 (by omega) (by omega)).mono ?_
          rintro e w7 ⟨b1, rfl, hd⟩
          replace G := G.kept hd.1 hpB
          replace dr := hd.from dr.1
          clear hd
          cases b1
          · have hL5 : L.length ≤ 5 := by omega
            go_wp2_with fail
            refine (once_dr (Dr.start dr.2) 60 (by omega) (by omega)).mono ?_
            rintro e w8 ⟨b2, rfl, hd⟩
            replace G := G.kept hd.1 hpB
            replace dr := hd.from dr.1
            clear hd
            cases b2
            · have HB : Below w.heap.size w w8 := hb1.trans (dr.1.below (by omega) hsz)
              have GG := G.wide hsz
              go_wp2
              go_ret
              exact ⟨_, _, L, rfl, by omega, hP, GG, HB⟩
            · go_wp2_with fail
              have HG : Hid (Gf w8 w1.heap.size (.slice (some ⟨g6, 0, none⟩) L.length c6) L) := G
              have HR : Hid (Dr w1 p a len cap w8) := dr
              have HP5 : Hid (∀ x ∈ L, x.2.2.2.length ≤ 5000) := hP
              clear G dr hP
              go_loopw [6] (fun s6 wr => ∃ L : List FrD, L.length ≤ 101 ∧ (∀ x ∈ L, x.2.2.2.length ≤ 5000) ∧ Gf wr w1.heap.size s6 L ∧ Dr w1 p a len cap wr) (fun s6 _ => 200 - lenV s6)
              case atStart => exact ⟨L, by omega, HP5.out, HG.out, HR.out⟩
              case round =>
                clear HG HR HP5 hL5
                obtain ⟨L, hL5, hP, G, dr⟩ := hrel
                obtain ⟨g6, c6, -, rfl, -, -, -, -, -⟩ := G.open
                go_wp2_with fail
                refine (below_dr (Dr.start dr.2) 2 (by omega) (by omega)).mono ?_
                rintro e w10 ⟨x3, rfl, x30, x31, hd⟩
                replace G := G.kept hd.1 hpB
                replace dr := hd.from dr.1
                clear hd
                by_cases hlt : (L.length : Int) < 100 + x3
                · go_wp2_with fail
                  refine (l12Draw_dr X0 X1 (Dr.start dr.2) (by omega) (by omega) (Nat.le_refl _)).mono ?_
                  rintro e w7 ⟨va0, P, rfl, ho, hPl, -, hd⟩
                  have hw0 := dr.1.size
                  replace G := G.kept hd.1 hpB
                  have hwr := G.o
                  replace dr := hd.from dr.1
                  obtain ⟨va, vc, rfl⟩ := own_sl ho
                  replace ho := own_wide ho (B' := w1.heap.size) hw0
                  clear hd
                  have hb2 : ∀ w, (Instr.buildSlice 24 1 #[(0, fV X0 X1 (.slice va P.length vc))]).run Try.prog w = .ok (.slice (some ⟨w.heap.size, 0, none⟩) 1 1) (w.alloc (.cells #[.int .i64 X0, .int .i64 X1, .slice va P.length vc] 28)) := fun _ => by kernel_rfl
                  obtain ⟨V8, hV8, A8, b8, -⟩ := boxed w7 28 #[.int .i64 X0, .int .i64 X1, .slice va P.length vc]
                  obtain ⟨g8, hg8⟩ : ∃ g, w7.heap.size = g := ⟨_, rfl⟩
                  rw [hg8] at A8
                  have G8 := G.below b8
                  have ho8 := own_below ho b8
                  have dr8 := dr.below b8
                  have news := newsF (x := (X0, X1, .slice va P.length vc, P)) A8
                  have hLs : L.length + 1 ≤ 1000 := by omega
                  clear G ho dr b8 A8
                  go_wp2_with (at_builtin; refine Hid.out (?_ : Hid _))
                  refine (?_ : wpList _ _ _ _ _ _)
                  refine wpList_append_own _ rfl _ _ _ rfl w1.heap.size 28 i0 _ 3 40 Try.underlying24 hi0 hz0 hz1 hz2 rfl (by omega) (.slice (some ⟨g6, 0, none⟩) L.length c6) L.length (fCl L) rfl G8.own ⟨g8, 0, none⟩ 1 1 (fc (X0, X1, .slice va P.length vc, P)) rfl rfl news (fc_one _ va P.length vc rfl) (by unfold maxLen; omega) (by omega) G8.o ?_
                  intro v9 w9 hown hgrow hne
                  have G7 : Gf w9 w1.heap.size v9 (L ++ [(X0, X1, .slice va P.length vc, P)]) := G8.add ho8 hown hgrow (fun h => G8.nn (hne.1 h).1)
                  have dr7 : Dr w1 p a len cap w9 := dr8.grown (N := w1.heap.size) (Below.grown (Below.refl _ _) hgrow G8.o (fun x hx => ownBlock_ge G8.own hx)) (Nat.le_refl _) hpB
                  clear G8 ho8 dr8 news hown hgrow hne hV8 hb2 hg8
                  obtain ⟨g9, c9, -, rfl, -, -, -, -, -⟩ := G7.open
                  have hl9 : (L ++ [(X0, X1, Value.slice va P.length vc, P)]).length = L.length + 1 := by rw [List.length_append, List.length_singleton]
                  have HG7 : Hid (Gf w9 w1.heap.size (.slice (some ⟨g9, 0, none⟩) (L ++ [(X0, X1, Value.slice va P.length vc, P)]).length c9) (L ++ [(X0, X1, Value.slice va P.length vc, P)])) := G7
                  obtain ⟨L9, hL9⟩ : ∃ l, L ++ [(X0, X1, Value.slice va P.length vc, P)] = l := ⟨_, rfl⟩
                  have hP9 : ∀ x ∈ L9, x.2.2.2.length ≤ 5000 := fun x hx => by
                    rw [← hL9] at hx
                    rcases List.mem_append.1 hx with z | z
                    · exact hP x z
                    · rw [List.mem_singleton.1 z]; exact (frame_len hPl HX0 HX1).2
                  rw [hL9] at HG7 hl9 ⊢
                  have H9 : Hid (L9.length = L.length + 1) := hl9
                  clear hl9 hL9 G7
                  go_wp2
                  exact ⟨⟨L9, by have := H9.out; omega, hP9, HG7.out, dr7⟩, by simp only [lenV]; have := H9.out; omega⟩
                · have HB : Below w.heap.size w w10 := hb1.trans (dr.1.below (by omega) hsz)
                  have GG := G.wide hsz
                  go_wp2
                  go_ret
                  exact ⟨_, _, L, rfl, by omega, hP, GG, HB⟩
          · go_wp2_with fail
            refine (l12DrawAny_dr (Dr.start dr.2) (Nat.le_refl _)).mono ?_
            rintro e w11 ⟨W5, H5, va0, P, rfl, ho, hPl, hd⟩
            have hw0 := dr.1.size
            replace G := G.kept hd.1 hpB
            have hwr := G.o
            replace dr := hd.from dr.1
            obtain ⟨va, vc, rfl⟩ := own_sl ho
            replace ho := own_wide ho (B' := w1.heap.size) hw0
            clear hd
            have hb2 : ∀ w, (Instr.buildSlice 24 1 #[(0, fV W5 H5 (.slice va P.length vc))]).run Try.prog w = .ok (.slice (some ⟨w.heap.size, 0, none⟩) 1 1) (w.alloc (.cells #[.int .i64 W5, .int .i64 H5, .slice va P.length vc] 28)) := fun _ => by kernel_rfl
            obtain ⟨V8, hV8, A8, b8, -⟩ := boxed w11 28 #[.int .i64 W5, .int .i64 H5, .slice va P.length vc]
            obtain ⟨g8, hg8⟩ : ∃ g, w11.heap.size = g := ⟨_, rfl⟩
            rw [hg8] at A8
            have G8 := G.below b8
            have ho8 := own_below ho b8
            have dr8 := dr.below b8
            have news := newsF (x := (W5, H5, .slice va P.length vc, P)) A8
            have hLs : L.length + 1 ≤ 1000 := by omega
            clear G ho dr b8 A8
            go_wp2_with (at_builtin; refine Hid.out (?_ : Hid _))
            refine (?_ : wpList _ _ _ _ _ _)
            refine wpList_append_own _ rfl _ _ _ rfl w1.heap.size 28 i0 _ 3 40 Try.underlying24 hi0 hz0 hz1 hz2 rfl (by omega) (.slice (some ⟨g6, 0, none⟩) L.length c6) L.length (fCl L) rfl G8.own ⟨g8, 0, none⟩ 1 1 (fc (W5, H5, .slice va P.length vc, P)) rfl rfl news (fc_one _ va P.length vc rfl) (by unfold maxLen; omega) (by omega) G8.o ?_
            intro v9 w9 hown hgrow hne
            have G7 : Gf w9 w1.heap.size v9 (L ++ [(W5, H5, .slice va P.length vc, P)]) := G8.add ho8 hown hgrow (fun h => G8.nn (hne.1 h).1)
            have dr7 : Dr w1 p a len cap w9 := dr8.grown (N := w1.heap.size) (Below.grown (Below.refl _ _) hgrow G8.o (fun x hx => ownBlock_ge G8.own hx)) (Nat.le_refl _) hpB
            clear G8 ho8 dr8 news hown hgrow hne hV8 hb2 hg8
            obtain ⟨g9, c9, -, rfl, -, -, -, -, -⟩ := G7.open
            obtain ⟨L9, hL9⟩ : ∃ l, L ++ [(W5, H5, Value.slice va P.length vc, P)] = l := ⟨_, rfl⟩
            have hl9 : L9.length = L.length + 1 := by rw [← hL9, List.length_append, List.length_singleton]
            have hP9 : ∀ x ∈ L9, x.2.2.2.length ≤ 5000 := fun x hx => by
              rw [← hL9] at hx
              rcases List.mem_append.1 hx with z | z
              · exact hP x z
              · rw [List.mem_singleton.1 z]; exact hPl
            rw [hL9] at G7 ⊢
            have hL5 : L9.length ≤ 5 := by omega
            clear hL9 hP hL4 hl9
            clear hLs hwr
            have hP := hP9
            clear hP9
            generalize hLL : L9 = L at *
            clear hLL
            have G := G7
            have dr := dr7
            clear G7 dr7
            generalize g9 = g6 at *
            generalize c9 = c6 at *
            go_wp2_with fail
            refine (once_dr (Dr.start dr.2) 60 (by omega) (by omega)).mono ?_
            rintro e w8 ⟨b2, rfl, hd⟩
            replace G := G.kept hd.1 hpB
            replace dr := hd.from dr.1
            clear hd
            cases b2
            · have HB : Below w.heap.size w w8 := hb1.trans (dr.1.below (by omega) hsz)
              have GG := G.wide hsz
              go_wp2
              go_ret
              exact ⟨_, _, L, rfl, by omega, hP, GG, HB⟩
            · go_wp2_with fail
              have HG : Hid (Gf w8 w1.heap.size (.slice (some ⟨g6, 0, none⟩) L.length c6) L) := G
              have HR : Hid (Dr w1 p a len cap w8) := dr
              have HP5 : Hid (∀ x ∈ L, x.2.2.2.length ≤ 5000) := hP
              clear G dr hP
              go_loopw [6] (fun s6 wr => ∃ L : List FrD, L.length ≤ 101 ∧ (∀ x ∈ L, x.2.2.2.length ≤ 5000) ∧ Gf wr w1.heap.size s6 L ∧ Dr w1 p a len cap wr) (fun s6 _ => 200 - lenV s6)
              case atStart => exact ⟨L, by omega, HP5.out, HG.out, HR.out⟩
              case round =>
                clear HG HR HP5 hL5
                obtain ⟨L, hL5, hP, G, dr⟩ := hrel
                obtain ⟨g6, c6, -, rfl, -, -, -, -, -⟩ := G.open
                go_wp2_with fail
                refine (below_dr (Dr.start dr.2) 2 (by omega) (by omega)).mono ?_
                rintro e w10 ⟨x3, rfl, x30, x31, hd⟩
                replace G := G.kept hd.1 hpB
                replace dr := hd.from dr.1
                clear hd
                by_cases hlt : (L.length : Int) < 100 + x3
                · go_wp2_with fail
                  refine (l12Draw_dr X0 X1 (Dr.start dr.2) (by omega) (by omega) (Nat.le_refl _)).mono ?_
                  rintro e w7 ⟨va0, P, rfl, ho, hPl, -, hd⟩
                  have hw0 := dr.1.size
                  replace G := G.kept hd.1 hpB
                  have hwr := G.o
                  replace dr := hd.from dr.1
                  obtain ⟨va, vc, rfl⟩ := own_sl ho
                  replace ho := own_wide ho (B' := w1.heap.size) hw0
                  clear hd
                  have hb2 : ∀ w, (Instr.buildSlice 24 1 #[(0, fV X0 X1 (.slice va P.length vc))]).run Try.prog w = .ok (.slice (some ⟨w.heap.size, 0, none⟩) 1 1) (w.alloc (.cells #[.int .i64 X0, .int .i64 X1, .slice va P.length vc] 28)) := fun _ => by kernel_rfl
                  obtain ⟨V8, hV8, A8, b8, -⟩ := boxed w7 28 #[.int .i64 X0, .int .i64 X1, .slice va P.length vc]
                  obtain ⟨g8, hg8⟩ : ∃ g, w7.heap.size = g := ⟨_, rfl⟩
                  rw [hg8] at A8
                  have G8 := G.below b8
                  have ho8 := own_below ho b8
                  have dr8 := dr.below b8
                  have news := newsF (x := (X0, X1, .slice va P.length vc, P)) A8
                  have hLs : L.length + 1 ≤ 1000 := by omega
                  clear G ho dr b8 A8
                  go_wp2_with (at_builtin; refine Hid.out (?_ : Hid _))
                  refine (?_ : wpList _ _ _ _ _ _)
                  refine wpList_append_own _ rfl _ _ _ rfl w1.heap.size 28 i0 _ 3 40 Try.underlying24 hi0 hz0 hz1 hz2 rfl (by omega) (.slice (some ⟨g6, 0, none⟩) L.length c6) L.length (fCl L) rfl G8.own ⟨g8, 0, none⟩ 1 1 (fc (X0, X1, .slice va P.length vc, P)) rfl rfl news (fc_one _ va P.length vc rfl) (by unfold maxLen; omega) (by omega) G8.o ?_
                  intro v9 w9 hown hgrow hne
                  have G7 : Gf w9 w1.heap.size v9 (L ++ [(X0, X1, .slice va P.length vc, P)]) := G8.add ho8 hown hgrow (fun h => G8.nn (hne.1 h).1)
                  have dr7 : Dr w1 p a len cap w9 := dr8.grown (N := w1.heap.size) (Below.grown (Below.refl _ _) hgrow G8.o (fun x hx => ownBlock_ge G8.own hx)) (Nat.le_refl _) hpB
                  clear G8 ho8 dr8 news hown hgrow hne hV8 hb2 hg8
                  obtain ⟨g9, c9, -, rfl, -, -, -, -, -⟩ := G7.open
                  have hl9 : (L ++ [(X0, X1, Value.slice va P.length vc, P)]).length = L.length + 1 := by rw [List.length_append, List.length_singleton]
                  have HG7 : Hid (Gf w9 w1.heap.size (.slice (some ⟨g9, 0, none⟩) (L ++ [(X0, X1, Value.slice va P.length vc, P)]).length c9) (L ++ [(X0, X1, Value.slice va P.length vc, P)])) := G7
                  obtain ⟨L9, hL9⟩ : ∃ l, L ++ [(X0, X1, Value.slice va P.length vc, P)] = l := ⟨_, rfl⟩
                  have hP9 : ∀ x ∈ L9, x.2.2.2.length ≤ 5000 := fun x hx => by
                    rw [← hL9] at hx
                    rcases List.mem_append.1 hx with z | z
                    · exact hP x z
                    · rw [List.mem_singleton.1 z]; exact (frame_len hPl HX0 HX1).2
                  rw [hL9] at HG7 hl9 ⊢
                  have H9 : Hid (L9.length = L.length + 1) := hl9
                  clear hl9 hL9 G7
                  go_wp2
                  exact ⟨⟨L9, by have := H9.out; omega, hP9, HG7.out, dr7⟩, by simp only [lenV]; have := H9.out; omega⟩
                · have HB : Below w.heap.size w w10 := hb1.trans (dr.1.below (by omega) hsz)
                  have GG := G.wide hsz
                  go_wp2
                  go_ret
                  exact ⟨_, _, L, rfl, by omega, hP, GG, HB⟩
end Go.Proofs.Ytlofbgkefalpoaa
