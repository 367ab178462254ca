/-
  The law of Cosets: walked.
-/
import Derived.Test.YtehbpcoiciodhaaB17w
namespace Go.Proofs.Ytehbpcoiciodhaa
open Go.RowKit

theorem alike_key {x y : OpD} (hx : x.n = 9 ∧ x.k = 3) (hy : y.n = 9 ∧ y.k = 3) (e : kV x.key = kV y.key) : x.n = y.n ∧ x.k = y.k ∧ (∀ j, j < x.n → x.f j = y.f j) ∧ ∀ j, j < x.k → x.h j = y.h j := by
  obtain ⟨h1, h2⟩ := kV_ext.1 e
  refine ⟨by rw [hx.1, hy.1], by rw [hx.2, hy.2], fun i hi => ?_, fun i hi => ?_⟩
  · rw [hx.1] at hi
    rw [← key_lo x hi, ← key_lo y hi]; exact h1 i hi
  · rw [hx.2] at hi
    rw [← key_hi x i, ← key_hi y i]; exact h2 i hi
theorem LsA.alike {w : World} {lo L m : Nat} {v : Value} {V : Nat → Value} {S T : Nat → Nat} {B B' : Nat → Nat → OpD} (h : LsA w lo v L V m S T B) (e : ∀ s, s < L → ∀ k, k < m → (B s k).n = (B' s k).n ∧ (B s k).k = (B' s k).k ∧ (∀ j, j < (B s k).n → (B s k).f j = (B' s k).f j) ∧ ∀ j, j < (B s k).k → (B s k).h j = (B' s k).h j) : LsA w lo v L V m S T B' :=
  ⟨h.row, h.nn, fun j hj => by
    obtain ⟨g, c, X, Y, e1, r⟩ := h.el j hj
    exact ⟨g, c, X, Y, e1, r.alike (e j hj)⟩, h.st, h.ord, h.ob⟩
theorem LsA.turn {w w' : World} {lo hi lo' L m : Nat} {v : Value} {V : Nat → Value} {S T : Nat → Nat} {B : Nat → Nat → OpD} (h : LsA w lo v L V m S T B) (ht : Turn lo' hi w w') (hd : hi ≤ lo) : LsA w' lo v L V m S T B := by
  refine ⟨?_, h.nn, fun j hj => ?_, fun j hj => ⟨(h.st j hj).1, Nat.le_trans (h.st j hj).2 ht.size⟩, h.ord, h.ob⟩
  · obtain ⟨e0, h1 | ⟨g', c', cur, e2, hb, hh, r⟩⟩ := h.row
    · exact ⟨e0, .inl h1⟩
    · exact ⟨e0, .inr ⟨g', c', cur, e2, hb, (ht.block g' (Array.getElem?_eq_some_iff.1 hh).1 (.inr (Nat.le_trans hd hb))).trans hh, r⟩⟩
  · obtain ⟨g, c, X, Y, e1, r⟩ := h.el j hj
    exact ⟨g, c, X, Y, e1, r.turn ht (.inr (Nat.le_trans hd (h.st j hj).1))⟩
/-- Lists of operators that lie below hi. -/
def LsQ (w : World) (hi g L m : Nat) (B : Nat → Nat → OpD) : Prop := g < hi ∧ hi ≤ w.heap.size ∧ ∀ j, j < L → ∃ q c, w.cell? ⟨g, j, none⟩ = some (.slice (some ⟨q, 0, none⟩) m c) ∧ ∃ lo, OpsR w lo hi q m (B j)
theorem LsQ.below {w w' : World} {hi g L m : Nat} {B : Nat → Nat → OpD} (h : LsQ w hi g L m B) (hb : Below w.heap.size w w') : LsQ w' hi g L m B := by
  obtain ⟨h1, h2, h3⟩ := h
  refine ⟨h1, Nat.le_trans h2 hb.size, fun j hj => ?_⟩
  obtain ⟨q, c, e, lo, r⟩ := h3 j hj
  exact ⟨q, c, (hb.cell (p := ⟨g, j, none⟩) (Nat.lt_of_lt_of_le h1 h2)).trans e, lo, r.below hb⟩
theorem LsQ.turn {w w' : World} {hi g L m lo' hi' : Nat} {B : Nat → Nat → OpD} (h : LsQ w hi g L m B) (ht : Turn lo' hi' w w') (hd : hi ≤ lo') : LsQ w' hi g L m B := by
  obtain ⟨h1, h2, h3⟩ := h
  refine ⟨h1, Nat.le_trans h2 ht.size, fun j hj => ?_⟩
  obtain ⟨q, c, e, lo, r⟩ := h3 j hj
  have hbl := ht.block g (Nat.lt_of_lt_of_le h1 h2) (.inl (Nat.lt_of_lt_of_le h1 hd))
  refine ⟨q, c, ?_, lo, r.turn ht (.inl hd)⟩
  rw [← e]
  simp only [World.cell?, hbl]
theorem LsQ.lsL {w : World} {hi g L m : Nat} {B : Nat → Nat → OpD} (h : LsQ w hi g L m B) : LsL w g L m B := by
  obtain ⟨h1, h2, h3⟩ := h
  refine ⟨Nat.lt_of_lt_of_le h1 h2, fun j hj => ?_⟩
  obtain ⟨q, c, e, lo, r⟩ := h3 j hj
  exact ⟨q, c, e, r.opsL⟩
theorem LsP.lsQ {w : World} {lo L m : Nat} {v : Value} {V : Nat → Value} {B : Nat → Nat → OpD} (h : LsP w lo v L V m B) : ∃ g c, v = .slice (some ⟨g, 0, none⟩) L c ∧ LsQ w w.heap.size g L m B := by
  obtain ⟨g, c, cur, rfl, hb, a, e⟩ := h.open
  refine ⟨g, c, rfl, a.lt, Nat.le_refl _, fun j hj => ?_⟩
  obtain ⟨q, d, e2, r⟩ := h.el j hj
  exact ⟨q, d, by rw [← e2]; exact a.cell _ (e j hj), lo, r⟩
/-- Numbers of the answer. -/
theorem cos_num {n m L : Nat} {A C : Nat → OpD} {B : Nat → Nat → OpD} (h : CosT n A m C L B) : L ≤ 192 ∧ L * m ≤ 200 ∧ (0 < L → m ≤ 192) := by
  rcases h with ⟨hS, h1, -⟩ | ⟨-, h1⟩
  · have h2 := hS.some
    have h3 := hS.count
    have h4 := hS.g.1
    have h5 := hS.h.1
    rw [← h1] at h2 h3
    exact ⟨h2.2.2.2, by omega, fun _ => h5⟩
  · subst h1
    exact ⟨by omega, by omega, fun h => by omega⟩
set_option maxRecDepth 100000 in
set_option maxHeartbeats 3000000 in
theorem exactCosets_walk {w : World} {a b : Option Addr} {n m cap cap' : Nat} {A C : Nat → OpD} (hS : OpsS w a n A) (hn : n ≤ maxLen) (hS2 : OpsS w b m C) (hm : m ≤ maxLen) :
    Calls Try.prog 4 #[.slice a n cap, .slice b m cap'] w fun e w' => e = .returned (.bool true) ∧ Below w.heap.size w w' := by
  have HS := hid_of hS
  have HS2 := hid_of hS2
  clear hS hS2
  go_enter Try.func4, Try.ntmps4
  go_wp2_with fail
  refine (szOpS_from 1048576 ⟨by omega, by omega⟩ HS.out hn).mono ?_
  rintro e w1 ⟨rr, rfl, hr, b1⟩
  have HB := hid_of b1
  clear b1
  rcases hr with rfl | ⟨h0, h0', hsh, htot⟩
  · go_wp2
    go_ret
    exact ⟨rfl, HB.out⟩
  have h1 : ¬ rr < 0 := by omega
  have HSH := hid_of hsh
  have HTT := hid_of htot
  clear hsh htot
  go_wp2_with fail
  refine (szOpS_from rr ⟨h0, h0'⟩ (HS2.out.below HB.out) hm).mono ?_
  rintro e w2 ⟨r2, rfl, hr, b2⟩
  replace HB := hid_of (HB.out.trans (b2.mono HB.out.size))
  clear b2
  rcases hr with rfl | ⟨g0, -, hsh, htot⟩
  · go_wp2
    go_ret
    exact ⟨rfl, HB.out⟩
  have h2 : ¬ r2 < 0 := by omega
  have HSH2 := hid_of hsh
  have HTT2 := hid_of htot
  clear hsh htot h0 h0'
  go_wp2_with fail
  refine (toOpS_any (HS.out.below HB.out) HSH.out).mono ?_
  rintro e w3 ⟨g3, rfl, L3, b3⟩
  have HL3 := hid_of L3
  replace HB := hid_of (HB.out.trans (b3.mono HB.out.size))
  clear L3 b3
  go_wp2_with fail
  refine (toOpS_any (HS2.out.below HB.out) HSH2.out).mono ?_
  rintro e w4 ⟨g4, rfl, L4, b4⟩
  have HL4 := hid_of L4
  replace HL3 := hid_of (HL3.out.below b4)
  replace HB := hid_of (HB.out.trans (b4.mono HB.out.size))
  clear L4 b4
  go_wp2_with fail
  refine (specCosets_any HL3.out HL4.out HSH.out.1 HSH2.out.1).mono ?_
  rintro e w5 ⟨⟨v0, L, V0, E, rfl, LS, CT0, SH0⟩, b5⟩
  obtain ⟨g5, c5, rfl, Q5⟩ := LS.lsQ
  obtain ⟨hL2, hLm, hm2⟩ := cos_num CT0
  have HCT := hid_of CT0
  have HE := hid_of SH0
  have HSE : Hid (∀ s, s < L → Short m (E s)) := fun s hs => ⟨by have := hm2 (by omega); omega, fun k hk => by rw [(SH0 s hs k hk).1, (SH0 s hs k hk).2]; omega⟩
  obtain ⟨lo0, el0⟩ : ∃ q, w5.heap.size = q := ⟨_, rfl⟩
  rw [el0] at Q5
  have O := hid_of Q5
  replace HB := hid_of (HB.out.trans (b5.mono HB.out.size))
  have hw0 : Hid (w.heap.size ≤ lo0) := el0 ▸ HB.out.size
  clear LS CT0 SH0 Q5 b5 hm2 HL3 HL4
  go_wp2_with fail
  refine (toOpS_own (HS.out.below HB.out) HSH.out).mono ?_
  rintro e w6 ⟨X1, Y1, rfl, hO1, b6⟩
  replace O := hid_of (O.out.below b6)
  replace HB := hid_of (HB.out.trans (b6.mono HB.out.size))
  have h01 : Hid (lo0 ≤ w6.heap.size) := el0 ▸ b6.size
  obtain ⟨hi0, eh0⟩ : ∃ q, w6.heap.size = q := ⟨_, rfl⟩
  rw [eh0] at hO1 h01
  rw [el0] at hO1 ⊢
  have O1 := hid_of hO1
  clear hO1 b6 el0
  go_wp2_with fail
  refine (toOpS_own (HS2.out.below HB.out) HSH2.out).mono ?_
  rintro e w7 ⟨X2, Y2, rfl, hO2, b7⟩
  replace O := hid_of (O.out.below b7)
  replace O1 := hid_of (O1.out.below b7)
  replace HB := hid_of (HB.out.trans (b7.mono HB.out.size))
  have h12 : Hid (hi0 ≤ w7.heap.size) := eh0 ▸ b7.size
  obtain ⟨hi1, eh1⟩ : ∃ q, w7.heap.size = q := ⟨_, rfl⟩
  rw [eh1] at hO2 h12
  rw [eh0] at hO2 ⊢
  have O2 := hid_of hO2
  clear hO2 b7 eh0
  go_wp2_with fail
  refine (implCosets_any O1.out.opsL O2.out.opsL HSH.out.1 HSH2.out.1).mono ?_
  rintro e w8 ⟨⟨v8, L8, V8, S8, T8, G8, rfl, LA, CT⟩, b8⟩
  obtain ⟨eL, eK⟩ := cos_same CT HCT.out
  subst eL
  rw [eh1] at LA
  have LA2 := LA.alike (fun s hs k hk => alike_key ⟨rfl, rfl⟩ (HE.out s hs k hk) (eK s hs k hk))
  obtain ⟨g8, c8, cur8, e8, -⟩ := LA2.open
  subst e8
  have O3 := hid_of LA2
  replace O := hid_of (O.out.below b8)
  replace O1 := hid_of (O1.out.below b8)
  replace O2 := hid_of (O2.out.below b8)
  replace HB := hid_of (HB.out.trans (b8.mono HB.out.size))
  clear LA LA2 CT eK b8 eh1
  have hLi : (L8 : Int) ≤ 192 := by omega
  have E1 := hid_of (eqOpSS_true (c1 := c8) (c2 := c5) (by obtain ⟨g', c', e', -, r⟩ := O3.out.lsL; cases e'; exact r) O.out.lsL HSE.out (by omega))
  go_wp2_with fail
  refine E1.out.mono ?_
  rintro e w9 ⟨rfl, b9⟩
  replace O := hid_of (O.out.below b9)
  replace O1 := hid_of (O1.out.below b9)
  replace O2 := hid_of (O2.out.below b9)
  replace O3 := hid_of (O3.out.below b9)
  replace HB := hid_of (HB.out.trans (b9.mono HB.out.size))
  clear b9 E1
  go_wp2_with fail
  refine (toOpS_any (HS.out.below HB.out) HSH.out).mono ?_
  rintro e w10 ⟨g10, rfl, L10, b10⟩
  replace O := hid_of (O.out.below b10)
  replace O1 := hid_of (O1.out.below b10)
  replace O2 := hid_of (O2.out.below b10)
  replace O3 := hid_of (O3.out.below b10)
  replace HB := hid_of (HB.out.trans (b10.mono HB.out.size))
  clear b10
  go_wp2_with fail
  refine (eqOpS_true O1.out.opsL L10 HSH.out).mono ?_
  rintro e w11 ⟨rfl, b11⟩
  replace O := hid_of (O.out.below b11)
  replace O1 := hid_of (O1.out.below b11)
  replace O2 := hid_of (O2.out.below b11)
  replace O3 := hid_of (O3.out.below b11)
  replace HB := hid_of (HB.out.trans (b11.mono HB.out.size))
  clear b11 L10
  go_wp2_with fail
  refine (toOpS_any (HS2.out.below HB.out) HSH2.out).mono ?_
  rintro e w12 ⟨g12, rfl, L12, b12⟩
  replace O := hid_of (O.out.below b12)
  replace O1 := hid_of (O1.out.below b12)
  replace O2 := hid_of (O2.out.below b12)
  replace O3 := hid_of (O3.out.below b12)
  replace HB := hid_of (HB.out.trans (b12.mono HB.out.size))
  clear b12
  go_wp2_with fail
  refine (eqOpS_true O2.out.opsL L12 HSH2.out).mono ?_
  rintro e w13 ⟨rfl, b13⟩
  replace O := hid_of (O.out.below b13)
  replace O1 := hid_of (O1.out.below b13)
  replace O2 := hid_of (O2.out.below b13)
  replace O3 := hid_of (O3.out.below b13)
  replace HB := hid_of (HB.out.trans (b13.mono HB.out.size))
  clear b13 L12
  obtain ⟨t1, ht1⟩ : ∃ t, 1 + totN A n = t := ⟨_, rfl⟩
  have ht1' : t1 ≤ 1048577 := by have := HTT.out; omega
  have MK := markOpS_any (c := n) O1.out HSH.out.1 HTT.out 1 (by omega)
  rw [ht1, show ((1 : Nat) : Int) = 1 from rfl] at MK
  clear ht1
  go_wp2_with fail
  refine MK.mono ?_
  rintro e w14 ⟨rfl, -, ht⟩
  replace O := hid_of (O.out.turn ht (Nat.le_refl _))
  replace O2 := hid_of (O2.out.turn ht (.inr (Nat.le_refl _)))
  replace O3 := hid_of (O3.out.turn ht h12.out)
  replace HB := hid_of (ht.below HB.out hw0.out HB.out.size)
  clear ht MK O1
  obtain ⟨T2, hT2⟩ : ∃ t : Int, ((t1 + totN C m : Nat) : Int) = t := ⟨_, rfl⟩
  have hT2' : ¬ T2 < 0 := by omega
  have MK := markOpS_any (c := m) O2.out HSH2.out.1 HTT2.out t1 (by omega)
  rw [hT2] at MK
  clear hT2
  go_wp2_with fail
  refine MK.mono ?_
  rintro e w15 ⟨rfl, -, ht⟩
  replace O := hid_of (O.out.turn ht h01.out)
  replace O3 := hid_of (O3.out.turn ht (Nat.le_refl _))
  replace HB := hid_of (ht.below HB.out (Nat.le_trans hw0.out h01.out) HB.out.size)
  clear ht MK O2 ht1'
  have E1 := hid_of (eqOpSS_true (c1 := c8) (c2 := c5) (by obtain ⟨g', c', e', -, r⟩ := O3.out.lsL; cases e'; exact r) O.out.lsL HSE.out (by omega))
  go_wp2_with fail
  refine E1.out.mono ?_
  rintro e w16 ⟨rfl, b16⟩
  replace O := hid_of (O.out.below b16)
  replace O3 := hid_of (O3.out.below b16)
  replace HB := hid_of (HB.out.trans (b16.mono HB.out.size))
  clear b16 E1
  obtain ⟨T3, hT3⟩ : ∃ t : Int, ((1 + L8 * (12 * m) : Nat) : Int) = t := ⟨_, rfl⟩
  have hT3' : ¬ T3 < 0 := by omega
  have hT3n : (T3 != T3) = false := bne_self_eq_false T3
  have HT3 := hid_of hT3
  have MK := markOpSS_any (hi := w16.heap.size) O3.out HE.out (fun s hs => (O3.out.st s hs).2) (by omega) hLm 1 (by omega)
  rw [hT3, show ((1 : Nat) : Int) = 1 from rfl] at MK
  clear hT3
  go_wp2_with fail
  refine MK.mono ?_
  rintro e w17 ⟨rfl, hO3, ht⟩
  have O4 := hid_of hO3
  replace O := hid_of (O.out.turn ht (Nat.le_trans h01.out h12.out))
  replace HB := hid_of (ht.below HB.out (Nat.le_trans hw0.out (Nat.le_trans h01.out h12.out)) HB.out.size)
  clear ht MK O3 hO3
  have HD := heldOpSS_any 1 O4.out HE.out (by omega) hLm (by omega)
  rw [HT3.out, show ((1 : Nat) : Int) = 1 from rfl] at HD
  go_wp2_with fail
  refine HD.mono ?_
  rintro e w18 ⟨rfl, b18⟩
  replace O := hid_of (O.out.below b18)
  replace O4 := hid_of (O4.out.below b18)
  replace HB := hid_of (HB.out.trans (b18.mono HB.out.size))
  clear b18 HD
  go_wp2_with fail
  refine (toOpS_any (HS.out.below HB.out) HSH.out).mono ?_
  rintro e w19 ⟨g19, rfl, L19, b19⟩
  have HL19 := hid_of L19
  replace O := hid_of (O.out.below b19)
  replace O4 := hid_of (O4.out.below b19)
  replace HB := hid_of (HB.out.trans (b19.mono HB.out.size))
  clear b19 L19
  go_wp2_with fail
  refine (toOpS_any (HS2.out.below HB.out) HSH2.out).mono ?_
  rintro e w20 ⟨g20, rfl, L20, b20⟩
  have HL20 := hid_of L20
  replace HL19 := hid_of (HL19.out.below b20)
  replace O := hid_of (O.out.below b20)
  replace O4 := hid_of (O4.out.below b20)
  replace HB := hid_of (HB.out.trans (b20.mono HB.out.size))
  clear b20 L20
  go_wp2_with fail
  refine (implCosets_any HL19.out HL20.out HSH.out.1 HSH2.out.1).mono ?_
  rintro e w21 ⟨⟨v21, L21, V21, S21, T21, G21, rfl, LA, CT⟩, b21⟩
  obtain ⟨eL, eK⟩ := cos_same CT HCT.out
  subst eL
  have LA2 := LA.alike (fun s hs k hk => alike_key ⟨rfl, rfl⟩ (HE.out s hs k hk) (eK s hs k hk))
  obtain ⟨g21, c21, cur21, e21, -⟩ := LA2.open
  subst e21
  have O5 := hid_of LA2
  replace O := hid_of (O.out.below b21)
  replace O4 := hid_of (O4.out.below b21)
  replace HB := hid_of (HB.out.trans (b21.mono HB.out.size))
  clear LA LA2 CT eK b21 HL19 HL20
  have E1 := hid_of (eqOpSS_true (c1 := c21) (c2 := c5) (by obtain ⟨g', c', e', -, r⟩ := O5.out.lsL; cases e'; exact r) O.out.lsL HSE.out (by omega))
  go_wp2_with fail
  refine E1.out.mono ?_
  rintro e w22 ⟨rfl, b22⟩
  replace O4 := hid_of (O4.out.below b22)
  replace HB := hid_of (HB.out.trans (b22.mono HB.out.size))
  clear b22 E1 O5 O
  have HD := heldOpSS_any 1 O4.out HE.out (by omega) hLm (by omega)
  rw [HT3.out, show ((1 : Nat) : Int) = 1 from rfl] at HD
  go_wp2_with fail
  refine HD.mono ?_
  rintro e w23 ⟨rfl, b23⟩
  replace HB := hid_of (HB.out.trans (b23.mono HB.out.size))
  clear b23 HD O4
  go_wp2
  go_ret
  exact ⟨rfl, HB.out⟩
end Go.Proofs.Ytehbpcoiciodhaa
