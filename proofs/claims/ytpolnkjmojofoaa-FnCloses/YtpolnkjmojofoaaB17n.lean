/-
  Generators drawn to make a group: walked.
-/
import Derived.Test.YtpolnkjmojofoaaB17m
import Derived.Test.YtpolnkjmojofoaaNK
namespace Go.Proofs.Ytpolnkjmojofoaa
open Go.RowKit

def lenK : Value → Nat
  | .slice _ n _ => n
  | _ => 0
/-- Generators handed out. -/
def CloG (w : World) (e : Ending) (w' : World) : Prop :=
  ∃ (g n c : Nat) (A : Nat → OpD), e = .returned (.slice (some ⟨g, 0, none⟩) n c) ∧ n ≤ 13 ∧ OpsL w' g n A ∧ (∀ i, i < n → (A i).n ≤ 9 ∧ (A i).k ≤ 9) ∧ Below w.heap.size w w'
set_option maxRecDepth 100000 in
set_option maxHeartbeats 3000000 in
theorem drawClose_any {w : World} {a : Option Addr} {len cap : Nat} (hr : Row w w.heap.size a len) :
    Calls Try.prog 7 #[.slice a len cap] w (CloG w) := by
  obtain ⟨i0, hi0, hz0, hz1, hz2⟩ := info_parts Try.info33
  go_enter Try.func7, Try.ntmps7
  go_wp2_with fail
  refine (new_any hr).mono ?_
  rintro e w2 ⟨rfl, b2, hc⟩
  obtain ⟨p, hp⟩ : ∃ q, w.heap.size = q := ⟨_, rfl⟩
  have HPP : Hid (w.heap.size = p) := hp
  have HB2 : Hid (Below w.heap.size w w2) := b2
  rw [hp] at hc ⊢
  have hpl : p < w2.heap.size := hc.lt
  clear hr b2 hp
  go_wp2_with fail
  refine (gensQ_dr hc).mono ?_
  rintro e w3 ⟨g, n, c, A, X, Y, P, rfl, hn, O, C, D3⟩
  have HC := hid_of C
  clear C hc
  go_wp2_with fail
  refine (once_dr (Dr.start D3.2) 14 (by omega) (by omega)).mono ?_
  rintro e w4 ⟨b, rfl, D4⟩
  have O4 := O.cur D4.1 hpl
  have D := D4.from D3.1
  clear O D3 D4
  cases b
  · have K := O4.opsK
    clear O4 HC
    go_wp2_with fail
    refine (once_dr (Dr.start D.2) 40 (by omega) (by omega)).mono ?_
    rintro e wa ⟨b2, rfl, Da⟩
    have Ka := K.cur Da.1 hpl
    have Da' := Da.from D.1
    clear K D Da
    cases b2
    · obtain ⟨_, _, eg, L⟩ := Ka.opsL
      cases eg
      have N : Hid (CloG w (.returned (.slice (some ⟨g, 0, none⟩) n c)) wa) := ⟨g, n, c, _, rfl, by omega, L, Ka.nk, HB2.out.trans (Da'.1.below (N := w.heap.size) (by rw [HPP.out]; exact Nat.le_refl _) HB2.out.size)⟩
      clear Ka Da' L
      go_wp2
      go_ret
      exact N.out
    · have IK0 : Hid (∃ X Y A, OpsK wa w2.heap.size (.slice (some ⟨g, 0, none⟩) n c) n X Y A) := ⟨_, _, _, Ka⟩
      have ID0 : Hid (Dr w2 p a len cap wa) := Da'
      clear Ka Da'
      go_wp2
      go_loopw [4] (fun v wr => ∃ m : Nat, m ≤ 13 ∧ Hid (∃ X Y A, OpsK wr w2.heap.size v m X Y A) ∧ Hid (Dr w2 p a len cap wr)) (fun v _ => 13 - lenK v)
      case atStart => exact ⟨n, by omega, IK0, ID0⟩
      case round =>
        clear IK0 ID0
        obtain ⟨m, hm, IK, ID⟩ := hrel
        obtain ⟨X, Y, A, K⟩ := IK.out
        obtain ⟨gv, cv, rfl, hgv, hgl⟩ := K.blk
        clear IK
        go_wp2_with fail
        refine (below_dr (Dr.start ID.out.2) 2 (by omega) (by omega)).mono ?_
        rintro e wb ⟨r, rfl, r0, r1, Db⟩
        have Kb1 := K.cur Db.1 hpl
        have Db' : Hid (Dr w2 p a len cap wb) := Db.from ID.out.1
        have hsb : w2.heap.size ≤ wb.heap.size := Db'.out.1.size
        have hgb : gv < wb.heap.size := by obtain ⟨_, _, e, _, h⟩ := Kb1.blk; cases e; exact h
        clear K ID Db hgl
        by_cases hlt : (m : Int) < 12 + r
        · have hm1 : m + 1 ≤ maxLen := by unfold maxLen; omega
          have hm2 : (m + 1) * 48 ≤ 140737488355328 := by omega
          have hm13 : m + 1 ≤ 13 := by omega
          go_wp2_with fail
          refine (l3One_any _).mono ?_
          rintro e wc ⟨g1, g2, rfl, ⟨_, _, ee, q1, q2, -⟩, bc⟩
          cases ee
          rcases q1 with ⟨h9, -⟩ | ⟨_, _, e9, l1, u1, -, M1⟩
          · cases h9
          cases e9
          rcases q2 with ⟨h9, -⟩ | ⟨_, _, e9, l2, u2, -, M2⟩
          · cases h9
          cases e9
          obtain ⟨W6, hW6, a6, b6, -⟩ := boxed wc 33 #[.slice (some ⟨g1, 0, none⟩) 9 9, .slice (some ⟨g2, 0, none⟩) 3 3]
          have K6 := (Kb1.below bc).below b6
          have D6 : Hid (Dr w2 p a len cap W6) := (Db'.out.below bc).below b6
          have R1 : Hid (∃ a c, Value.slice (some ⟨g1, 0, none⟩) 9 9 = .slice a 9 c ∧ ∀ r, (Value.slice (some ⟨gv, 0, none⟩) m cv).ownBlock = some r → SrcLo W6 w2.heap.size r a 9 oneF) := ⟨_, _, rfl, fun r hr => made_lo (M1.below b6) ⟨by omega, by have : gv = r := Option.some.inj hr; omega⟩ (Nat.le_refl _)⟩
          have R2 : Hid (∃ a c, Value.slice (some ⟨g2, 0, none⟩) 3 3 = .slice a 3 c ∧ ∀ r, (Value.slice (some ⟨gv, 0, none⟩) m cv).ownBlock = some r → SrcLo W6 w2.heap.size r a 3 (fun _ => 0)) := ⟨_, _, rfl, fun r hr => made_lo (M2.below b6) ⟨by omega, by have : gv = r := Option.some.inj hr; omega⟩ (Nat.le_refl _)⟩
          have hnw : ∀ j u, [Value.slice (some ⟨g1, 0, none⟩) 9 9, Value.slice (some ⟨g2, 0, none⟩) 3 3][j]? = some u → W6.cell? ((⟨wc.heap.size, 0, none⟩ : Addr).add j) = some u := by
            intro j u hu
            match j with
            | 0 => cases hu; exact a6.cell 0 rfl
            | 1 => cases hu; exact a6.cell 1 rfl
            | j + 2 => cases hu
          have h1c : ∀ u ∈ [Value.slice (some ⟨g1, 0, none⟩) 9 9, Value.slice (some ⟨g2, 0, none⟩) 3 3], u.oneCell' = true := by
            intro u hu
            simp at hu
            rcases hu with rfl | rfl <;> rfl
          have hm3 : w2.heap.size ≤ W6.heap.size := D6.out.1.size
          clear Kb1 Db' M1 M2 bc b6 hsb hgb l1 l2 u1 u2
          go_wp2_with (at_builtin; refine Hid.out (?_ : Hid _))
          refine (?_ : wpList _ _ _ _ _ _)
          refine wpList_append_own_at _ rfl _ _ _ rfl w2.heap.size 33 i0 _ 2 48 Try.underlying24 hi0 hz0 hz1 hz2 rfl (by omega) (.slice (some ⟨gv, 0, none⟩) m cv) m _ rfl K6.row ⟨wc.heap.size, 0, none⟩ 1 1 [.slice (some ⟨g1, 0, none⟩) 9 9, .slice (some ⟨g2, 0, none⟩) 3 3] rfl rfl hnw h1c hm1 hm2 hm3 ?_
          intro v3 w7 hown3 hgrow3 hne3 hblk3
          have e3 : v3 ≠ .slice none 0 0 := by
            intro e
            have := (hne3.1 e).2
            omega
          have K7 := K6.push (o := ⟨9, oneF, 3, fun _ => 0⟩) R1.out R2.out ⟨by show 9 ≤ 9; omega, by show 3 ≤ 9; omega⟩ hgrow3 hown3 e3 hblk3
          have D7 : Hid (Dr w2 p a len cap w7) := D6.out.grown hgrow3 (fun x hx => by have : gv = x := Option.some.inj hx; omega) hpl
          obtain ⟨g7, c7, rfl, -, -⟩ := K7.blk
          have IK7 : Hid (∃ X Y A, OpsK w7 w2.heap.size (.slice (some ⟨g7, 0, none⟩) (m + 1) c7) (m + 1) X Y A) := ⟨_, _, _, K7⟩
          clear K6 K7 D6 R1 R2 hnw h1c hm3 hown3 hgrow3 hne3 hblk3 e3 hm1 hm2 a6 hW6
          go_wp2
          exact ⟨⟨m + 1, hm13, IK7, D7⟩, by simp only [lenK]; omega⟩
        · obtain ⟨_, _, eg, L⟩ := Kb1.opsL
          cases eg
          have N : Hid (CloG w (.returned (.slice (some ⟨gv, 0, none⟩) m cv)) wb) := ⟨gv, m, cv, _, rfl, hm, L, Kb1.nk, HB2.out.trans (Db'.out.1.below (N := w.heap.size) (by rw [HPP.out]; exact Nat.le_refl _) HB2.out.size)⟩
          clear Kb1 Db' L hsb hgb
          go_wp2
          go_ret
          exact N.out
  by_cases h0 : n = 0
  · subst h0
    have K := O4.opsK
    clear O4 HC
    go_wp2_with fail
    refine (once_dr (Dr.start D.2) 40 (by omega) (by omega)).mono ?_
    rintro e wa ⟨b2, rfl, Da⟩
    have Ka := K.cur Da.1 hpl
    have Da' := Da.from D.1
    clear K D Da
    cases b2
    · obtain ⟨_, _, eg, L⟩ := Ka.opsL
      cases eg
      have N : Hid (CloG w (.returned (.slice (some ⟨g, 0, none⟩) 0 c)) wa) := ⟨g, 0, c, _, rfl, by omega, L, Ka.nk, HB2.out.trans (Da'.1.below (N := w.heap.size) (by rw [HPP.out]; exact Nat.le_refl _) HB2.out.size)⟩
      clear Ka Da' L
      go_wp2
      go_ret
      exact N.out
    · have IK0 : Hid (∃ X Y A, OpsK wa w2.heap.size (.slice (some ⟨g, 0, none⟩) 0 c) 0 X Y A) := ⟨_, _, _, Ka⟩
      have ID0 : Hid (Dr w2 p a len cap wa) := Da'
      clear Ka Da'
      go_wp2
      go_loopw [4] (fun v wr => ∃ m : Nat, m ≤ 13 ∧ Hid (∃ X Y A, OpsK wr w2.heap.size v m X Y A) ∧ Hid (Dr w2 p a len cap wr)) (fun v _ => 13 - lenK v)
      case atStart => exact ⟨0, by omega, IK0, ID0⟩
      case round =>
        clear IK0 ID0
        obtain ⟨m, hm, IK, ID⟩ := hrel
        obtain ⟨X, Y, A, K⟩ := IK.out
        obtain ⟨gv, cv, rfl, hgv, hgl⟩ := K.blk
        clear IK
        go_wp2_with fail
        refine (below_dr (Dr.start ID.out.2) 2 (by omega) (by omega)).mono ?_
        rintro e wb ⟨r, rfl, r0, r1, Db⟩
        have Kb1 := K.cur Db.1 hpl
        have Db' : Hid (Dr w2 p a len cap wb) := Db.from ID.out.1
        have hsb : w2.heap.size ≤ wb.heap.size := Db'.out.1.size
        have hgb : gv < wb.heap.size := by obtain ⟨_, _, e, _, h⟩ := Kb1.blk; cases e; exact h
        clear K ID Db hgl
        by_cases hlt : (m : Int) < 12 + r
        · have hm1 : m + 1 ≤ maxLen := by unfold maxLen; omega
          have hm2 : (m + 1) * 48 ≤ 140737488355328 := by omega
          have hm13 : m + 1 ≤ 13 := by omega
          go_wp2_with fail
          refine (l3One_any _).mono ?_
          rintro e wc ⟨g1, g2, rfl, ⟨_, _, ee, q1, q2, -⟩, bc⟩
          cases ee
          rcases q1 with ⟨h9, -⟩ | ⟨_, _, e9, l1, u1, -, M1⟩
          · cases h9
          cases e9
          rcases q2 with ⟨h9, -⟩ | ⟨_, _, e9, l2, u2, -, M2⟩
          · cases h9
          cases e9
          obtain ⟨W6, hW6, a6, b6, -⟩ := boxed wc 33 #[.slice (some ⟨g1, 0, none⟩) 9 9, .slice (some ⟨g2, 0, none⟩) 3 3]
          have K6 := (Kb1.below bc).below b6
          have D6 : Hid (Dr w2 p a len cap W6) := (Db'.out.below bc).below b6
          have R1 : Hid (∃ a c, Value.slice (some ⟨g1, 0, none⟩) 9 9 = .slice a 9 c ∧ ∀ r, (Value.slice (some ⟨gv, 0, none⟩) m cv).ownBlock = some r → SrcLo W6 w2.heap.size r a 9 oneF) := ⟨_, _, rfl, fun r hr => made_lo (M1.below b6) ⟨by omega, by have : gv = r := Option.some.inj hr; omega⟩ (Nat.le_refl _)⟩
          have R2 : Hid (∃ a c, Value.slice (some ⟨g2, 0, none⟩) 3 3 = .slice a 3 c ∧ ∀ r, (Value.slice (some ⟨gv, 0, none⟩) m cv).ownBlock = some r → SrcLo W6 w2.heap.size r a 3 (fun _ => 0)) := ⟨_, _, rfl, fun r hr => made_lo (M2.below b6) ⟨by omega, by have : gv = r := Option.some.inj hr; omega⟩ (Nat.le_refl _)⟩
          have hnw : ∀ j u, [Value.slice (some ⟨g1, 0, none⟩) 9 9, Value.slice (some ⟨g2, 0, none⟩) 3 3][j]? = some u → W6.cell? ((⟨wc.heap.size, 0, none⟩ : Addr).add j) = some u := by
            intro j u hu
            match j with
            | 0 => cases hu; exact a6.cell 0 rfl
            | 1 => cases hu; exact a6.cell 1 rfl
            | j + 2 => cases hu
          have h1c : ∀ u ∈ [Value.slice (some ⟨g1, 0, none⟩) 9 9, Value.slice (some ⟨g2, 0, none⟩) 3 3], u.oneCell' = true := by
            intro u hu
            simp at hu
            rcases hu with rfl | rfl <;> rfl
          have hm3 : w2.heap.size ≤ W6.heap.size := D6.out.1.size
          clear Kb1 Db' M1 M2 bc b6 hsb hgb l1 l2 u1 u2
          go_wp2_with (at_builtin; refine Hid.out (?_ : Hid _))
          refine (?_ : wpList _ _ _ _ _ _)
          refine wpList_append_own_at _ rfl _ _ _ rfl w2.heap.size 33 i0 _ 2 48 Try.underlying24 hi0 hz0 hz1 hz2 rfl (by omega) (.slice (some ⟨gv, 0, none⟩) m cv) m _ rfl K6.row ⟨wc.heap.size, 0, none⟩ 1 1 [.slice (some ⟨g1, 0, none⟩) 9 9, .slice (some ⟨g2, 0, none⟩) 3 3] rfl rfl hnw h1c hm1 hm2 hm3 ?_
          intro v3 w7 hown3 hgrow3 hne3 hblk3
          have e3 : v3 ≠ .slice none 0 0 := by
            intro e
            have := (hne3.1 e).2
            omega
          have K7 := K6.push (o := ⟨9, oneF, 3, fun _ => 0⟩) R1.out R2.out ⟨by show 9 ≤ 9; omega, by show 3 ≤ 9; omega⟩ hgrow3 hown3 e3 hblk3
          have D7 : Hid (Dr w2 p a len cap w7) := D6.out.grown hgrow3 (fun x hx => by have : gv = x := Option.some.inj hx; omega) hpl
          obtain ⟨g7, c7, rfl, -, -⟩ := K7.blk
          have IK7 : Hid (∃ X Y A, OpsK w7 w2.heap.size (.slice (some ⟨g7, 0, none⟩) (m + 1) c7) (m + 1) X Y A) := ⟨_, _, _, K7⟩
          clear K6 K7 D6 R1 R2 hnw h1c hm3 hown3 hgrow3 hne3 hblk3 e3 hm1 hm2 a6 hW6
          go_wp2
          exact ⟨⟨m + 1, hm13, IK7, D7⟩, by simp only [lenK]; omega⟩
        · obtain ⟨_, _, eg, L⟩ := Kb1.opsL
          cases eg
          have N : Hid (CloG w (.returned (.slice (some ⟨gv, 0, none⟩) m cv)) wb) := ⟨gv, m, cv, _, rfl, hm, L, Kb1.nk, HB2.out.trans (Db'.out.1.below (N := w.heap.size) (by rw [HPP.out]; exact Nat.le_refl _) HB2.out.size)⟩
          clear Kb1 Db' L hsb hgb
          go_wp2
          go_ret
          exact N.out
  have hn0 : (0 : Int) < (n : Int) := by omega
  obtain ⟨_, _, cur, eg, hgl, at4, hcur⟩ := O4.open
  cases eg
  obtain ⟨k0, k1⟩ := hcur 0 (by omega)
  have ne1 := arr_ne_block (O4.xs 0 (by omega)) at4
  have ne2 := arr_ne_block (O4.ys 0 (by omega)) at4
  have cX := (HC.out 0 (by omega)).1
  have cY := (HC.out 0 (by omega)).2
  rcases O4.xs 0 (by omega) with ⟨-, h9⟩ | ⟨g1, cA, ex, l1, u1, z1, M1⟩
  · omega
  rcases O4.ys 0 (by omega) with ⟨-, h9⟩ | ⟨g2, cB, ey, l2, u2, z2, M2⟩
  · omega
  rw [ex] at k0 ne1 cX
  rw [ey] at k1 ne2 cY
  have hgx : g ≠ g1 := fun e => ne1 (by rw [e]; rfl)
  have hgy : g ≠ g2 := fun e => ne2 (by rw [e]; rfl)
  have h12 : g1 ≠ g2 := fun e => cY g2 rfl (e ▸ cX g1 rfl)
  have f0 := at4.cell 0 (by simpa using k0)
  have f1 := at4.cell 1 (by simpa using k1)
  have PP : PairG w4 w2.heap.size g1 cA g2 cB (A 0).f (A 0).h := ⟨⟨l1, l2, h12, z1.1, z1.2, z2.1, z2.2⟩, M1, M2⟩
  have CS := hid_of (spoilGx_dr D PP hpl (X := g) ⟨hgx, hgy, at4.lt⟩)
  have HO := hid_of O4
  have HA := hid_of at4
  have HEX := hid_of ex
  have HEY := hid_of ey
  have HK0 := hid_of k0
  have HK1 := hid_of k1
  have hlt4 := at4.lt
  have hgp : g ≠ p := by omega
  clear hcur ne1 ne2 cX cY M1 M2 D PP O4 at4 ex ey k0 k1 l1 l2 u1 u2 z1 z2
  go_wp2_with fail
  refine CS.out.mono ?_
  rintro e w5 ⟨o, rfl, ⟨a1, n1, c1, b1, m1, d1, ff, hh, rfl, s1, s2, zz⟩, FR, D5, H5⟩
  obtain ⟨X', Y', A', K⟩ := spoil_opsK (c1 := c1) (d1 := d1) HO.out (by omega) HC.out HEX.out HEY.out hpl FR H5 s1 s2 zz
  have at5 : At 33 w5 g cur := (FR.2 g hlt4 hgp hgx hgy).trans HA.out
  have q0 := at5.cell 0 (by simpa using HK0.out)
  have q1 := at5.cell 1 (by simpa using HK1.out)
  have y0 := at5.frozen 0
  have y1 := at5.frozen 1
  have D := (D5.set (g := g) (i := 0) (by omega) hpl (.slice a1 n1 c1)).set (g := g) (i := 1) (by omega) hpl (.slice b1 m1 d1)
  clear f0 f1 CS HO HA HEX HEY HK0 HK1 FR D5 H5 s1 s2 at5 HC
  go_upto_region 5 with (fail)
  obtain ⟨W5, hW5⟩ : ∃ W, (w5.setCell ⟨g, 0, none⟩ (.slice a1 n1 c1)).setCell ⟨g, 1, none⟩ (.slice b1 m1 d1) = W := ⟨_, rfl⟩
  rw [hW5] at K D ⊢
  clear q0 q1 y0 y1 hW5
  go_wp2_with fail
  refine (once_dr (Dr.start D.2) 40 (by omega) (by omega)).mono ?_
  rintro e wa ⟨b2, rfl, Da⟩
  have Ka := K.cur Da.1 hpl
  have Da' := Da.from D.1
  clear K D Da
  cases b2
  · obtain ⟨_, _, eg, L⟩ := Ka.opsL
    cases eg
    have N : Hid (CloG w (.returned (.slice (some ⟨g, 0, none⟩) n c)) wa) := ⟨g, n, c, _, rfl, by omega, L, Ka.nk, HB2.out.trans (Da'.1.below (N := w.heap.size) (by rw [HPP.out]; exact Nat.le_refl _) HB2.out.size)⟩
    clear Ka Da' L
    go_wp2
    go_ret
    exact N.out
  · have IK0 : Hid (∃ X Y A, OpsK wa w2.heap.size (.slice (some ⟨g, 0, none⟩) n c) n X Y A) := ⟨_, _, _, Ka⟩
    have ID0 : Hid (Dr w2 p a len cap wa) := Da'
    clear Ka Da'
    go_wp2
    go_loopw [4] (fun v wr => ∃ m : Nat, m ≤ 13 ∧ Hid (∃ X Y A, OpsK wr w2.heap.size v m X Y A) ∧ Hid (Dr w2 p a len cap wr)) (fun v _ => 13 - lenK v)
    case atStart => exact ⟨n, by omega, IK0, ID0⟩
    case round =>
      clear IK0 ID0
      obtain ⟨m, hm, IK, ID⟩ := hrel
      obtain ⟨X, Y, A, K⟩ := IK.out
      obtain ⟨gv, cv, rfl, hgv, hgl⟩ := K.blk
      clear IK
      go_wp2_with fail
      refine (below_dr (Dr.start ID.out.2) 2 (by omega) (by omega)).mono ?_
      rintro e wb ⟨r, rfl, r0, r1, Db⟩
      have Kb1 := K.cur Db.1 hpl
      have Db' : Hid (Dr w2 p a len cap wb) := Db.from ID.out.1
      have hsb : w2.heap.size ≤ wb.heap.size := Db'.out.1.size
      have hgb : gv < wb.heap.size := by obtain ⟨_, _, e, _, h⟩ := Kb1.blk; cases e; exact h
      clear K ID Db hgl
      by_cases hlt : (m : Int) < 12 + r
      · have hm1 : m + 1 ≤ maxLen := by unfold maxLen; omega
        have hm2 : (m + 1) * 48 ≤ 140737488355328 := by omega
        have hm13 : m + 1 ≤ 13 := by omega
        go_wp2_with fail
        refine (l3One_any _).mono ?_
        rintro e wc ⟨g1, g2, rfl, ⟨_, _, ee, q1, q2, -⟩, bc⟩
        cases ee
        rcases q1 with ⟨h9, -⟩ | ⟨_, _, e9, l1, u1, -, M1⟩
        · cases h9
        cases e9
        rcases q2 with ⟨h9, -⟩ | ⟨_, _, e9, l2, u2, -, M2⟩
        · cases h9
        cases e9
        obtain ⟨W6, hW6, a6, b6, -⟩ := boxed wc 33 #[.slice (some ⟨g1, 0, none⟩) 9 9, .slice (some ⟨g2, 0, none⟩) 3 3]
        have K6 := (Kb1.below bc).below b6
        have D6 : Hid (Dr w2 p a len cap W6) := (Db'.out.below bc).below b6
        have R1 : Hid (∃ a c, Value.slice (some ⟨g1, 0, none⟩) 9 9 = .slice a 9 c ∧ ∀ r, (Value.slice (some ⟨gv, 0, none⟩) m cv).ownBlock = some r → SrcLo W6 w2.heap.size r a 9 oneF) := ⟨_, _, rfl, fun r hr => made_lo (M1.below b6) ⟨by omega, by have : gv = r := Option.some.inj hr; omega⟩ (Nat.le_refl _)⟩
        have R2 : Hid (∃ a c, Value.slice (some ⟨g2, 0, none⟩) 3 3 = .slice a 3 c ∧ ∀ r, (Value.slice (some ⟨gv, 0, none⟩) m cv).ownBlock = some r → SrcLo W6 w2.heap.size r a 3 (fun _ => 0)) := ⟨_, _, rfl, fun r hr => made_lo (M2.below b6) ⟨by omega, by have : gv = r := Option.some.inj hr; omega⟩ (Nat.le_refl _)⟩
        have hnw : ∀ j u, [Value.slice (some ⟨g1, 0, none⟩) 9 9, Value.slice (some ⟨g2, 0, none⟩) 3 3][j]? = some u → W6.cell? ((⟨wc.heap.size, 0, none⟩ : Addr).add j) = some u := by
          intro j u hu
          match j with
          | 0 => cases hu; exact a6.cell 0 rfl
          | 1 => cases hu; exact a6.cell 1 rfl
          | j + 2 => cases hu
        have h1c : ∀ u ∈ [Value.slice (some ⟨g1, 0, none⟩) 9 9, Value.slice (some ⟨g2, 0, none⟩) 3 3], u.oneCell' = true := by
          intro u hu
          simp at hu
          rcases hu with rfl | rfl <;> rfl
        have hm3 : w2.heap.size ≤ W6.heap.size := D6.out.1.size
        clear Kb1 Db' M1 M2 bc b6 hsb hgb l1 l2 u1 u2
        go_wp2_with (at_builtin; refine Hid.out (?_ : Hid _))
        refine (?_ : wpList _ _ _ _ _ _)
        refine wpList_append_own_at _ rfl _ _ _ rfl w2.heap.size 33 i0 _ 2 48 Try.underlying24 hi0 hz0 hz1 hz2 rfl (by omega) (.slice (some ⟨gv, 0, none⟩) m cv) m _ rfl K6.row ⟨wc.heap.size, 0, none⟩ 1 1 [.slice (some ⟨g1, 0, none⟩) 9 9, .slice (some ⟨g2, 0, none⟩) 3 3] rfl rfl hnw h1c hm1 hm2 hm3 ?_
        intro v3 w7 hown3 hgrow3 hne3 hblk3
        have e3 : v3 ≠ .slice none 0 0 := by
          intro e
          have := (hne3.1 e).2
          omega
        have K7 := K6.push (o := ⟨9, oneF, 3, fun _ => 0⟩) R1.out R2.out ⟨by show 9 ≤ 9; omega, by show 3 ≤ 9; omega⟩ hgrow3 hown3 e3 hblk3
        have D7 : Hid (Dr w2 p a len cap w7) := D6.out.grown hgrow3 (fun x hx => by have : gv = x := Option.some.inj hx; omega) hpl
        obtain ⟨g7, c7, rfl, -, -⟩ := K7.blk
        have IK7 : Hid (∃ X Y A, OpsK w7 w2.heap.size (.slice (some ⟨g7, 0, none⟩) (m + 1) c7) (m + 1) X Y A) := ⟨_, _, _, K7⟩
        clear K6 K7 D6 R1 R2 hnw h1c hm3 hown3 hgrow3 hne3 hblk3 e3 hm1 hm2 a6 hW6
        go_wp2
        exact ⟨⟨m + 1, hm13, IK7, D7⟩, by simp only [lenK]; omega⟩
      · obtain ⟨_, _, eg, L⟩ := Kb1.opsL
        cases eg
        have N : Hid (CloG w (.returned (.slice (some ⟨gv, 0, none⟩) m cv)) wb) := ⟨gv, m, cv, _, rfl, hm, L, Kb1.nk, HB2.out.trans (Db'.out.1.below (N := w.heap.size) (by rw [HPP.out]; exact Nat.le_refl _) HB2.out.size)⟩
        clear Kb1 Db' L hsb hgb
        go_wp2
        go_ret
        exact N.out
end Go.Proofs.Ytpolnkjmojofoaa
