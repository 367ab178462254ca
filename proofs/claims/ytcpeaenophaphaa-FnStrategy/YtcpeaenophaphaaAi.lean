/-
  Witnesses by the specification: l13Two, l13Where, WitnessOk, walked.
-/
import Derived.Test.YtcpeaenophaphaaAg
namespace Go.Proofs.Ytcpeaenophaphaa
open Go.RowKit

theorem two_any (k : Nat) (hk : k ≤ 40) (w : World) : Calls Try.prog 35 #[.int .i64 (k : Int)] w fun e w' => e = .returned (.int .i64 ((2 ^ k : Nat) : Int)) ∧ Below w.heap.size w w' := by
  obtain ⟨R, hR⟩ : ∃ R : Nat, 2 ^ k = R := ⟨_, rfl⟩
  rw [hR]
  go_enter Try.func35, Try.ntmps35
  go_wp2
  go_loopw [0, 3] (fun s t wr => ∃ j : Nat, j ≤ k ∧ s = .int .i64 ((k - j : Nat) : Int) ∧ t = .int .i64 ((2 ^ j : Nat) : Int) ∧ Below w.heap.size w wr) (fun s _ _ => (intOf s).toNat)
  case atStart => exact ⟨0, Nat.zero_le _, rfl, rfl, Below.refl _ _⟩
  case round =>
    obtain ⟨j, hj, rfl, rfl, bW⟩ := hrel
    have hp : (2 : Nat) ^ j ≤ 2 ^ 40 := Nat.pow_le_pow_right (by decide) (by omega)
    have hs : 2 ^ (j + 1) = 2 * 2 ^ j := by rw [Nat.pow_succ]; omega
    obtain ⟨X, hX⟩ : ∃ X : Nat, 2 ^ j = X := ⟨_, rfl⟩
    obtain ⟨Y, hY⟩ : ∃ Y : Nat, k - j = Y := ⟨_, rfl⟩
    rw [hX] at hp hs
    rw [hX, hY]
    have hp1 : X ≤ 1099511627776 := hp
    by_cases hlt : j < k
    · have h0 : (0 : Int) < (Y : Int) := by omega
      have e1 : (Y : Int) - 1 = ((k - (j + 1) : Nat) : Int) := by omega
      have HS : Hid (2 ^ (j + 1) = 2 * X) := hs
      have hYb : (Y : Int) ≤ 40 := by omega
      have H1 : Hid ((Y : Int) - 1 = ((k - (j + 1) : Nat) : Int)) := e1
      clear hs hp hX hY e1
      go_wp2
      refine ⟨⟨j + 1, by omega, by rw [← H1.out], by rw [HS.out]; push_cast; rfl, bW⟩, by simp [intOf]; omega⟩
    · have h0 : ¬ (0 : Int) < (Y : Int) := by omega
      obtain rfl : j = k := by omega
      obtain rfl : X = R := hX.symm.trans hR
      clear hs hp hX hY hR
      go_wp2
      go_ret
      exact ⟨rfl, bW⟩
theorem twelve (P : Nat → Prop) {N : Nat} (h : N ≤ 12) : msk P N < 4096 := Nat.lt_of_lt_of_le (msk_lt P N) (Nat.pow_le_pow_right (by decide) h : 2 ^ N ≤ 2 ^ 12)
theorem twelve2 {k : Nat} (h : k < 12) : 2 ^ k ≤ 2048 := (Nat.pow_le_pow_right (by decide) (by omega : k ≤ 11) : 2 ^ k ≤ 2 ^ 11)
/-- What has been counted of list k, j of its numbers seen. -/
noncomputable def cnt (f : Nat → Nat → Int) (r k j : Nat) : Nat := @ite _ (Hs f k j r) (Classical.propDecidable _) (2 ^ k) 0
theorem cnt_yes {f : Nat → Nat → Int} {r k j : Nat} (h : Hs f k j r) : cnt f r k j = 2 ^ k := if_pos h
theorem cnt_no {f : Nat → Nat → Int} {r k j : Nat} (h : ¬ Hs f k j r) : cnt f r k j = 0 := if_neg h
set_option maxHeartbeats 4000000 in
theorem where_any {w : World} {b N cap : Nat} {a : Nat → Option Addr} {c : Nat → Nat} {n : Nat → Nat} {f : Nat → Nat → Int} (hS : Lli w b 0 N a c n f) (hx : ExOk N n f) (hn : ∀ i, i < N → n i ≤ 1048576) (r : Nat) (hr : r < 64) :
    Calls Try.prog 48 #[.slice (some ⟨b, 0, none⟩) N cap, .int .i64 (r : Int)] w fun e w' => e = .returned (.int .i64 ((msk (fun i => Hs f i (n i) r) N : Nat) : Int)) ∧ Below w.heap.size w w' := by
  have hN12 := hx.1
  have hN' : (N : Int) ≤ 12 := by omega
  go_enter Try.func48, Try.ntmps48
  go_wp2
  go_loopw [5, 6] (fun s t wr => ∃ k : Nat, k ≤ N ∧ s = .int .i64 ((msk (fun i => Hs f i (n i) r) k : Nat) : Int) ∧ t = .int .i64 (k : Int) ∧ Below w.heap.size w wr) (fun _ t _ => N - (intOf t).toNat)
  case atStart => exact ⟨0, Nat.zero_le _, rfl, rfl, Below.refl _ _⟩
  case round =>
    obtain ⟨k, hk, rfl, rfl, bW⟩ := hrel
    by_cases hlt : k < N
    · have hlt' : (k : Int) < (N : Int) := by omega
      have hsk := hS.src k hlt
      have hnk := hn k hlt
      have hnk' : (n k : Int) ≤ 1048576 := by omega
      have hrk := hx.2 k hlt
      have hM := twelve (fun i => Hs f i (n i) r) (N := k) (by omega)
      have h2k := twelve2 (k := k) (by omega)
      obtain ⟨Z, hZ⟩ : ∃ Z : Nat, msk (fun i => Hs f i (n i) r) k = Z := ⟨_, rfl⟩
      have hEnd : ∀ V : Nat, V = Z + cnt f r k (n k) → msk (fun i => Hs f i (n i) r) (k + 1) = V := by
        intro V hV
        by_cases hh : Hs f k (n k) r
        · rw [msk_succ_yes (P := fun i => Hs f i (n i) r) hh, hV, cnt_yes hh, hZ]
        · rw [msk_succ_no (P := fun i => Hs f i (n i) r) hh, hV, cnt_no hh, hZ]; rfl
      rw [hZ] at hM
      rw [hZ]
      have c2' : ∀ wr, Below w.heap.size w wr → wr.cell? ⟨b, k, none⟩ = some (.slice (a k) (n k) (c k)) := fun wr bW => (hS.below bW).open hlt
      clear hS
      obtain ⟨A, hA⟩ : ∃ A, a k = A := ⟨_, rfl⟩
      rw [hA] at hsk
      simp only [hA] at c2'
      clear hA hZ
      go_wp2
      go_loopw [5, 7] (fun s t wr => ∃ j V : Nat, j ≤ n k ∧ V = Z + cnt f r k j ∧ s = .int .i64 (V : Int) ∧ t = .int .i64 (j : Int) ∧ Below w.heap.size w wr) (fun _ t _ => n k - (intOf t).toNat)
      case atStart => exact ⟨0, Z, Nat.zero_le _, by rw [cnt_no (by rintro ⟨t, ht, -⟩; omega)]; rfl, rfl, rfl, bW⟩
      case round =>
        clear bW
        obtain ⟨j, V, hj, hV, rfl, rfl, bW⟩ := hrel
        have c2 := c2' _ bW
        by_cases hjn : j < n k
        · have hjn' : (j : Int) < (n k : Int) := by omega
          rcases hsk.below bW with h0 | ⟨sb, so, rfl, hb, hc⟩
          · omega
          have c0 := hc j hjn
          obtain ⟨y, hy⟩ : ∃ y : Nat, f k j = (y : Int) := ⟨(f k j).toNat, by have := (hrk.1 j hjn).1; omega⟩
          rw [hy] at c0
          by_cases hyr : y = r
          · have hno : ¬ Hs f k j r := by
              rintro ⟨t, h1, h2⟩
              have := hrk.lt j t h1 hjn
              omega
            have hyes : Hs f k (j + 1) r := ⟨j, by omega, by omega⟩
            rw [cnt_no hno] at hV
            have HV : Hid (V + 2 ^ k = Z + cnt f r k (j + 1)) := by rw [cnt_yes hyes, hV]; exact rfl
            subst hyr
            have hVb : V ≤ 4096 := by omega
            clear hV hno hyes hEnd c2'
            go_wp2_with fail
            refine (two_any k (by omega) _).mono ?_
            rintro e w3 ⟨rfl, bb⟩
            replace bW := bW.trans (bb.mono bW.size)
            obtain ⟨X, hX⟩ : ∃ X : Nat, 2 ^ k = X := ⟨_, rfl⟩
            rw [hX] at HV h2k
            rw [hX]
            clear hX bb c2 c0
            go_wp2
            exact ⟨⟨j + 1, V + X, by omega, HV.out, by push_cast; rfl, by go_num, bW⟩, by simp [intOf]; omega⟩
          · have hyr' : ¬ (y : Int) = (r : Int) := by omega
            have hsame : cnt f r k (j + 1) = cnt f r k j := by
              by_cases hh : Hs f k j r
              · rw [cnt_yes hh, cnt_yes]
                obtain ⟨t, h1, h2⟩ := hh
                exact ⟨t, by omega, h2⟩
              · rw [cnt_no hh, cnt_no]
                rintro ⟨t, h1, h2⟩
                by_cases e : t = j
                · subst e; omega
                · exact hh ⟨t, by omega, h2⟩
            have HV : Hid (V = Z + cnt f r k (j + 1)) := by rw [hsame]; exact hV
            clear hV hsame hEnd c2'
            go_wp2
            exact ⟨⟨j + 1, V, by omega, HV.out, rfl, by go_num, bW⟩, by simp [intOf]; omega⟩
        · have hjn' : ¬ (j : Int) < (n k : Int) := by omega
          obtain rfl : j = n k := by omega
          have HV : Hid (msk (fun i => Hs f i (n i) r) (k + 1) = V) := hEnd V hV
          clear hV hEnd c2'
          go_wp2
          exact ⟨⟨k + 1, by omega, by rw [HV.out], by go_num, bW⟩, by simp [intOf]; omega⟩
    · have hlt' : ¬ (k : Int) < (N : Int) := by omega
      obtain rfl : k = N := by omega
      go_wp2
      go_ret
      exact ⟨rfl, bW⟩
/-- In which exposures the first k of a list stand. -/
def Tk (n : Nat → Nat) (f : Nat → Nat → Int) (l : Nat → Int) (k i : Nat) : Prop := ∃ t, t < k ∧ Hs f i (n i) (l t).toNat
set_option maxHeartbeats 4000000 in
theorem specWitnessOk_any {w : World} {b N cap M cap2 : Nat} {a : Nat → Option Addr} {c : Nat → Nat} {n : Nat → Nat} {f : Nat → Nat → Int} {p : Option Addr} {l : Nat → Int} (hS : Lli w b 0 N a c n f) (hN : N ≤ 1048576) (hn : ∀ i, i < N → n i ≤ 1048576) (hl : Src w p M l) (hM : M ≤ 1048576) :
    Calls Try.prog 26 #[.slice (some ⟨b, 0, none⟩) N cap, .slice p M cap2] w fun e w' => e = .returned (.bool (wtB N n f M l)) ∧ Below w.heap.size w w' := by
  obtain ⟨D, hD⟩ : ∃ D, wtB N n f M l = D := ⟨_, rfl⟩
  rw [hD]
  have H0 : ¬ WtOk N n f M l → D = false := fun h => hD ▸ wtB_no h
  have H1 : WtOk N n f M l → D = true := fun h => hD ▸ wtB_yes h
  clear hD
  go_enter Try.func26, Try.ntmps26
  go_wp2_with fail
  refine (specExposures_any hS hN hn).mono ?_
  rintro e w1 ⟨rfl, bW⟩
  by_cases hx : ExOk N n f
  case neg =>
    rw [exB_no hx]
    obtain rfl : D = false := H0 fun h => hx h.1
    clear H0 H1
    go_wp2
    go_ret
    exact ⟨rfl, bW⟩
  rw [exB_yes hx]
  go_wp2_with fail
  refine (specRises_any (hl.below bW) hM 64 (by omega)).mono ?_
  rintro e w2 ⟨rfl, bb⟩
  replace bW := bW.trans (bb.mono bW.size)
  clear bb
  by_cases hr : Ris M l 64
  case neg =>
    rw [risB_no hr]
    obtain rfl : D = false := H0 fun h => hr h.2.1
    clear H0 H1
    go_wp2
    go_ret
    exact ⟨rfl, bW⟩
  rw [risB_yes hr]
  go_wp2
  go_loopw [5, 6] (fun s t wr => ∃ k : Nat, k ≤ M ∧ s = .int .i64 ((msk (Tk n f l k) N : Nat) : Int) ∧ t = .int .i64 (k : Int) ∧ (∀ j, j < k → (∃ i, i < N ∧ Hs f i (n i) (l j).toNat) ∧ ∀ i, i < N → Hs f i (n i) (l j).toNat → ∀ t, t < j → ¬ Hs f i (n i) (l t).toNat) ∧ Below w.heap.size w wr) (fun _ t _ => M - (intOf t).toNat)
  case atStart => exact ⟨0, Nat.zero_le _, by rw [msk_none (fun i _ => by rintro ⟨t, ht, -⟩; omega)]; rfl, rfl, fun j hj => absurd hj (Nat.not_lt_zero _), bW⟩
  case round =>
    clear bW
    obtain ⟨k, hk, rfl, rfl, hW, bW⟩ := hrel
    by_cases hlt : k < M
    · have hlt' : (k : Int) < (M : Int) := by omega
      rcases hl.below bW with h0 | ⟨sb, so, rfl, hb, hc⟩
      · omega
      have c0 := hc k hlt
      obtain ⟨x, hx'⟩ : ∃ x : Nat, l k = (x : Int) := ⟨(l k).toNat, by have := (hr.1 k hlt).1; omega⟩
      have hx64 : x < 64 := by have := (hr.1 k hlt).2; omega
      have hxe : (l k).toNat = x := by omega
      rw [hx'] at c0
      have b1 := twelve (Tk n f l k) hx.1
      have b2 := twelve (fun i => Hs f i (n i) x) hx.1
      have ha := i64_and_nat (msk (fun i => Hs f i (n i) x) N) (msk (Tk n f l k) N) (by omega) (by omega)
      rw [msk_and] at ha
      have hz : msk (fun i => Hs f i (n i) x) N = 0 ↔ ¬ ∃ i, i < N ∧ Hs f i (n i) x := by
        rw [msk_zero]
        constructor
        · rintro h ⟨i, h1, h2⟩; exact h i h1 h2
        · intro h i h1 h2; exact h ⟨i, h1, h2⟩
      have hz2 : msk (fun i => Hs f i (n i) x ∧ Tk n f l k i) N = 0 ↔ ∀ i, i < N → Hs f i (n i) x → ∀ t, t < k → ¬ Hs f i (n i) (l t).toNat := by
        rw [msk_zero]
        constructor
        · intro h i h1 h2 t h3 h4; exact h i h1 ⟨h2, t, h3, h4⟩
        · rintro h i h1 ⟨h2, t, h3, h4⟩; exact h i h1 h2 t h3 h4
      have hadd : msk (fun i => Hs f i (n i) x ∧ Tk n f l k i) N = 0 → msk (Tk n f l k) N + msk (fun i => Hs f i (n i) x) N = msk (Tk n f l (k + 1)) N := by
        intro h
        rw [msk_add fun i h1 h2 => msk_zero.1 h i h1 ⟨h2.2, h2.1⟩]
        refine msk_congr fun i _ => ⟨?_, ?_⟩
        · rintro (⟨t, h1, h2⟩ | h3)
          · exact ⟨t, by omega, h2⟩
          · exact ⟨k, by omega, by rw [hxe]; exact h3⟩
        · rintro ⟨t, h1, h2⟩
          by_cases e : t = k
          · subst e; rw [hxe] at h2; exact .inr h2
          · exact .inl ⟨t, by omega, h2⟩
      obtain ⟨U, hU⟩ : ∃ U : Nat, msk (Tk n f l k) N = U := ⟨_, rfl⟩
      obtain ⟨X, hX⟩ : ∃ X : Nat, msk (fun i => Hs f i (n i) x) N = X := ⟨_, rfl⟩
      obtain ⟨Y, hY⟩ : ∃ Y : Nat, msk (fun i => Hs f i (n i) x ∧ Tk n f l k i) N = Y := ⟨_, rfl⟩
      rw [hU] at b1 ha hadd
      rw [hX] at b2 ha hz hadd
      rw [hY] at ha hz2 hadd
      rw [hU]
      have HX : Hid (msk (fun i => Hs f i (n i) x) N = X) := hX
      clear hU hX hY
      go_wp2_with fail
      refine (where_any (hS.below bW) hx hn x hx64).mono ?_
      rintro e w3 ⟨rfl, bb⟩
      replace bW := bW.trans (bb.mono bW.size)
      rw [HX.out]
      clear bb c0 HX
      by_cases p1 : X = 0
      · subst p1
        obtain rfl : D = false := H0 fun h => by
          have := (h.2.2 k hlt).1
          rw [hxe] at this
          exact hz.1 rfl this
        clear H0 H1 hW ha hz hz2 hadd
        rw [show ((0 : Nat) : Int) = 0 from rfl]
        go_wp2
        go_ret
        exact ⟨rfl, bW⟩
      · have p1' : ¬ (X : Int) = 0 := by omega
        by_cases p2 : Y = 0
        · subst p2
          rw [show ((0 : Nat) : Int) = 0 from rfl] at ha
          have e1 := hadd rfl
          have HW : Hid (∀ j, j < k + 1 → (∃ i, i < N ∧ Hs f i (n i) (l j).toNat) ∧ ∀ i, i < N → Hs f i (n i) (l j).toNat → ∀ t, t < j → ¬ Hs f i (n i) (l t).toNat) := Hid.out fun j hj => by
            by_cases e : j = k
            · subst e
              rw [hxe]
              exact ⟨Classical.byContradiction fun h => p1 (hz.2 h), hz2.1 rfl⟩
            · exact hW j (by omega)
          have HE : Hid (U + X = msk (Tk n f l (k + 1)) N) := e1
          clear H0 H1 hW hz hz2 hadd e1
          go_wp2
          exact ⟨⟨k + 1, by omega, by rw [← HE.out]; push_cast; rfl, by go_num, HW.out, bW⟩, by simp [intOf]; omega⟩
        · have p2' : ¬ (Y : Int) = 0 := by omega
          have p3 : ((X : Int) == 0) = false := by simpa using p1
          have p4 : ((Y : Int) == 0) = false := by simpa using p2
          have p5 : ((Y : Int) != 0) = true := by simp [bne, p4]
          obtain rfl : D = false := H0 fun h => by
            have := (h.2.2 k hlt).2
            rw [hxe] at this
            exact p2 (hz2.2 this)
          clear H0 H1 hW hz hz2 hadd
          go_wp2
          go_ret
          exact ⟨rfl, bW⟩
    · have hlt' : ¬ (k : Int) < (M : Int) := by omega
      obtain rfl : k = M := by omega
      obtain rfl : D = true := H1 ⟨hx, hr, hW⟩
      clear H0 H1 hW
      go_wp2
      go_ret
      exact ⟨rfl, bW⟩
end Go.Proofs.Ytcpeaenophaphaa
