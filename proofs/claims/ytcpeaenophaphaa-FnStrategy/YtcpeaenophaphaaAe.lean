/-
  Strategies and witnesses by the program: allOf, StrategyOk, standsApart, WitnessOk, walked.
-/
import Derived.Test.YtcpeaenophaphaaAd
namespace Go.Proofs.Ytcpeaenophaphaa
open Go.RowKit

theorem or_step (P : Nat → Nat → Prop) (k : Nat) : msk (fun r => (∃ i, i < k ∧ P i r) ∨ P k r) 64 = msk (fun r => ∃ i, i < k + 1 ∧ P i r) 64 := by
  refine msk_congr fun r _ => ⟨?_, ?_⟩
  · rintro (⟨i, h1, h2⟩ | h)
    · exact ⟨i, by omega, h2⟩
    · exact ⟨k, by omega, h⟩
  · rintro ⟨i, h1, h2⟩
    by_cases e : i = k
    · subst e; exact .inr h2
    · exact .inl ⟨i, by omega, h2⟩
theorem or_zero (P : Nat → Nat → Prop) : msk (fun r => ∃ i, i < 0 ∧ P i r) 64 = 0 := msk_none fun r _ => by rintro ⟨i, hi, -⟩; omega
theorem allOf_any {w : World} {g N : Nat} {P : Nat → Nat → Prop} (hU : U64s w g N (fun i => msk (P i) 64)) (hN : N ≤ 1048576) :
    Calls Try.prog 38 #[.slice (some ⟨g, 0, none⟩) N N] w fun e w' => e = .returned (.int .u64 ((msk (fun r => ∃ i, i < N ∧ P i r) 64 : Nat) : Int)) ∧ Below w.heap.size w w' := by
  have hz := or_zero P
  go_enter Try.func38, Try.ntmps38
  go_wp2
  go_loopw [3, 8] (fun s t wr => ∃ k : Nat, k ≤ N ∧ s = .int .u64 ((msk (fun r => ∃ i, i < k ∧ P i r) 64 : Nat) : Int) ∧ t = .int .i64 (k : Int) ∧ Below w.heap.size w wr) (fun _ t _ => N - (intOf t).toNat)
  case atStart => exact ⟨0, Nat.zero_le _, by rw [hz]; rfl, rfl, Below.refl _ _⟩
  case round =>
    clear hz
    obtain ⟨k, hk, rfl, rfl, bW⟩ := hrel
    by_cases hlt : k < N
    · have hlt' : (k : Int) < (N : Int) := by omega
      obtain ⟨z0, -⟩ := (hU.below bW).open hlt
      have ho := mor (fun r => ∃ i, i < k ∧ P i r) (P k)
      rw [or_step] at ho
      obtain ⟨X, hX⟩ : ∃ X, msk (fun r => ∃ i, i < k ∧ P i r) 64 = X := ⟨_, rfl⟩
      obtain ⟨Y, hY⟩ : ∃ Y, msk (fun r => ∃ i, i < k + 1 ∧ P i r) 64 = Y := ⟨_, rfl⟩
      rw [hX, hY] at ho
      rw [hX]
      have HY : Hid (msk (fun r => ∃ i, i < k + 1 ∧ P i r) 64 = Y) := hY
      clear hX hY
      go_wp2
      exact ⟨⟨k + 1, by omega, by rw [HY.out], by go_num, bW⟩, by simp [intOf]; omega⟩
    · have hlt' : ¬ (k : Int) < (N : Int) := by omega
      obtain rfl : k = N := by omega
      go_wp2
      go_ret
      exact ⟨rfl, bW⟩
/-- A list that is a strategy for exposures. -/
def StOk (N : Nat) (n : Nat → Nat) (f : Nat → Nat → Int) (M : Nat) (l : Nat → Int) : Prop :=
  ExOk N n f ∧ Ris M l N ∧ ∀ r, r < 64 → ((∃ j, j < M ∧ Hs f (l j).toNat (n (l j).toNat) r) ↔ ∃ i, i < N ∧ Hs f i (n i) r)
noncomputable def stB (N : Nat) (n : Nat → Nat) (f : Nat → Nat → Int) (M : Nat) (l : Nat → Int) : Bool := @decide (StOk N n f M l) (Classical.propDecidable _)
theorem stB_yes {N : Nat} {n : Nat → Nat} {f : Nat → Nat → Int} {M : Nat} {l : Nat → Int} (h : StOk N n f M l) : stB N n f M l = true := by simp [stB, h]
theorem stB_no {N : Nat} {n : Nat → Nat} {f : Nat → Nat → Int} {M : Nat} {l : Nat → Int} (h : ¬ StOk N n f M l) : stB N n f M l = false := by simp [stB, h]
theorem nat_beq {a b : Nat} : (((a : Int) == (b : Int)) = true) ↔ a = b := by rw [beq_iff_eq]; exact Int.ofNat_inj
set_option maxHeartbeats 4000000 in
theorem implStrategyOk_any {w : World} {b N cap M cap2 : Nat} {a : Nat → Option Addr} {c : Nat → Nat} {n : Nat → Nat} {f : Nat → Nat → Int} {p : Option Addr} {l : Nat → Int} (hS : Lli w b 0 N a c n f) (hN : N ≤ 1048576) (hn : ∀ i, i < N → n i ≤ 1048576) (hl : Src w p M l) (hM : M ≤ 1048576) :
    Calls Try.prog 15 #[.slice (some ⟨b, 0, none⟩) N cap, .slice p M cap2] w fun e w' => e = .returned (.bool (stB N n f M l)) ∧ Below w.heap.size w w' := by
  obtain ⟨D, hD⟩ : ∃ D, stB N n f M l = D := ⟨_, rfl⟩
  rw [hD]
  have H0 : ¬ StOk N n f M l → D = false := fun h => hD ▸ stB_no h
  have H1 : StOk N n f M l → D = true := fun h => hD ▸ stB_yes h
  clear hD
  go_enter Try.func15, Try.ntmps15
  go_wp2_with fail
  refine (setsOf_any hS hN hn).mono ?_
  rintro e w1 ⟨⟨hx, rfl⟩ | ⟨hx, g, rfl, hU⟩, bW⟩
  · obtain rfl : D = false := H0 fun h => hx h.1
    clear H0 H1
    go_wp2
    go_ret
    exact ⟨rfl, bW⟩
  go_wp2_with fail
  refine (areRising_any (hl.below bW) hM N (by omega)).mono ?_
  rintro e w2 ⟨rfl, bb⟩
  replace hU := hU.below bb
  replace bW := bW.trans (bb.mono bW.size)
  clear bb
  by_cases hr : Ris M l N
  case neg =>
    rw [risB_no hr]
    obtain rfl : D = false := H0 fun h => hr h.2.1
    clear H0 H1
    go_wp2
    go_ret
    exact ⟨rfl, bW⟩
  rw [risB_yes hr]
  go_wp2
  go_loopw [7, 26] (fun s t wr => ∃ k : Nat, k ≤ M ∧ s = .int .u64 ((msk (fun r => ∃ j, j < k ∧ Hs f (l j).toNat (n (l j).toNat) r) 64 : Nat) : Int) ∧ t = .int .i64 (k : Int) ∧ U64s wr g N (fun i => msk (Hs f i (n i)) 64) ∧ Below w.heap.size w wr) (fun _ t _ => M - (intOf t).toNat)
  case atStart => exact ⟨0, Nat.zero_le _, by rw [or_zero (fun j => Hs f (l j).toNat (n (l j).toNat))]; rfl, rfl, hU, bW⟩
  case round =>
    clear hU bW
    obtain ⟨k, hk, rfl, rfl, hU, bW⟩ := hrel
    by_cases hlt : k < M
    · have hlt' : (k : Int) < (M : Int) := by omega
      rcases hl.below bW with h0 | ⟨sb, so, rfl, hb, hc⟩
      · omega
      have c0 := hc k hlt
      obtain ⟨x, hx'⟩ : ∃ x : Nat, l k = (x : Int) := ⟨(l k).toNat, by have := (hr.1 k hlt).1; omega⟩
      have hxN : x < N := by have := (hr.1 k hlt).2; omega
      rw [hx'] at c0
      obtain ⟨z0, -⟩ := hU.open hxN
      have ho := mor (fun r => ∃ j, j < k ∧ Hs f (l j).toNat (n (l j).toNat) r) (Hs f (l k).toNat (n (l k).toNat))
      rw [or_step (fun j => Hs f (l j).toNat (n (l j).toNat)), hx', Int.toNat_natCast] at ho
      obtain ⟨X, hX⟩ : ∃ X, msk (fun r => ∃ j, j < k ∧ Hs f (l j).toNat (n (l j).toNat) r) 64 = X := ⟨_, rfl⟩
      obtain ⟨Y, hY⟩ : ∃ Y, msk (fun r => ∃ j, j < k + 1 ∧ Hs f (l j).toNat (n (l j).toNat) r) 64 = Y := ⟨_, rfl⟩
      rw [hX, hY] at ho
      rw [hX]
      have HY : Hid (msk (fun r => ∃ j, j < k + 1 ∧ Hs f (l j).toNat (n (l j).toNat) r) 64 = Y) := hY
      have HU : Hid (U64s wr g N (fun i => msk (Hs f i (n i)) 64)) := hU
      have hx1 : (0 : Int) ≤ (x : Int) ∧ (x : Int) < (N : Int) := by omega
      clear hX hY hU H0 H1
      go_wp2
      exact ⟨⟨k + 1, by omega, by rw [HY.out], by go_num, HU.out, bW⟩, by simp [intOf]; omega⟩
    · have hlt' : ¬ (k : Int) < (M : Int) := by omega
      obtain rfl : k = M := by omega
      obtain ⟨X, hX⟩ : ∃ X, msk (fun r => ∃ j, j < k ∧ Hs f (l j).toNat (n (l j).toNat) r) 64 = X := ⟨_, rfl⟩
      rw [hX]
      go_wp2_with fail
      refine (allOf_any hU hN).mono ?_
      rintro e w3 ⟨rfl, bb⟩
      replace bW := bW.trans (bb.mono bW.size)
      have hE : (((X : Int) == ((msk (fun r => ∃ i, i < N ∧ Hs f i (n i) r) 64 : Nat) : Int)) = D) := by
        refine bool_iff ?_
        rw [nat_beq, ← hX, msk_inj]
        constructor
        · intro h; exact H1 ⟨hx, hr, h⟩
        · intro h
          refine Classical.byContradiction fun hh => ?_
          rw [H0 fun h3 => hh h3.2.2] at h
          cases h
      clear H0 H1 hU bb hX
      go_wp2
      go_ret
      exact ⟨rfl, bW⟩
/-- Reflection x stands in an exposure, and in none with one of T. -/
def Ap (N : Nat) (P : Nat → Nat → Prop) (T : Nat → Prop) (x : Nat) : Prop := (∃ i, i < N ∧ P i x) ∧ ∀ i, i < N → P i x → ∀ r, r < 64 → P i r → ¬ T r
noncomputable def apB (N : Nat) (P : Nat → Nat → Prop) (T : Nat → Prop) (x : Nat) : Bool := @decide (Ap N P T x) (Classical.propDecidable _)
theorem apB_yes {N : Nat} {P : Nat → Nat → Prop} {T : Nat → Prop} {x : Nat} (h : Ap N P T x) : apB N P T x = true := by simp [apB, h]
theorem apB_no {N : Nat} {P : Nat → Nat → Prop} {T : Nat → Prop} {x : Nat} (h : ¬ Ap N P T x) : apB N P T x = false := by simp [apB, h]
set_option maxHeartbeats 4000000 in
theorem standsApart_any {w : World} {g N : Nat} {P : Nat → Nat → Prop} (T : Nat → Prop) (x : Nat) (hx : x < 64) (hU : U64s w g N (fun i => msk (P i) 64)) (hN : N ≤ 1048576) :
    Calls Try.prog 45 #[.int .i64 (x : Int), .int .u64 ((msk T 64 : Nat) : Int), .slice (some ⟨g, 0, none⟩) N N] w fun e w' => e = .returned (.bool (apB N P T x)) ∧ Below w.heap.size w w' := by
  have hz := or_zero (fun i r => P i x ∧ P i r)
  obtain ⟨D, hD⟩ : ∃ D, apB N P T x = D := ⟨_, rfl⟩
  rw [hD]
  go_enter Try.func45, Try.ntmps45
  go_wp2
  go_loopw [7, 12] (fun s t wr => ∃ k : Nat, k ≤ N ∧ s = .int .u64 ((msk (fun r => ∃ i, i < k ∧ (P i x ∧ P i r)) 64 : Nat) : Int) ∧ t = .int .i64 (k : Int) ∧ Below w.heap.size w wr) (fun _ t _ => N - (intOf t).toNat)
  case atStart => exact ⟨0, Nat.zero_le _, by rw [hz]; rfl, rfl, Below.refl _ _⟩
  case round =>
    clear hz
    obtain ⟨k, hk, rfl, rfl, bW⟩ := hrel
    by_cases hlt : k < N
    · have hlt' : (k : Int) < (N : Int) := by omega
      obtain ⟨z0, -⟩ := (hU.below bW).open hlt
      have ha := mand (P k) (fun r => r = x)
      have ho := mor (fun r => ∃ i, i < k ∧ (P i x ∧ P i r)) (P k)
      by_cases hp : P k x
      · have e1 : msk (fun r => (∃ i, i < k ∧ (P i x ∧ P i r)) ∨ P k r) 64 = msk (fun r => ∃ i, i < k + 1 ∧ (P i x ∧ P i r)) 64 := by
          rw [← or_step (fun i r => P i x ∧ P i r)]
          exact msk_congr fun r _ => by simp [hp]
        have e2 : msk (fun r => P k r ∧ r = x) 64 ≠ 0 := msk_some hx ⟨hp, rfl⟩
        rw [e1] at ho
        obtain ⟨Z, hZ⟩ : ∃ Z, msk (fun r => P k r ∧ r = x) 64 = Z := ⟨_, rfl⟩
        obtain ⟨X, hX⟩ : ∃ X, msk (fun r => ∃ i, i < k ∧ (P i x ∧ P i r)) 64 = X := ⟨_, rfl⟩
        obtain ⟨Y, hY⟩ : ∃ Y, msk (fun r => ∃ i, i < k + 1 ∧ (P i x ∧ P i r)) 64 = Y := ⟨_, rfl⟩
        rw [hX, hY] at ho
        rw [hZ] at ha e2
        rw [hX]
        have HY : Hid (msk (fun r => ∃ i, i < k + 1 ∧ (P i x ∧ P i r)) 64 = Y) := hY
        have e3 : ((Z : Int) == 0) = false := by simpa using e2
        have e4 : ¬ (Z : Int) = 0 := by omega
        clear hX hY hZ e1
        go_wp2_with fail
        refine (bitOf_any x hx _).mono ?_
        rintro e w2 ⟨rfl, rfl⟩
        go_wp2
        exact ⟨⟨k + 1, by omega, by rw [HY.out], by go_num, bW⟩, by simp [intOf]; omega⟩
      · have e1 : msk (fun r => ∃ i, i < k ∧ (P i x ∧ P i r)) 64 = msk (fun r => ∃ i, i < k + 1 ∧ (P i x ∧ P i r)) 64 := by
          rw [← or_step (fun i r => P i x ∧ P i r)]
          exact msk_congr fun r _ => by simp [hp]
        have e2 : msk (fun r => P k r ∧ r = x) 64 = 0 := msk_none fun r _ h => hp (h.2 ▸ h.1)
        rw [e2] at ha
        rw [show ((0 : Nat) : Int) = 0 from rfl] at ha
        rw [e1]
        obtain ⟨Y, hY⟩ : ∃ Y, msk (fun r => ∃ i, i < k + 1 ∧ (P i x ∧ P i r)) 64 = Y := ⟨_, rfl⟩
        rw [hY]
        have HY : Hid (msk (fun r => ∃ i, i < k + 1 ∧ (P i x ∧ P i r)) 64 = Y) := hY
        clear hY e1 e2 ho
        go_wp2_with fail
        refine (bitOf_any x hx _).mono ?_
        rintro e w2 ⟨rfl, rfl⟩
        go_wp2
        exact ⟨⟨k + 1, by omega, by rw [HY.out], by go_num, bW⟩, by simp [intOf]; omega⟩
    · have hlt' : ¬ (k : Int) < (N : Int) := by omega
      obtain rfl : k = N := by omega
      by_cases hp : ∃ i, i < k ∧ P i x
      · have e2 : msk (fun r => ∃ i, i < k ∧ (P i x ∧ P i r)) 64 ≠ 0 := by
          obtain ⟨i, h1, h2⟩ := hp
          exact msk_some hx ⟨i, h1, h2, h2⟩
        have ha := mand (fun r => ∃ i, i < k ∧ (P i x ∧ P i r)) T
        have hE : (((msk (fun r => (∃ i, i < k ∧ (P i x ∧ P i r)) ∧ T r) 64 : Nat) : Int) == 0) = apB k P T x := by
          refine bool_iff ?_
          rw [show (0 : Int) = ((0 : Nat) : Int) from rfl, nat_beq, msk_zero]
          constructor
          · intro h
            exact apB_yes ⟨hp, fun i h1 h2 r h3 h4 h5 => h r h3 ⟨⟨i, h1, h2, h4⟩, h5⟩⟩
          · rintro h r h3 ⟨⟨i, h1, h2, h4⟩, h5⟩
            have : Ap k P T x := by
              refine Classical.byContradiction fun hh => ?_
              rw [apB_no hh] at h; cases h
            exact this.2 i h1 h2 r h3 h4 h5
        obtain ⟨X, hX⟩ : ∃ X, msk (fun r => ∃ i, i < k ∧ (P i x ∧ P i r)) 64 = X := ⟨_, rfl⟩
        obtain ⟨Y, hY⟩ : ∃ Y, msk (fun r => (∃ i, i < k ∧ (P i x ∧ P i r)) ∧ T r) 64 = Y := ⟨_, rfl⟩
        rw [hY, hD] at hE
        rw [hY] at ha
        rw [hX] at e2 ha
        rw [hX]
        have e3 : ((X : Int) == 0) = false := by simpa using e2
        have e4 : ¬ (X : Int) = 0 := by omega
        have e5 : ((X : Int) != 0) = true := by simp [bne, e3]
        clear hX hY e2 hD
        go_wp2
        go_ret
        exact ⟨by simp, bW⟩
      · have e2 : msk (fun r => ∃ i, i < k ∧ (P i x ∧ P i r)) 64 = 0 := msk_none fun r _ h => hp (by obtain ⟨i, h1, h2, -⟩ := h; exact ⟨i, h1, h2⟩)
        rw [e2]
        obtain rfl : D = false := hD ▸ apB_no fun h => hp h.1
        rw [show ((0 : Nat) : Int) = 0 from rfl]
        go_wp2
        go_ret
        exact ⟨rfl, bW⟩
/-- A list that is a witness for exposures. -/
def WtOk (N : Nat) (n : Nat → Nat) (f : Nat → Nat → Int) (M : Nat) (l : Nat → Int) : Prop :=
  ExOk N n f ∧ Ris M l 64 ∧ ∀ j, j < M → (∃ i, i < N ∧ Hs f i (n i) (l j).toNat) ∧ ∀ i, i < N → Hs f i (n i) (l j).toNat → ∀ t, t < j → ¬ Hs f i (n i) (l t).toNat
noncomputable def wtB (N : Nat) (n : Nat → Nat) (f : Nat → Nat → Int) (M : Nat) (l : Nat → Int) : Bool := @decide (WtOk N n f M l) (Classical.propDecidable _)
theorem wtB_yes {N : Nat} {n : Nat → Nat} {f : Nat → Nat → Int} {M : Nat} {l : Nat → Int} (h : WtOk N n f M l) : wtB N n f M l = true := by simp [wtB, h]
theorem wtB_no {N : Nat} {n : Nat → Nat} {f : Nat → Nat → Int} {M : Nat} {l : Nat → Int} (h : ¬ WtOk N n f M l) : wtB N n f M l = false := by simp [wtB, h]
theorem ap_iff {N : Nat} {P : Nat → Nat → Prop} {k M x : Nat} {l : Nat → Int} (hr : Ris M l 64) (hk : k < M) (hx : l k = (x : Int)) : Ap N P (fun r => ∃ t, t < k ∧ l t = (r : Int)) x ↔ ((∃ i, i < N ∧ P i (l k).toNat) ∧ ∀ i, i < N → P i (l k).toNat → ∀ t, t < k → ¬ P i (l t).toNat) := by
  rw [hx, Int.toNat_natCast]
  refine and_congr_right fun _ => ⟨fun h i h1 h2 t h3 h4 => ?_, fun h i h1 h2 r h3 h4 => ?_⟩
  · have := hr.1 t (by omega)
    exact h i h1 h2 (l t).toNat (by omega) h4 ⟨t, h3, by omega⟩
  · rintro ⟨t, h5, h6⟩
    refine h i h1 h2 t h5 ?_
    rw [h6, Int.toNat_natCast]
    exact h4
set_option maxHeartbeats 4000000 in
theorem implWitnessOk_any {w : World} {b N cap M cap2 : Nat} {a : Nat → Option Addr} {c : Nat → Nat} {n : Nat → Nat} {f : Nat → Nat → Int} {p : Option Addr} {l : Nat → Int} (hS : Lli w b 0 N a c n f) (hN : N ≤ 1048576) (hn : ∀ i, i < N → n i ≤ 1048576) (hl : Src w p M l) (hM : M ≤ 1048576) :
    Calls Try.prog 16 #[.slice (some ⟨b, 0, none⟩) N cap, .slice p M cap2] w fun e w' => e = .returned (.bool (wtB N n f M l)) ∧ Below w.heap.size w w' := by
  obtain ⟨D, hD⟩ : ∃ D, wtB N n f M l = D := ⟨_, rfl⟩
  rw [hD]
  have H0 : ¬ WtOk N n f M l → D = false := fun h => hD ▸ wtB_no h
  have H1 : WtOk N n f M l → D = true := fun h => hD ▸ wtB_yes h
  clear hD
  go_enter Try.func16, Try.ntmps16
  go_wp2_with fail
  refine (setsOf_any hS hN hn).mono ?_
  rintro e w1 ⟨⟨hx, rfl⟩ | ⟨hx, g, rfl, hU⟩, bW⟩
  · obtain rfl : D = false := H0 fun h => hx h.1
    clear H0 H1
    go_wp2
    go_ret
    exact ⟨rfl, bW⟩
  go_wp2_with fail
  refine (areRising_any (hl.below bW) hM 64 (by omega)).mono ?_
  rintro e w2 ⟨rfl, bb⟩
  replace hU := hU.below bb
  replace bW := bW.trans (bb.mono bW.size)
  clear bb
  by_cases hr : Ris M l 64
  case neg =>
    rw [risB_no hr]
    obtain rfl : D = false := H0 fun h => hr h.2.1
    clear H0 H1
    go_wp2
    go_ret
    exact ⟨rfl, bW⟩
  rw [risB_yes hr]
  go_wp2
  go_loopw [7, 24] (fun s t wr => ∃ k : Nat, k ≤ M ∧ s = .int .u64 ((msk (fun r => ∃ j, j < k ∧ l j = (r : Int)) 64 : Nat) : Int) ∧ t = .int .i64 (k : Int) ∧ (∀ j, j < k → (∃ i, i < N ∧ Hs f i (n i) (l j).toNat) ∧ ∀ i, i < N → Hs f i (n i) (l j).toNat → ∀ t, t < j → ¬ Hs f i (n i) (l t).toNat) ∧ U64s wr g N (fun i => msk (Hs f i (n i)) 64) ∧ Below w.heap.size w wr) (fun _ t _ => M - (intOf t).toNat)
  case atStart => exact ⟨0, Nat.zero_le _, by rw [or_zero (fun j r => l j = (r : Int))]; rfl, rfl, fun j hj => absurd hj (Nat.not_lt_zero _), hU, bW⟩
  case round =>
    clear hU bW
    obtain ⟨k, hk, rfl, rfl, hW, hU, bW⟩ := hrel
    by_cases hlt : k < M
    · have hlt' : (k : Int) < (M : Int) := by omega
      rcases hl.below bW with h0 | ⟨sb, so, rfl, hb, hc⟩
      · omega
      have c0 := hc k hlt
      obtain ⟨x, hx'⟩ : ∃ x : Nat, l k = (x : Int) := ⟨(l k).toNat, by have := (hr.1 k hlt).1; omega⟩
      have hx64 : x < 64 := by have := (hr.1 k hlt).2; omega
      rw [hx'] at c0
      have hap := ap_iff (N := N) (P := fun i => Hs f i (n i)) hr hlt hx'
      have ho := mor (fun r => ∃ j, j < k ∧ l j = (r : Int)) (fun r => r = x)
      have e1 : msk (fun r => (∃ j, j < k ∧ l j = (r : Int)) ∨ r = x) 64 = msk (fun r => ∃ j, j < k + 1 ∧ l j = (r : Int)) 64 := by
        rw [← or_step (fun j r => l j = (r : Int))]
        exact msk_congr fun r _ => by rw [hx']; constructor <;> (rintro (h | h); exact .inl h; right; omega)
      rw [e1] at ho
      have HU : Hid (U64s wr g N (fun i => msk (Hs f i (n i)) 64)) := hU
      have HY : Hid (∃ Y, Y = msk (fun r => ∃ j, j < k + 1 ∧ l j = (r : Int)) 64 ∧ bits .or .u64 ((msk (fun r => ∃ j, j < k ∧ l j = (r : Int)) 64 : Nat) : Int) ((msk (fun r => r = x) 64 : Nat) : Int) = (Y : Int)) := ⟨_, rfl, ho⟩
      clear ho e1
      go_wp2_with fail
      refine (standsApart_any (fun r => ∃ t, t < k ∧ l t = (r : Int)) x hx64 hU hN).mono ?_
      rintro e w3 ⟨rfl, bb⟩
      replace bW := bW.trans (bb.mono bW.size)
      replace hU := hU.below bb
      clear bb HU
      by_cases ha : Ap N (fun i => Hs f i (n i)) (fun r => ∃ t, t < k ∧ l t = (r : Int)) x
      · rw [apB_yes ha]
        obtain ⟨Y, hY, ho⟩ := HY.out
        obtain ⟨X, hX⟩ : ∃ X, msk (fun r => ∃ j, j < k ∧ l j = (r : Int)) 64 = X := ⟨_, rfl⟩
        rw [hX] at ho
        rw [hX]
        have HY' : Hid (Y = msk (fun r => ∃ j, j < k + 1 ∧ l j = (r : Int)) 64) := hY
        have HU : Hid (U64s w3 g N (fun i => msk (Hs f i (n i)) 64)) := hU
        have HW : Hid (∀ j, j < k + 1 → (∃ i, i < N ∧ Hs f i (n i) (l j).toNat) ∧ ∀ i, i < N → Hs f i (n i) (l j).toNat → ∀ t, t < j → ¬ Hs f i (n i) (l t).toNat) := Hid.out fun j hj => by
          by_cases e : j = k
          · subst e; exact hap.1 ha
          · exact hW j (by omega)
        clear hX hY HY hU hap hW H0 H1
        go_wp2_with fail
        refine (bitOf_any x hx64 _).mono ?_
        rintro e w2 ⟨rfl, rfl⟩
        go_wp2
        exact ⟨⟨k + 1, by omega, by rw [HY'.out], by go_num, HW.out, HU.out, bW⟩, by simp [intOf]; omega⟩
      · rw [apB_no ha]
        obtain rfl : D = false := H0 fun h => ha (hap.2 (h.2.2 k hlt))
        clear H0 H1 HY hap hW hU
        go_wp2
        go_ret
        exact ⟨rfl, bW⟩
    · have hlt' : ¬ (k : Int) < (M : Int) := by omega
      obtain rfl : k = M := by omega
      obtain rfl : D = true := H1 ⟨hx, hr, hW⟩
      clear H0 H1 hW
      go_wp2
      go_ret
      exact ⟨rfl, bW⟩
end Go.Proofs.Ytcpeaenophaphaa
