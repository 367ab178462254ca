/-
  Is a list of operators a group, by the specification. Walked.
-/
import Derived.Test.YtiocneailhplkaaGreatMF
import Derived.Test.YtiocneailhplkaaGreatMG
import Derived.Test.YtiocneailhplkaaGreatDrK
import Derived.Sort.Grow
namespace Go.Proofs.YtiocneailhplkaaGreat
open Go.RowKit

/-- The numbers of the operator that does nothing. -/
def oneK : Nat → Int := cat 9 oneF (fun _ => 0)
/-- The numbers of a product. -/
def mulK (x y : OpD) : Nat → Int := cat 9 (mulM x.f y.f) (behV x.f x.h y.h)
/-- A group. -/
def isG (n : Nat) (A : Nat → OpD) : Prop :=
  n ≤ 192 ∧ (∀ i, i < n → (A i).ok) ∧ Rises n A ∧ (∃ i, i < n ∧ lexC 12 (A i).key oneK = 0) ∧ ∀ i k, i < n → k < n → ∃ j, j < n ∧ lexC 12 (A j).key (mulK (A i) (A k)) = 0
/-- Four cells hold this. -/
def Cells4g (p1 : Addr) (v1 : Value) (p2 : Addr) (v2 : Value) (p3 : Addr) (v3 : Value) (p4 : Addr) (v4 : Value) (w' : World) : Prop := w'.cell? p1 = some v1 ∧ w'.cell? p2 = some v2 ∧ w'.cell? p3 = some v3 ∧ w'.cell? p4 = some v4
theorem OpsL.cell {w w' : World} {g n j : Nat} {A : Nat → OpD} {v : Value} (h : OpsL w g n A) (hb : Below w.heap.size w w') (hv : w.cell? ⟨g, j, none⟩ = some v) : w'.cell? ⟨g, j, none⟩ = some v := (hb.cell (p := ⟨g, j, none⟩) h.1).trans hv
theorem src_some {w : World} {b o n : Nat} {f : Nat → Int} (h : Src w (some ⟨b, o, none⟩) n f) (hn : 0 < n) : b < w.heap.size ∧ Ints w b o n f := by
  rcases h with h0 | ⟨b', o', e, l, i⟩
  · omega
  · cases e
    exact ⟨l, i⟩
set_option maxRecDepth 100000 in
set_option maxHeartbeats 1600000 in
theorem groupOk_any {w : World} {g n c : Nat} {A : Nat → OpD} (hL : OpsL w g n A) (hn : n ≤ 1048576) :
    Calls Tryz.prog 26 #[.slice (some ⟨g, 0, none⟩) n c] w fun e w' => Tells e (isG n A) ∧ Below w.heap.size w w' := by
  have hn' : (n : Int) ≤ 1048576 := by omega
  by_cases h192 : n ≤ 192
  rotate_left
  · have h1 : (192 : Int) < (n : Int) := by omega
    go_enter Tryz.func26, Tryz.ntmps26
    go_wp2
    go_ret
    exact ⟨tells_no (fun h => h192 h.1), Below.refl _ _⟩
  have h1 : ¬ (192 : Int) < (n : Int) := by omega
  go_enter Tryz.func26, Tryz.ntmps26
  go_wp2_with fail
  refine (l4Ops_any hL hn).mono ?_
  rintro e w1 ⟨⟨b1, rfl, hb1⟩, B⟩
  cases b1
  · go_wp2
    go_ret
    exact ⟨tells_no (fun h => absurd (hb1.2 h.2.1) (by decide)), B⟩
  have hA : Hid (∀ i, i < n → (A i).ok) := hb1.1 rfl
  clear hb1
  have HL := hL.below B
  go_wp2_with fail
  refine (l3One_any w1).mono ?_
  rintro e w2 ⟨g1, g2, rfl, o1, b2⟩
  replace HL := HL.below b2
  replace B := B.trans (b2.mono B.size)
  clear b2
  have os := o1.srcs
  go_wp2_with fail
  refine (l4At_any HL hA.out os.1 os.2 hn).mono ?_
  rintro e w3 ⟨v, rfl, hv, b3⟩
  replace HL := HL.below b3
  replace B := B.trans (b3.mono B.size)
  clear b3 os o1
  have hv1 : AtOk n A oneK v := hv
  clear hv
  have hvr : -1 ≤ v ∧ (v < 0 → v = -1) := by
    rcases hv1 with ⟨rfl, -⟩ | ⟨i, rfl, -, -⟩
    · exact ⟨by omega, fun _ => rfl⟩
    · exact ⟨by omega, fun h => by omega⟩
  by_cases hvn : v < 0
  · have HN : Hid (¬ isG n A) := by
      intro hG
      rcases hv1 with ⟨-, h2⟩ | ⟨i, rfl, -, -⟩
      · obtain ⟨i, hi, he⟩ := hG.2.2.2.1
        exact h2 hG.2.2.1 i hi he
      · omega
    clear hv1
    go_wp2
    go_ret
    exact ⟨tells_no HN.out, B⟩
  have hone : Hid (∃ i, i < n ∧ lexC 12 (A i).key oneK = 0) := by
    rcases hv1 with ⟨rfl, -⟩ | ⟨i, rfl, h1, h2⟩
    · omega
    · exact ⟨i, h1, h2⟩
  clear hv1 hvr
  go_wp2
  have start0 : Hid (∀ i, i + 1 < 1 → lexC 12 (A i).key (A (i + 1)).key < 0) := fun i hi => by omega
  go_loopw [3] (fun s wr => ∃ k : Nat, 1 ≤ k ∧ (k ≤ n ∨ k = 1) ∧ s = .int .i64 k ∧ Hid (∀ i, i + 1 < k → lexC 12 (A i).key (A (i + 1)).key < 0) ∧ OpsL wr g n A ∧ Below w.heap.size w wr) (fun s _ => n - (intOf s).toNat)
  case atStart => exact ⟨1, Nat.le_refl _, .inr rfl, rfl, start0, HL, B⟩
  case round =>
    clear HL B start0
    obtain ⟨k, hk1, hkn, rfl, hrs, HL, B⟩ := hrel
    by_cases hlt : k < n
    · have hlt' : (k : Int) < (n : Int) := by omega
      obtain ⟨j, rfl⟩ : ∃ j, k = j + 1 := ⟨k - 1, by omega⟩
      have hj1 : ((j + 1 : Nat) : Int) - 1 = (j : Int) := by omega
      have hjn : (j : Int) < (n : Int) := by omega
      have hwj : IntKind.i64.wrap (j : Int) = (j : Int) := IntWalk.i64_in _ (by omega)
      obtain ⟨xa, ca, ya, da, ea1, ea2, sa1, sa2⟩ := HL.2 (j) (by omega)
      obtain ⟨na1, na2, Ra⟩ := hA.out (j) (by omega)
      rw [na1] at ea1 sa1
      rw [na2] at ea2 sa2
      clear na1 na2
      obtain ⟨xb, cb, yb, db, eb1, eb2, sb1, sb2⟩ := HL.2 (j + 1) (by omega)
      obtain ⟨nb1, nb2, Rb⟩ := hA.out (j + 1) (by omega)
      rw [nb1] at eb1 sb1
      rw [nb2] at eb2 sb2
      clear nb1 nb2
      obtain ⟨j', hj'⟩ : ∃ j', j + 1 = j' := ⟨_, rfl⟩
      rw [hj'] at hj1 hlt' eb1 eb2 sb1 sb2 ⊢
      go_wp2_with fail
      obtain ⟨u0, hu0, bb⟩ : ∃ u0, wr.drew = u0 ∧ Below wr.heap.size wr u0 := ⟨_, rfl, (Below.refl _ _).drew⟩
      replace ea1 := HL.cell bb ea1
      replace ea2 := HL.cell bb ea2
      replace eb1 := HL.cell bb eb1
      replace eb2 := HL.cell bb eb2
      replace sa1 := sa1.below bb
      replace sa2 := sa2.below bb
      replace sb1 := sb1.below bb
      replace sb2 := sb2.below bb
      replace HL := HL.below bb
      replace B := B.trans (bb.mono B.size)
      clear bb
      refine wp_region_held_drew (S := Cells4g ⟨g, j * 2, none⟩ (.slice xa 9 ca) ⟨g, j * 2 + 1, none⟩ (.slice ya 3 da) ⟨g, j' * 2, none⟩ (.slice xb 9 cb) ⟨g, j' * 2 + 1, none⟩ (.slice yb 3 db)) (by kernel_rfl) (by rw [hu0]; exact ⟨ea1, ea2, eb1, eb2⟩) (fun hHeld => ?_)
      rw [hu0] at hHeld ⊢
      clear hu0
      change wpAnyH _ _ _ _ _ 11 #[false, false, false, false, false, false, false, false, false, false, false] _ _
      refine wpAnyH_take (i := 0) (v := .slice (some ⟨g, 0, none⟩) n c) rfl (by kernel_rfl) (by kernel_rfl) (by kernel_rfl) (fun _ _ _ h => h) (Or.inl ⟨by kernel_rfl, ?_⟩) hHeld ?_
      · intro w' hSw; go_simp
      try simp only [Act.put, List.setIfInBounds_toArray, List.set_cons_zero]
      refine wpAnyH_take (i := 1) (v := .int .i64 (j' : Int)) rfl (by kernel_rfl) (by kernel_rfl) (by kernel_rfl) (fun _ _ _ h => h) (Or.inl ⟨by kernel_rfl, ?_⟩) hHeld ?_
      · intro w' hSw; go_simp
      try simp only [Act.put, List.setIfInBounds_toArray, List.set_cons_zero, List.set_cons_succ]
      refine wpAnyH_take (i := 2) (v := .int .i64 (j : Int)) rfl (by kernel_rfl) (by kernel_rfl) (by kernel_rfl) (fun _ _ _ h => h) (Or.inl ⟨by kernel_rfl, ?_⟩) hHeld ?_
      · intro w' hSw; go_simp
      try simp only [Act.put, List.setIfInBounds_toArray, List.set_cons_zero, List.set_cons_succ]
      refine wpAnyH_take (i := 3) (v := .pointer (some ⟨g, j * 2, none⟩)) rfl (by kernel_rfl) (by kernel_rfl) (by kernel_rfl) (fun _ _ _ h => h) (Or.inl ⟨by kernel_rfl, ?_⟩) hHeld ?_
      · intro w' hSw; go_simp
      try simp only [Act.put, List.setIfInBounds_toArray, List.set_cons_zero, List.set_cons_succ]
      refine wpAnyH_take (i := 4) (v := .agg #[.slice xa 9 ca, .slice ya 3 da]) rfl (by kernel_rfl) (by kernel_rfl) (by kernel_rfl) (fun _ _ _ h => h) (Or.inl ⟨by kernel_rfl, ?_⟩) hHeld ?_
      · intro w' hSw; obtain ⟨z0, z1, -, -⟩ := hSw; go_simp
      try simp only [Act.put, List.setIfInBounds_toArray, List.set_cons_zero, List.set_cons_succ]
      refine wpAnyH_take (i := 5) (v := .slice (some ⟨g, 0, none⟩) n c) rfl (by kernel_rfl) (by kernel_rfl) (by kernel_rfl) (fun _ _ _ h => h) (Or.inl ⟨by kernel_rfl, ?_⟩) hHeld ?_
      · intro w' hSw; go_simp
      try simp only [Act.put, List.setIfInBounds_toArray, List.set_cons_zero, List.set_cons_succ]
      refine wpAnyH_take (i := 6) (v := .int .i64 (j' : Int)) rfl (by kernel_rfl) (by kernel_rfl) (by kernel_rfl) (fun _ _ _ h => h) (Or.inl ⟨by kernel_rfl, ?_⟩) hHeld ?_
      · intro w' hSw; go_simp
      try simp only [Act.put, List.setIfInBounds_toArray, List.set_cons_zero, List.set_cons_succ]
      refine wpAnyH_take (i := 7) (v := .pointer (some ⟨g, j' * 2, none⟩)) rfl (by kernel_rfl) (by kernel_rfl) (by kernel_rfl) (fun _ _ _ h => h) (Or.inl ⟨by kernel_rfl, ?_⟩) hHeld ?_
      · intro w' hSw; go_simp
      try simp only [Act.put, List.setIfInBounds_toArray, List.set_cons_zero, List.set_cons_succ]
      refine wpAnyH_take (i := 8) (v := .agg #[.slice xb 9 cb, .slice yb 3 db]) rfl (by kernel_rfl) (by kernel_rfl) (by kernel_rfl) (fun _ _ _ h => h) (Or.inl ⟨by kernel_rfl, ?_⟩) hHeld ?_
      · intro w' hSw; obtain ⟨-, -, z0, z1⟩ := hSw; go_simp
      try simp only [Act.put, List.setIfInBounds_toArray, List.set_cons_zero, List.set_cons_succ]
      refine wpAnyH_ready (rs := [9]) (by kernel_rfl) (by simp) ?_
      refine AllReadyH.cons rfl (fun KK hK' => ?_) AllReadyH.nil
      go_simp
      refine (cmpR_any sa1 sa2 sb1 sb2).mono ?_
      rintro e u1 ⟨rfl, bb⟩
      replace ea1 := HL.cell bb ea1
      replace ea2 := HL.cell bb ea2
      replace eb1 := HL.cell bb eb1
      replace eb2 := HL.cell bb eb2
      replace sa1 := sa1.below bb
      replace sa2 := sa2.below bb
      replace sb1 := sb1.below bb
      replace sb2 := sb2.below bb
      replace HL := HL.below bb
      replace B := B.trans (bb.mono B.size)
      clear bb
      try go_wp2_with fail
      clear hHeld
      refine hK'.out _ _ (⟨ea1, ea2, eb1, eb2⟩) (fun hHeld => ?_)
      clear hK' KK
      try simp only [List.setIfInBounds_toArray, List.set_cons_zero, List.set_cons_succ]
      refine wpAnyH_ready (rs := [10]) (by kernel_rfl) (by simp) ?_
      refine AllReadyH.cons rfl (fun KK hK' => ?_) AllReadyH.nil
      go_simp
      clear hHeld
      refine hK'.out _ _ (⟨ea1, ea2, eb1, eb2⟩) (fun hHeld => ?_)
      clear hK' KK
      try simp only [List.setIfInBounds_toArray, List.set_cons_zero, List.set_cons_succ]
      clear hHeld ea1 ea2 eb1 eb2 sa1 sa2 sb1 sb2
      refine wpAnyH_done (by kernel_rfl) ?_ _
      have hkey : lexC 12 (cat 9 (A j).f (A j).h) (cat 9 (A j').f (A j').h) = lexC 12 (A j).key (A (j + 1)).key := by rw [hj']; rfl
      rw [hkey]
      obtain ⟨D, hD⟩ : ∃ D, lexC 12 (A j).key (A (j + 1)).key = D := ⟨_, rfl⟩
      rw [hD]
      by_cases hneg : D < 0
      · have hneg' : ¬ 0 ≤ D := by omega
        have HO : Hid (∀ i, i + 1 < j' + 1 → lexC 12 (A i).key (A (i + 1)).key < 0) := fun i hi => by
          by_cases e : i = j
          · rw [e, hD]; exact hneg
          · exact hrs.out i (by omega)
        clear hrs hD hkey
        go_wp2
        exact ⟨⟨j' + 1, by omega, .inl (by omega), by go_num, HO, HL, B⟩, by simp [intOf]; omega⟩
      · have hneg' : 0 ≤ D := by omega
        have HN : Hid (¬ isG n A) := fun hG => by
          have := hG.2.2.1 j (by omega)
          rw [hD] at this
          exact hneg this
        clear hrs hD hkey
        go_wp2
        go_ret
        exact ⟨tells_no HN.out, B⟩
    · have hlt' : ¬ (k : Int) < (n : Int) := by omega
      have hR : Hid (Rises n A) := fun i hi => hrs.out i (by omega)
      clear hrs
      go_wp2
      have start1 : Hid (∀ i k', i < 0 → k' < n → ∃ j, j < n ∧ lexC 12 (A j).key (mulK (A i) (A k')) = 0) := fun i k' hi => by omega
      go_loopw [4] (fun s wr => ∃ m : Nat, m ≤ n ∧ s = .int .i64 m ∧ Hid (∀ i k', i < m → k' < n → ∃ j, j < n ∧ lexC 12 (A j).key (mulK (A i) (A k')) = 0) ∧ OpsL wr g n A ∧ Below w.heap.size w wr) (fun s _ => n - (intOf s).toNat)
      case atStart => exact ⟨0, Nat.zero_le _, rfl, start1, HL, B⟩
      case round =>
        clear HL B start1
        obtain ⟨m, hm, rfl, hms, HL, B⟩ := hrel
        by_cases hlm : m < n
        · have hlm' : (m : Int) < (n : Int) := by omega
          go_wp2
          have start2 : Hid (∀ k', k' < 0 → ∃ j, j < n ∧ lexC 12 (A j).key (mulK (A m) (A k')) = 0) := fun k' hi => by omega
          go_loopw [5] (fun s wr => ∃ l : Nat, l ≤ n ∧ s = .int .i64 l ∧ Hid (∀ k', k' < l → ∃ j, j < n ∧ lexC 12 (A j).key (mulK (A m) (A k')) = 0) ∧ OpsL wr g n A ∧ Below w.heap.size w wr) (fun s _ => n - (intOf s).toNat)
          case atStart => exact ⟨0, Nat.zero_le _, rfl, start2, HL, B⟩
          case round =>
            clear HL B start2
            obtain ⟨l, hl, rfl, hls, HL, B⟩ := hrel
            by_cases hll : l < n
            · have hll' : (l : Int) < (n : Int) := by omega
              obtain ⟨xa, ca, ya, da, ea1, ea2, sa1, sa2⟩ := HL.2 (m) (by omega)
              obtain ⟨na1, na2, Ra⟩ := hA.out (m) (by omega)
              rw [na1] at ea1 sa1
              rw [na2] at ea2 sa2
              clear na1 na2
              obtain ⟨xb, cb, yb, db, eb1, eb2, sb1, sb2⟩ := HL.2 (l) (by omega)
              obtain ⟨nb1, nb2, Rb⟩ := hA.out (l) (by omega)
              rw [nb1] at eb1 sb1
              rw [nb2] at eb2 sb2
              clear nb1 nb2
              rcases id sa1 with h0 | ⟨pa1, qa1, rfl, la1, ia1⟩
              · omega
              rcases id sa2 with h0 | ⟨pa2, qa2, rfl, la2, ia2⟩
              · omega
              rcases id sb1 with h0 | ⟨pb1, qb1, rfl, lb1, ib1⟩
              · omega
              rcases id sb2 with h0 | ⟨pb2, qb2, rfl, lb2, ib2⟩
              · omega
              clear ia1 ia2 ib1 ib2 la1 la2 lb1 lb2
              go_wp2_with fail
              obtain ⟨u0, hu0, bb⟩ : ∃ u0, wr.drew = u0 ∧ Below wr.heap.size wr u0 := ⟨_, rfl, (Below.refl _ _).drew⟩
              replace ea1 := HL.cell bb ea1
              replace ea2 := HL.cell bb ea2
              replace eb1 := HL.cell bb eb1
              replace eb2 := HL.cell bb eb2
              replace sa1 := sa1.below bb
              replace sa2 := sa2.below bb
              replace sb1 := sb1.below bb
              replace sb2 := sb2.below bb
              replace HL := HL.below bb
              replace B := B.trans (bb.mono B.size)
              clear bb
              refine wp_region_held_drew (S := Cells4g ⟨g, m * 2, none⟩ (.slice (some ⟨pa1, qa1, none⟩) 9 ca) ⟨g, m * 2 + 1, none⟩ (.slice (some ⟨pa2, qa2, none⟩) 3 da) ⟨g, l * 2, none⟩ (.slice (some ⟨pb1, qb1, none⟩) 9 cb) ⟨g, l * 2 + 1, none⟩ (.slice (some ⟨pb2, qb2, none⟩) 3 db)) (by kernel_rfl) (by rw [hu0]; exact ⟨ea1, ea2, eb1, eb2⟩) (fun hHeld => ?_)
              rw [hu0] at hHeld ⊢
              clear hu0
              change wpAnyH _ _ _ _ _ 12 #[false, false, false, false, false, false, false, false, false, false, false, false] _ _
              refine wpAnyH_take (i := 0) (v := .slice (some ⟨g, 0, none⟩) n c) rfl (by kernel_rfl) (by kernel_rfl) (by kernel_rfl) (fun _ _ _ h => h) (Or.inl ⟨by kernel_rfl, ?_⟩) hHeld ?_
              · intro w' hSw; go_simp
              try simp only [Act.put, List.setIfInBounds_toArray, List.set_cons_zero]
              refine wpAnyH_take (i := 1) (v := .slice (some ⟨g, 0, none⟩) n c) rfl (by kernel_rfl) (by kernel_rfl) (by kernel_rfl) (fun _ _ _ h => h) (Or.inl ⟨by kernel_rfl, ?_⟩) hHeld ?_
              · intro w' hSw; go_simp
              try simp only [Act.put, List.setIfInBounds_toArray, List.set_cons_zero, List.set_cons_succ]
              refine wpAnyH_take (i := 2) (v := .int .i64 (m : Int)) rfl (by kernel_rfl) (by kernel_rfl) (by kernel_rfl) (fun _ _ _ h => h) (Or.inl ⟨by kernel_rfl, ?_⟩) hHeld ?_
              · intro w' hSw; go_simp
              try simp only [Act.put, List.setIfInBounds_toArray, List.set_cons_zero, List.set_cons_succ]
              refine wpAnyH_take (i := 3) (v := .pointer (some ⟨g, m * 2, none⟩)) rfl (by kernel_rfl) (by kernel_rfl) (by kernel_rfl) (fun _ _ _ h => h) (Or.inl ⟨by kernel_rfl, ?_⟩) hHeld ?_
              · intro w' hSw; go_simp
              try simp only [Act.put, List.setIfInBounds_toArray, List.set_cons_zero, List.set_cons_succ]
              refine wpAnyH_take (i := 4) (v := .agg #[.slice (some ⟨pa1, qa1, none⟩) 9 ca, .slice (some ⟨pa2, qa2, none⟩) 3 da]) rfl (by kernel_rfl) (by kernel_rfl) (by kernel_rfl) (fun _ _ _ h => h) (Or.inl ⟨by kernel_rfl, ?_⟩) hHeld ?_
              · intro w' hSw; obtain ⟨z0, z1, -, -⟩ := hSw; go_simp
              try simp only [Act.put, List.setIfInBounds_toArray, List.set_cons_zero, List.set_cons_succ]
              refine wpAnyH_take (i := 5) (v := .slice (some ⟨g, 0, none⟩) n c) rfl (by kernel_rfl) (by kernel_rfl) (by kernel_rfl) (fun _ _ _ h => h) (Or.inl ⟨by kernel_rfl, ?_⟩) hHeld ?_
              · intro w' hSw; go_simp
              try simp only [Act.put, List.setIfInBounds_toArray, List.set_cons_zero, List.set_cons_succ]
              refine wpAnyH_take (i := 6) (v := .int .i64 (l : Int)) rfl (by kernel_rfl) (by kernel_rfl) (by kernel_rfl) (fun _ _ _ h => h) (Or.inl ⟨by kernel_rfl, ?_⟩) hHeld ?_
              · intro w' hSw; go_simp
              try simp only [Act.put, List.setIfInBounds_toArray, List.set_cons_zero, List.set_cons_succ]
              refine wpAnyH_take (i := 7) (v := .pointer (some ⟨g, l * 2, none⟩)) rfl (by kernel_rfl) (by kernel_rfl) (by kernel_rfl) (fun _ _ _ h => h) (Or.inl ⟨by kernel_rfl, ?_⟩) hHeld ?_
              · intro w' hSw; go_simp
              try simp only [Act.put, List.setIfInBounds_toArray, List.set_cons_zero, List.set_cons_succ]
              refine wpAnyH_take (i := 8) (v := .agg #[.slice (some ⟨pb1, qb1, none⟩) 9 cb, .slice (some ⟨pb2, qb2, none⟩) 3 db]) rfl (by kernel_rfl) (by kernel_rfl) (by kernel_rfl) (fun _ _ _ h => h) (Or.inl ⟨by kernel_rfl, ?_⟩) hHeld ?_
              · intro w' hSw; obtain ⟨-, -, z0, z1⟩ := hSw; go_simp
              try simp only [Act.put, List.setIfInBounds_toArray, List.set_cons_zero, List.set_cons_succ]
              refine wpAnyH_ready (rs := [9]) (by kernel_rfl) (by simp) ?_
              refine AllReadyH.cons rfl (fun KK hK' => ?_) AllReadyH.nil
              go_simp
              obtain ⟨la1, ia1⟩ := src_some sa1 (by omega)
              obtain ⟨la2, ia2⟩ := src_some sa2 (by omega)
              obtain ⟨lb1, ib1⟩ := src_some sb1 (by omega)
              obtain ⟨lb2, ib2⟩ := src_some sb2 (by omega)
              refine (l3Mul_own ca da cb db ia1 ia2 ib1 ib2 la1 la2 lb1 lb2 Ra Rb).mono ?_
              rintro e u1 ⟨g9, g3, rfl, oq, bb⟩
              clear ia1 ia2 ib1 ib2 la1 la2 lb1 lb2
              replace ea1 := HL.cell bb ea1
              replace ea2 := HL.cell bb ea2
              replace eb1 := HL.cell bb eb1
              replace eb2 := HL.cell bb eb2
              replace sa1 := sa1.below bb
              replace sa2 := sa2.below bb
              replace sb1 := sb1.below bb
              replace sb2 := sb2.below bb
              replace HL := HL.below bb
              replace B := B.trans (bb.mono B.size)
              clear bb
              try go_wp2_with fail
              clear hHeld
              refine hK'.out _ _ (⟨ea1, ea2, eb1, eb2⟩) (fun hHeld => ?_)
              clear hK' KK
              try simp only [List.setIfInBounds_toArray, List.set_cons_zero, List.set_cons_succ]
              have os := oq.srcs
              refine wpAnyH_ready (rs := [10]) (by kernel_rfl) (by simp) ?_
              refine AllReadyH.cons rfl (fun KK hK' => ?_) AllReadyH.nil
              go_simp
              refine (l4At_any HL hA.out os.1 os.2 hn).mono ?_
              rintro e u2 ⟨v2, rfl, hv2, bb⟩
              replace ea1 := HL.cell bb ea1
              replace ea2 := HL.cell bb ea2
              replace eb1 := HL.cell bb eb1
              replace eb2 := HL.cell bb eb2
              replace sa1 := sa1.below bb
              replace sa2 := sa2.below bb
              replace sb1 := sb1.below bb
              replace sb2 := sb2.below bb
              replace HL := HL.below bb
              replace B := B.trans (bb.mono B.size)
              clear bb
              try go_wp2_with fail
              clear hHeld
              refine hK'.out _ _ (⟨ea1, ea2, eb1, eb2⟩) (fun hHeld => ?_)
              clear hK' KK
              try simp only [List.setIfInBounds_toArray, List.set_cons_zero, List.set_cons_succ]
              clear os oq
              refine wpAnyH_ready (rs := [11]) (by kernel_rfl) (by simp) ?_
              refine AllReadyH.cons rfl (fun KK hK' => ?_) AllReadyH.nil
              go_simp
              clear hHeld
              refine hK'.out _ _ (⟨ea1, ea2, eb1, eb2⟩) (fun hHeld => ?_)
              clear hK' KK
              try simp only [List.setIfInBounds_toArray, List.set_cons_zero, List.set_cons_succ]
              clear hHeld ea1 ea2 eb1 eb2 sa1 sa2 sb1 sb2
              refine wpAnyH_done (by kernel_rfl) ?_ _
              have hv3 : AtOk n A (mulK (A m) (A l)) v2 := hv2
              clear hv2
              by_cases hneg : v2 < 0
              · have HN : Hid (¬ isG n A) := by
                  intro hG
                  rcases hv3 with ⟨-, h2⟩ | ⟨i, rfl, -, -⟩
                  · obtain ⟨i, hi, he⟩ := hG.2.2.2.2 m l hlm hll
                    exact h2 hG.2.2.1 i hi he
                  · omega
                clear hv3 hls hms
                go_wp2
                go_ret
                exact ⟨tells_no HN.out, B⟩
              · have HO : Hid (∀ k', k' < l + 1 → ∃ j, j < n ∧ lexC 12 (A j).key (mulK (A m) (A k')) = 0) := fun k' hk' => by
                  by_cases e : k' = l
                  · rw [e]
                    rcases hv3 with ⟨rfl, -⟩ | ⟨i, rfl, h1, h2⟩
                    · omega
                    · exact ⟨i, h1, h2⟩
                  · exact hls.out k' (by omega)
                clear hv3 hls
                go_wp2
                exact ⟨⟨l + 1, by omega, by go_num, HO, HL, B⟩, by simp [intOf]; omega⟩
            · have hll' : ¬ (l : Int) < (n : Int) := by omega
              obtain rfl : l = n := by omega
              have HM : Hid (∀ i k', i < m + 1 → k' < l → ∃ j, j < l ∧ lexC 12 (A j).key (mulK (A i) (A k')) = 0) := fun i k' hi hk' => by
                by_cases e : i = m
                · rw [e]; exact hls.out k' hk'
                · exact hms.out i k' (by omega) hk'
              clear hms hls
              go_wp2
              exact ⟨⟨m + 1, by omega, by go_num, HM, HL, B⟩, by simp [intOf]; omega⟩
        · have hlm' : ¬ (m : Int) < (n : Int) := by omega
          obtain rfl : m = n := by omega
          have HG : Hid (isG m A) := ⟨h192, hA.out, hR.out, hone.out, fun i k' hi hk' => hms.out i k' hi hk'⟩
          clear hms hR hone hA
          go_wp2
          go_ret
          exact ⟨tells_yes HG.out, B⟩
end Go.Proofs.YtiocneailhplkaaGreat
/-
  Operators compared by the program, walked.
-/
namespace Go.Proofs.YtiocneailhplkaaGreat
open Go.RowKit

theorem isNaN_any (x : Int) (w : World) : Calls Tryz.prog 128 #[.int .i64 x] w fun e w' => e = .returned (.bool false) ∧ w = w' := by
  have h : (x != x) = false := by simp
  go_enter Tryz.func128, Tryz.ntmps128
  go_wp2
  go_ret
  exact ⟨rfl, rfl⟩
theorem cmp_any (x y : Int) (w : World) : Calls Tryz.prog 115 #[.int .i64 x, .int .i64 y] w fun e w' => e = .returned (.int .i64 (cmp3 x y)) ∧ w = w' := by
  unfold cmp3
  by_cases h1 : x < y
  · rw [if_pos h1]
    go_enter Tryz.func115, Tryz.ntmps115
    go_wp2_with (go_at_call 128; refine (isNaN_any _ _).mono ?_; rintro e w2 ⟨rfl, rfl⟩)
    go_ret
    exact ⟨rfl, rfl⟩
  · rw [if_neg h1]
    by_cases h2 : y < x
    · rw [if_pos h2]
      go_enter Tryz.func115, Tryz.ntmps115
      go_wp2_with (go_at_call 128; refine (isNaN_any _ _).mono ?_; rintro e w2 ⟨rfl, rfl⟩)
      go_ret
      exact ⟨rfl, rfl⟩
    · rw [if_neg h2]
      go_enter Tryz.func115, Tryz.ntmps115
      go_wp2_with (go_at_call 128; refine (isNaN_any _ _).mono ?_; rintro e w2 ⟨rfl, rfl⟩)
      go_ret
      exact ⟨rfl, rfl⟩
theorem compare_any {w : World} {a b : Option Addr} {n m c d : Nat} {f h : Nat → Int} (hs : Src w a n f) (ht : Src w b m h) (hn : n ≤ 4194304) (hm : m ≤ 4194304) :
    Calls Tryz.prog 109 #[.slice a n c, .slice b m d] w fun e w' => e = .returned (.int .i64 (cmpF f h n m n 0)) ∧ w = w' := by
  have hn' : (n : Int) ≤ 4194304 := by omega
  have hm' : (m : Int) ≤ 4194304 := by omega
  obtain ⟨R, hR⟩ : ∃ R, cmpF f h n m n 0 = R := ⟨_, rfl⟩
  rw [hR]
  have hR0 : cmpF f h n m (n - 0) 0 = R := hR
  clear hR
  go_enter Tryz.func109, Tryz.ntmps109
  go_wp2
  go_loopw [11] (fun s wr => ∃ i : Nat, i ≤ n ∧ s = .int .i64 i ∧ Hid (cmpF f h n m (n - i) i = R) ∧ w = wr) (fun s _ => n - (intOf s).toNat)
  case atStart => exact ⟨0, Nat.zero_le _, rfl, hR0, rfl⟩
  case round =>
    clear hR0
    obtain ⟨i, hi, rfl, hR, rfl⟩ := hrel
    by_cases hlt : i < n
    · have hlt' : (i : Int) < (n : Int) := by omega
      have hst := cmpF_step (f := f) (h := h) (m := m) hlt
      rw [hR.out] at hst
      rcases hs with h0 | ⟨g1, o1, rfl, l1, r1⟩
      · omega
      have c1 := r1 i hlt
      by_cases hmi : m ≤ i
      · have hmi' : (m : Int) ≤ (i : Int) := by omega
        rw [if_pos hmi] at hst
        subst hst
        go_wp2
        go_ret
        exact ⟨rfl, rfl⟩
      · have hmi' : (i : Int) < (m : Int) := by omega
        rw [if_neg hmi] at hst
        rcases ht with h0 | ⟨g2, o2, rfl, l2, r2⟩
        · omega
        have c2 := r2 i (by omega)
        obtain ⟨A, hA⟩ : ∃ A, f i = A := ⟨_, rfl⟩
        obtain ⟨C, hC⟩ : ∃ C, h i = C := ⟨_, rfl⟩
        rw [hA] at c1 hst
        rw [hC] at c2 hst
        clear hA hC
        by_cases hx : A < C
        · rw [if_pos hx] at hst
          subst hst
          have e3 : cmp3 A C = -1 := if_pos hx
          go_wp2_with (go_at_call 115; refine (cmp_any _ _ _).mono ?_; rintro e w2 ⟨rfl, rfl⟩; rw [e3])
          go_ret
          exact ⟨rfl, rfl⟩
        · rw [if_neg hx] at hst
          by_cases hy : C < A
          · rw [if_pos hy] at hst
            subst hst
            have e3 : cmp3 A C = 1 := (if_neg hx).trans (if_pos hy)
            go_wp2_with (go_at_call 115; refine (cmp_any _ _ _).mono ?_; rintro e w2 ⟨rfl, rfl⟩; rw [e3])
            go_ret
            exact ⟨rfl, rfl⟩
          · rw [if_neg hy] at hst
            have e3 : cmp3 A C = 0 := (if_neg hx).trans (if_neg hy)
            have HS : Hid (cmpF f h n m (n - (i + 1)) (i + 1) = R) := hst.symm
            clear hst hR
            go_wp2_with (go_at_call 115; refine (cmp_any _ _ _).mono ?_; rintro e w2 ⟨rfl, rfl⟩; rw [e3])
            refine ⟨⟨i + 1, by omega, by go_num, HS, by trivial⟩, by simp [intOf]; omega⟩
    · have hlt' : ¬ (i : Int) < (n : Int) := by omega
      obtain rfl : i = n := by omega
      have hst := cmpF_end (f := f) (h := h) (n := i) (m := m)
      rw [hR.out] at hst
      by_cases hx : i < m
      · have hx' : (i : Int) < (m : Int) := by omega
        rw [if_pos hx] at hst
        subst hst
        go_wp2
        go_ret
        exact ⟨rfl, rfl⟩
      · have hx' : ¬ (i : Int) < (m : Int) := by omega
        rw [if_neg hx] at hst
        subst hst
        go_wp2
        go_ret
        exact ⟨rfl, rfl⟩
/-- The world behind it: draws, and new blocks. -/
def Grew (w w' : World) : Prop := ∃ q os, w' = Go.Sort.grow (w.drewN q) os
theorem Grew.refl (w : World) : Grew w w := ⟨0, #[], by simp [Go.Sort.grow, World.drewN]⟩
theorem Grew.drew {w w' : World} (h : Grew w w') : Grew w w'.drew := by
  obtain ⟨q, os, rfl⟩ := h
  exact ⟨q + 1, os, rfl⟩
theorem Grew.alloc {w w' : World} (h : Grew w w') (o : Obj) : Grew w (w'.alloc o) := by
  obtain ⟨q, os, rfl⟩ := h
  exact ⟨q, os ++ #[o], by rw [Go.Sort.alloc_eq_grow, Go.Sort.grow_grow]⟩
theorem Grew.below {w w' : World} (h : Grew w w') : Below w.heap.size w w' := by
  obtain ⟨q, os, rfl⟩ := h
  refine ⟨rfl, rfl, rfl, by simp [Go.Sort.grow, World.drewN], fun k hk => ?_⟩
  simp only [Go.Sort.grow, World.drewN]
  rw [Array.getElem?_append_left hk]
/-- The first of two numbers that is not 0. -/
def or2 (x y : Int) : Int := if x = 0 then y else x
theorem or2_any {w : World} {q : Nat} {x y : Int} {t : TypeId} (h : At t w q #[.int .i64 x, .int .i64 y]) : Calls Tryz.prog 108 #[.slice (some ⟨q, 0, none⟩) 2 2] w fun e w' => e = .returned (.int .i64 (or2 x y)) ∧ w = w' := by
  have c0 := h.cell 0 rfl
  have c1 := h.cell 1 rfl
  unfold or2
  by_cases hx : x = 0
  · subst hx
    rw [if_pos rfl]
    by_cases hy : y = 0
    · subst hy
      go_enter Tryz.func108, Tryz.ntmps108
      go_wp2
      go_loopw [8] (fun s wr => ∃ k : Nat, k ≤ 2 ∧ s = .int .i64 k ∧ w = wr) (fun s _ => 2 - (intOf s).toNat)
      case atStart => exact ⟨0, Nat.zero_le _, rfl, rfl⟩
      case round =>
        obtain ⟨k, hk, rfl, rfl⟩ := hrel
        rcases (by omega : k = 0 ∨ k = 1 ∨ k = 2) with rfl | rfl | rfl
        · go_wp2
          exact ⟨⟨1, by omega, rfl, by trivial⟩, by simp [intOf]⟩
        · go_wp2
          exact ⟨⟨2, by omega, rfl, by trivial⟩, by simp [intOf]⟩
        · go_wp2
          go_ret
          exact ⟨rfl, rfl⟩
    · have hy' : (y == 0) = false := by simpa using hy
      have hy2 : (y != 0) = true := by simpa using hy
      go_enter Tryz.func108, Tryz.ntmps108
      go_wp2
      go_loopw [8] (fun s wr => ∃ k : Nat, k ≤ 1 ∧ s = .int .i64 k ∧ w = wr) (fun s _ => 2 - (intOf s).toNat)
      case atStart => exact ⟨0, Nat.zero_le _, rfl, rfl⟩
      case round =>
        obtain ⟨k, hk, rfl, rfl⟩ := hrel
        rcases (by omega : k = 0 ∨ k = 1) with rfl | rfl
        · go_wp2
          exact ⟨⟨1, by omega, rfl, by trivial⟩, by simp [intOf]⟩
        · go_wp2
          go_ret
          exact ⟨rfl, rfl⟩
  · rw [if_neg hx]
    have hx' : (x == 0) = false := by simpa using hx
    have hx2 : (x != 0) = true := by simpa using hx
    go_enter Tryz.func108, Tryz.ntmps108
    go_wp2
    go_loopw [8] (fun s wr => s = .int .i64 0 ∧ w = wr) (fun s _ => 2 - (intOf s).toNat)
    case atStart => exact ⟨rfl, rfl⟩
    case round =>
      obtain ⟨rfl, rfl⟩ := hrel
      go_wp2
      go_ret
      exact ⟨rfl, rfl⟩
theorem cat_lo (f h : Nat → Int) {i : Nat} (hi : i < 9) : cat 9 f h i = f i := by unfold cat; rw [if_pos hi]
theorem cat_hi (f h : Nat → Int) (i : Nat) : cat 9 f h (9 + i) = h i := by unfold cat; rw [if_neg (by omega)]; congr 1; omega
/-- Twelve numbers: first nine, then three. -/
theorem lexC_cat (f h f' h' : Nat → Int) : or2 (lexC 9 f f') (lexC 3 h h') = lexC 12 (cat 9 f h) (cat 9 f' h') := by
  unfold or2
  rcases lexC_cases 9 f f' with ⟨a, b⟩ | ⟨p, hp, c, d⟩
  · rw [if_pos a]
    rcases lexC_cases 3 h h' with ⟨a2, b2⟩ | ⟨p, hp, c, d⟩
    · rw [a2]
      refine (lexC_zero.2 fun j hj => ?_).symm
      by_cases e : j < 9
      · rw [cat_lo _ _ e, cat_lo _ _ e]; exact b j e
      · obtain ⟨i, rfl⟩ : ∃ i, j = 9 + i := ⟨j - 9, by omega⟩
        rw [cat_hi, cat_hi]; exact b2 i (by omega)
    · have hq : ∀ j, j < 9 + p → cat 9 f h j = cat 9 f' h' j := fun j hj => by
        by_cases e : j < 9
        · rw [cat_lo _ _ e, cat_lo _ _ e]; exact b j e
        · obtain ⟨i, rfl⟩ : ∃ i, j = 9 + i := ⟨j - 9, by omega⟩
          rw [cat_hi, cat_hi]; exact c i (by omega)
      rcases d with ⟨d, e⟩ | ⟨d, e⟩
      · rw [e]
        have h1 : lexC 12 (cat 9 f h) (cat 9 f' h') < 0 := lexC_neg.2 ⟨9 + p, by omega, hq, by rw [cat_hi, cat_hi]; exact d⟩
        have := lexC_range 12 (cat 9 f h) (cat 9 f' h')
        omega
      · rw [e]
        have h1 : 0 < lexC 12 (cat 9 f h) (cat 9 f' h') := lexC_pos.2 (lexC_neg.2 ⟨9 + p, by omega, fun j hj => (hq j hj).symm, by rw [cat_hi, cat_hi]; exact d⟩)
        have := lexC_range 12 (cat 9 f h) (cat 9 f' h')
        omega
  · have hq : ∀ j, j < p → cat 9 f h j = cat 9 f' h' j := fun j hj => by
      rw [cat_lo _ _ (by omega), cat_lo _ _ (by omega)]; exact c j hj
    have := lexC_range 12 (cat 9 f h) (cat 9 f' h')
    rcases d with ⟨d, e⟩ | ⟨d, e⟩
    · rw [e, if_neg (by omega)]
      have h1 : lexC 12 (cat 9 f h) (cat 9 f' h') < 0 := lexC_neg.2 ⟨p, by omega, hq, by rw [cat_lo _ _ hp, cat_lo _ _ hp]; exact d⟩
      omega
    · rw [e, if_neg (by omega)]
      have h1 : 0 < lexC 12 (cat 9 f h) (cat 9 f' h') := lexC_pos.2 (lexC_neg.2 ⟨p, by omega, fun j hj => (hq j hj).symm, by rw [cat_lo _ _ hp, cat_lo _ _ hp]; exact d⟩)
      omega
theorem opA_src {w : World} {q : Nat} {f h : Nat → Int} {t : TypeId} (a : At t w q (opA f h)) : Src w (some ⟨q, 0, none⟩) 9 f ∧ Src w (some ⟨q, 9, none⟩) 3 h := by
  refine ⟨.inr ⟨q, 0, rfl, a.lt, fun i hi => ?_⟩, .inr ⟨q, 9, rfl, a.lt, fun i hi => ?_⟩⟩
  · have := a.cell i (opA_get f h i (by omega))
    rw [if_pos hi] at this
    simpa using this
  · have := a.cell (9 + i) (opA_get f h (9 + i) (by omega))
    rw [if_neg (by omega), show 9 + i - 9 = i by omega] at this
    exact this
set_option maxRecDepth 100000 in
set_option maxHeartbeats 800000 in
theorem compareOp_any (f h f' h' : Nat → Int) (w : World) : Calls Tryz.prog 98 #[.agg (opA f h), .agg (opA f' h')] w fun e w' => e = .returned (.int .i64 (lexC 12 (cat 9 f h) (cat 9 f' h'))) ∧ Grew w w' := by
  obtain ⟨W1, hW1, a1, B1, -⟩ := boxed w 90 (opA f h)
  obtain ⟨W2, hW2, a2, B2, -⟩ := boxed W1 90 (opA f' h')
  replace a1 := a1.below B2
  have G : Grew w W2 := by rw [← hW2, ← hW1]; exact ((Grew.refl w).alloc _).alloc _
  clear B1 B2
  unfold opA at hW1 hW2 ⊢
  go_enter Tryz.func98, Tryz.ntmps98
  go_wp2_with fail
  clear hW1 hW2
  obtain ⟨q1, hq1⟩ : ∃ q, w.heap.size = q := ⟨_, rfl⟩
  obtain ⟨q2, hq2⟩ : ∃ q, W1.heap.size = q := ⟨_, rfl⟩
  rw [hq1] at a1 ⊢
  rw [hq2] at a2 ⊢
  obtain ⟨u0, hu0, bb, G0⟩ : ∃ u0, W2.drew = u0 ∧ Below W2.heap.size W2 u0 ∧ Grew w u0 := ⟨_, rfl, (Below.refl _ _).drew, G.drew⟩
  replace a1 := a1.below bb
  replace a2 := a2.below bb
  clear bb G
  refine wp_region_held_drew (S := fun _ => True) (by kernel_rfl) trivial (fun hHeld => ?_)
  rw [hu0]
  clear hu0
  change wpAnyH _ _ _ _ _ 13 #[false, false, false, false, false, false, false, false, false, false, false, false, false] _ _
  refine wpAnyH_take (i := 0) (v := .pointer (some ⟨q1, 0, none⟩)) rfl (by kernel_rfl) (by kernel_rfl) (by kernel_rfl) (fun _ _ _ h => h) (Or.inl ⟨by kernel_rfl, ?_⟩) hHeld ?_
  · intro w' hSw; go_simp
  try simp only [Act.put, List.setIfInBounds_toArray, List.set_cons_zero]
  refine wpAnyH_take (i := 1) (v := .slice (some ⟨q1, 0, none⟩) 9 9) rfl (by kernel_rfl) (by kernel_rfl) (by kernel_rfl) (fun _ _ _ h => h) (Or.inl ⟨by kernel_rfl, ?_⟩) hHeld ?_
  · intro w' hSw; go_simp
  try simp only [Act.put, List.setIfInBounds_toArray, List.set_cons_zero, List.set_cons_succ]
  refine wpAnyH_take (i := 2) (v := .pointer (some ⟨q2, 0, none⟩)) rfl (by kernel_rfl) (by kernel_rfl) (by kernel_rfl) (fun _ _ _ h => h) (Or.inl ⟨by kernel_rfl, ?_⟩) hHeld ?_
  · intro w' hSw; go_simp
  try simp only [Act.put, List.setIfInBounds_toArray, List.set_cons_zero, List.set_cons_succ]
  refine wpAnyH_take (i := 3) (v := .slice (some ⟨q2, 0, none⟩) 9 9) rfl (by kernel_rfl) (by kernel_rfl) (by kernel_rfl) (fun _ _ _ h => h) (Or.inl ⟨by kernel_rfl, ?_⟩) hHeld ?_
  · intro w' hSw; go_simp
  try simp only [Act.put, List.setIfInBounds_toArray, List.set_cons_zero, List.set_cons_succ]
  refine wpAnyH_take (i := 5) (v := .pointer (some ⟨q1, 9, none⟩)) rfl (by kernel_rfl) (by kernel_rfl) (by kernel_rfl) (fun _ _ _ h => h) (Or.inl ⟨by kernel_rfl, ?_⟩) hHeld ?_
  · intro w' hSw; go_simp
  try simp only [Act.put, List.setIfInBounds_toArray, List.set_cons_zero, List.set_cons_succ]
  refine wpAnyH_take (i := 6) (v := .slice (some ⟨q1, 9, none⟩) 3 3) rfl (by kernel_rfl) (by kernel_rfl) (by kernel_rfl) (fun _ _ _ h => h) (Or.inl ⟨by kernel_rfl, ?_⟩) hHeld ?_
  · intro w' hSw; go_simp
  try simp only [Act.put, List.setIfInBounds_toArray, List.set_cons_zero, List.set_cons_succ]
  refine wpAnyH_take (i := 7) (v := .pointer (some ⟨q2, 9, none⟩)) rfl (by kernel_rfl) (by kernel_rfl) (by kernel_rfl) (fun _ _ _ h => h) (Or.inl ⟨by kernel_rfl, ?_⟩) hHeld ?_
  · intro w' hSw; go_simp
  try simp only [Act.put, List.setIfInBounds_toArray, List.set_cons_zero, List.set_cons_succ]
  refine wpAnyH_take (i := 8) (v := .slice (some ⟨q2, 9, none⟩) 3 3) rfl (by kernel_rfl) (by kernel_rfl) (by kernel_rfl) (fun _ _ _ h => h) (Or.inl ⟨by kernel_rfl, ?_⟩) hHeld ?_
  · intro w' hSw; go_simp
  try simp only [Act.put, List.setIfInBounds_toArray, List.set_cons_zero, List.set_cons_succ]
  refine wpAnyH_ready (rs := [4]) (by kernel_rfl) (by simp) ?_
  refine AllReadyH.cons rfl (fun KK hK' => ?_) AllReadyH.nil
  go_simp
  refine (compare_any (opA_src a1).1 (opA_src a2).1 (by omega) (by omega)).mono ?_
  rintro e u1 ⟨rfl, rfl⟩
  try go_wp2_with fail
  clear hHeld
  refine hK'.out _ _ (trivial) (fun hHeld => ?_)
  clear hK' KK
  try simp only [List.setIfInBounds_toArray, List.set_cons_zero, List.set_cons_succ]
  refine wpAnyH_ready (rs := [9]) (by kernel_rfl) (by simp) ?_
  refine AllReadyH.cons rfl (fun KK hK' => ?_) AllReadyH.nil
  go_simp
  refine (compare_any (opA_src a1).2 (opA_src a2).2 (by omega) (by omega)).mono ?_
  rintro e u2 ⟨rfl, rfl⟩
  try go_wp2_with fail
  clear hHeld
  refine hK'.out _ _ (trivial) (fun hHeld => ?_)
  clear hK' KK
  try simp only [List.setIfInBounds_toArray, List.set_cons_zero, List.set_cons_succ]
  obtain ⟨X, hX⟩ : ∃ X, cmpF f f' 9 9 9 0 = X := ⟨_, rfl⟩
  obtain ⟨Y, hY⟩ : ∃ Y, cmpF h h' 3 3 3 0 = Y := ⟨_, rfl⟩
  rw [hX, hY]
  refine wpAnyH_ready (rs := [10]) (by kernel_rfl) (by simp) ?_
  refine AllReadyH.cons rfl (fun KK hK' => ?_) AllReadyH.nil
  obtain ⟨u3, hb, tb, bb, -⟩ := boxed u0 3 #[.int .i64 X, .int .i64 Y]
  have G3 : Grew w u3 := by rw [← hb]; exact G0.alloc _
  go_simp
  try rw [hb]
  clear hb bb
  clear hHeld
  refine hK'.out _ _ (trivial) (fun hHeld => ?_)
  clear hK' KK
  try simp only [List.setIfInBounds_toArray, List.set_cons_zero, List.set_cons_succ]
  refine wpAnyH_ready (rs := [11]) (by kernel_rfl) (by simp) ?_
  refine AllReadyH.cons rfl (fun KK hK' => ?_) AllReadyH.nil
  go_simp
  refine (or2_any tb).mono ?_
  rintro e u4 ⟨rfl, rfl⟩
  try go_wp2_with fail
  clear hHeld
  refine hK'.out _ _ (trivial) (fun hHeld => ?_)
  clear hK' KK
  try simp only [List.setIfInBounds_toArray, List.set_cons_zero, List.set_cons_succ]
  refine wpAnyH_ready (rs := [12]) (by kernel_rfl) (by simp) ?_
  refine AllReadyH.cons rfl (fun KK hK' => ?_) AllReadyH.nil
  go_simp
  clear hHeld
  refine hK'.out _ _ (trivial) (fun hHeld => ?_)
  clear hK' KK
  try simp only [List.setIfInBounds_toArray, List.set_cons_zero, List.set_cons_succ]
  clear hHeld
  refine wpAnyH_done (by kernel_rfl) ?_ _
  have hfin : or2 X Y = lexC 12 (cat 9 f h) (cat 9 f' h') := by rw [← hX, ← hY]; exact lexC_cat f h f' h'
  rw [hfin]
  go_wp2
  go_ret
  exact ⟨rfl, G3⟩
end Go.Proofs.YtiocneailhplkaaGreat
/-
  Lists of operators taken over by the program, walked.
-/
namespace Go.Proofs.YtiocneailhplkaaGreat
open Go.RowKit

/-- Twelve cells. -/
def kc (k : Nat → Int) : List Value := [.int .i64 (k 0), .int .i64 (k 1), .int .i64 (k 2), .int .i64 (k 3), .int .i64 (k 4), .int .i64 (k 5), .int .i64 (k 6), .int .i64 (k 7), .int .i64 (k 8), .int .i64 (k 9), .int .i64 (k 10), .int .i64 (k 11)]
theorem kc_cat (f h : Nat → Int) : kc (cat 9 f h) = (opA f h).toList := rfl
/-- The cells of the first n operators. -/
def kCells (F : Nat → Nat → Int) : Nat → List Value
  | 0 => []
  | n + 1 => kCells F n ++ kc (F n)
theorem kCells_len (F : Nat → Nat → Int) (n : Nat) : (kCells F n).length = n * 12 := by
  induction n with
  | zero => rfl
  | succ n ih => simp [kCells, kc, ih]; omega
theorem kCells_congr {F G : Nat → Nat → Int} {n : Nat} (h : ∀ i, i < n → ∀ j, j < 12 → F i j = G i j) : kCells F n = kCells G n := by
  induction n with
  | zero => rfl
  | succ n ih =>
    unfold kCells
    rw [ih (fun i hi => h i (by omega))]
    simp only [kc, h n (by omega) 0 (by omega), h n (by omega) 1 (by omega), h n (by omega) 2 (by omega), h n (by omega) 3 (by omega), h n (by omega) 4 (by omega), h n (by omega) 5 (by omega), h n (by omega) 6 (by omega), h n (by omega) 7 (by omega), h n (by omega) 8 (by omega), h n (by omega) 9 (by omega), h n (by omega) 10 (by omega), h n (by omega) 11 (by omega)]
theorem kc_get (k : Nat → Int) (j : Nat) (hj : j < 12) : (kc k)[j]? = some (.int .i64 (k j)) := by
  rcases (by omega : j = 0 ∨ j = 1 ∨ j = 2 ∨ j = 3 ∨ j = 4 ∨ j = 5 ∨ j = 6 ∨ j = 7 ∨ j = 8 ∨ j = 9 ∨ j = 10 ∨ j = 11) with rfl | rfl | rfl | rfl | rfl | rfl | rfl | rfl | rfl | rfl | rfl | rfl <;> rfl
theorem kCells_get (F : Nat → Nat → Int) {n i j : Nat} (hi : i < n) (hj : j < 12) : (kCells F n)[i * 12 + j]? = some (.int .i64 (F i j)) := by
  induction n with
  | zero => omega
  | succ n ih =>
    unfold kCells
    have hl := kCells_len F n
    by_cases e : i = n
    · subst e
      rw [List.getElem?_append_right (by omega), hl, show i * 12 + j - i * 12 = j by omega]
      exact kc_get _ j hj
    · rw [List.getElem?_append_left (by omega)]
      exact ih (by omega)
/-- A list of operators of the program's own. -/
def Oprs (w : World) (base : Nat) (v : Value) (n : Nat) (F : Nat → Nat → Int) : Prop := w.ownsRow base 90 12 v n (kCells F n) ∧ v ≠ .slice none 0 0
theorem Oprs.below {w w' : World} {base : Nat} {v : Value} {n : Nat} {F : Nat → Nat → Int} (h : Oprs w base v n F) (hb : Below w.heap.size w w') : Oprs w' base v n F := ⟨own_below h.1 hb, h.2⟩
theorem Tryz.info90 : (Tryz.prog.info? 90).map (fun i => (i.zero, i.size, i.bytes)) = some (some (.agg (opA (fun _ => 0) (fun _ => 0))), 12, 96) := by kernel_rfl
theorem kc_one (k : Nat → Int) : ∀ u ∈ kc k, u.oneCell' = true := by
  intro u hu
  simp only [kc, List.mem_cons, List.not_mem_nil, or_false] at hu
  rcases hu with rfl | rfl | rfl | rfl | rfl | rfl | rfl | rfl | rfl | rfl | rfl | rfl <;> rfl
set_option maxRecDepth 100000 in
set_option maxHeartbeats 1600000 in
theorem operatorsOf_any {w : World} {g n c : Nat} {A : Nat → OpD} (hL : OpsL w g n A) (hn : n ≤ 192) :
    Calls Tryz.prog 62 #[.slice (some ⟨g, 0, none⟩) n c] w fun e w' => ((∃ v, e = .returned (.tuple #[v, .bool true]) ∧ Oprs w' w.heap.size v n (fun i => (A i).key) ∧ ∀ i, i < n → (A i).ok) ∨ (∃ v, e = .returned (.tuple #[v, .bool false]) ∧ ¬ ∀ i, i < n → (A i).ok)) ∧ Below w.heap.size w w' := by
  have hn' : (n : Int) ≤ 192 := by omega
  have hbs : ∀ w, (Instr.buildSlice 60 0 #[]).run Tryz.prog w = .ok (.slice (some ⟨w.heap.size, 0, none⟩) 0 0) (w.alloc (.cells #[] 90)) := fun _ => by kernel_rfl
  obtain ⟨i0, hi0, hz0, hz1, hz2⟩ := info_parts Tryz.info90
  obtain ⟨W1, hW1, a1, B, z1⟩ := boxed w 90 #[]
  have o0 : Hid (Oprs W1 w.heap.size (.slice (some ⟨w.heap.size, 0, none⟩) 0 0) 0 (fun i => (A i).key)) := ⟨⟨rfl, .inr ⟨w.heap.size, 0, #[], rfl, Nat.le_refl _, a1, Nat.le_refl _, Nat.zero_le _, rfl, rfl⟩⟩, ne_nil _ _ _⟩
  have HL := hL.below B
  clear a1 z1
  go_enter Tryz.func62, Tryz.ntmps62
  go_wp2
  clear hW1
  go_loopw [4, 12] (fun v s wr => ∃ k : Nat, k ≤ n ∧ s = .int .i64 k ∧ Hid (Oprs wr w.heap.size v k (fun i => (A i).key)) ∧ Hid (∀ i, i < k → (A i).ok) ∧ OpsL wr g n A ∧ Below w.heap.size w wr) (fun _ s _ => n - (intOf s).toNat)
  case atStart => exact ⟨0, Nat.zero_le _, rfl, o0, fun i hi => by omega, HL, B⟩
  case round =>
    clear o0 HL B
    obtain ⟨k, hk, rfl, own, hok, HL, B⟩ := hrel
    by_cases hlt : k < n
    · have hlt' : (k : Int) < (n : Int) := by omega
      obtain ⟨a, c1, b, d, e1, e2, s1, s2⟩ := HL.2 k hlt
      obtain ⟨N, hN⟩ : ∃ N, (A k).n = N := ⟨_, rfl⟩
      obtain ⟨K, hK⟩ : ∃ N, (A k).k = N := ⟨_, rfl⟩
      rw [hN] at e1 s1
      rw [hK] at e2 s2
      obtain ⟨X4, hX4, w4, hY4, a4, b4, y0, y1, y2, y3⟩ := boxed2 wr (.slice a N c1) (.slice b K d)
      have own4 : Hid (Oprs w4 w.heap.size u4 k (fun i => (A i).key)) := own.out.below b4
      have HL4 := HL.below b4
      have B4 := B.trans (b4.mono B.size)
      have t1 := s1.below b4
      have t2 := s2.below b4
      obtain ⟨d0, d1, f0, f1⟩ := a4.open2
      clear own B b4
      go_wp2_with fail
      refine (operatorOf_any c1 d t1 t2).mono ?_
      rintro e w5 ⟨rfl, b5⟩
      clear d0 d1 f0 f1 hX4 hY4 y0 y1 y2 y3 e1 e2
      have own5 := own4.out.below b5
      have HL5 := HL4.below b5
      have B5 := B4.trans (b5.mono B4.size)
      have hiff : isOp N (A k).f K (A k).h ↔ (A k).ok := by rw [← hN, ← hK]; exact Iff.rfl
      clear own4 HL4 B4 t1 t2 s1 s2 b5 a4
      by_cases ho : isOp N (A k).f K (A k).h
      · simp only [decide_eq_true ho]
        obtain ⟨rfl, rfl, -⟩ := id ho
        have etf : ∀ q : Nat → Int, tf 9 3 q = q := fun q => if_pos ⟨rfl, rfl⟩
        rw [etf, etf]
        have HO : Hid (∀ i, i < k + 1 → (A i).ok) := fun i hi => by
          by_cases e : i = k
          · rw [e]; exact hiff.1 ho
          · exact hok.out i (by omega)
        obtain ⟨F, hF⟩ : ∃ F, (A k).f = F := ⟨_, rfl⟩
        obtain ⟨H, hH⟩ : ∃ F, (A k).h = F := ⟨_, rfl⟩
        rw [hF, hH]
        have hkey : Hid ((A k).key = cat 9 F H) := by rw [← hF, ← hH]; rfl
        clear hiff ho etf hok hF hH hN hK
        obtain ⟨W6, hW6, a6, b6, -⟩ := boxed w5 90 (opA F H)
        obtain ⟨W7, hW7, a7, b7, -⟩ := boxed W6 90 (opA F H)
        have own7 : Hid (Oprs W7 w.heap.size u4 k (fun i => (A i).key)) := (own5.below b6).below b7
        have HL7 : Hid (OpsL W7 g n A) := (HL5.below b6).below b7
        have B7 : Hid (Below w.heap.size w W7) := (B5.trans (b6.mono B5.size)).trans (b7.mono (Nat.le_trans B5.size b6.size))
        clear own5 HL5 B5 b6 b7
        obtain ⟨⟨d0, d1, d2, d3, d4, d5, d6, d7, d8⟩, d9, d10, d11⟩ := a6.open12
        have hnw : ∀ j u, (kc (cat 9 F H))[j]? = some u → W7.cell? ((⟨W6.heap.size, 0, none⟩ : Addr).add j) = some u := by
          intro j u hu
          have h1 : (opA F H)[j]? = some u := by rw [kc_cat] at hu; simpa using hu
          have h2 := a7.cell j h1
          by_cases e : j = 0
          · subst e; simpa [Addr.add] using h2
          · simpa [Addr.add, e] using h2
        have hm1 : k + 1 ≤ maxLen := by unfold maxLen; omega
        have hm2 : (k + 1) * 96 ≤ 140737488355328 := by omega
        have hm3 : w.heap.size ≤ W7.heap.size := B7.out.size
        unfold opA at hW6 hW7 ⊢
        go_wp2_with (at_builtin; refine Hid.out (?_ : Hid _))
        refine (?_ : wpList _ _ _ _ _ _)
        refine wpList_append_own_at _ rfl _ _ _ rfl w.heap.size 90 i0 _ 12 96 Tryz.underlying60 hi0 hz0 hz1 hz2 rfl (by omega) u4 k (kCells (fun i => (A i).key) k) rfl own7.out.1 ⟨W6.heap.size, 0, none⟩ 1 1 (kc (cat 9 F H)) rfl rfl hnw (kc_one _) hm1 hm2 hm3 ?_
        intro v3 w8 hown3 hgrow3 hne3 hblk3
        have ho3 : Hid (Oprs w8 w.heap.size v3 (k + 1) (fun i => (A i).key)) := by
          refine ⟨?_, fun e => by have := (hne3.1 e).2; omega⟩
          show w8.ownsRow w.heap.size 90 12 v3 (k + 1) (kCells (fun i => (A i).key) k ++ kc (A k).key)
          rw [hkey.out]
          exact hown3
        have hge : Hid (∀ x, u4.ownBlock = some x → w.heap.size ≤ x) := fun x hx => ownBlock_ge own7.out.1 hx
        have B8 : Below w.heap.size w w8 := B7.out.grown hgrow3 hm3 (fun x hx => hge.out x hx)
        have HL8 : OpsL w8 g n A := hL.below B8
        clear hown3 hgrow3 hne3 hblk3 own7 HL7 B7 hnw hm1 hm2 hm3 d0 d1 d2 d3 d4 d5 d6 d7 d8 d9 d10 d11 a6 a7 hW6 hW7
        go_wp2
        exact ⟨⟨k + 1, by omega, by go_num, ho3, HO, HL8, B8⟩, by simp [intOf]; omega⟩
      · simp only [decide_eq_false ho]
        have HN : Hid (¬ ∀ i, i < n → (A i).ok) := fun h => ho (hiff.2 (h k hlt))
        clear hiff ho hok
        obtain ⟨M, hM⟩ : ∃ M, tf N K (A k).f = M := ⟨_, rfl⟩
        obtain ⟨T, hT⟩ : ∃ M, tf N K (A k).h = M := ⟨_, rfl⟩
        rw [hM, hT]
        unfold opA
        clear hM hT
        obtain ⟨W6, hW6, a6, b6, -⟩ := boxed w5 90 (opA M T)
        obtain ⟨W7, hW7, a7, b7, -⟩ := boxed W6 90 #[]
        have B7 : Hid (Below w.heap.size w W7) := (B5.trans (b6.mono B5.size)).trans (b7.mono (Nat.le_trans B5.size b6.size))
        clear B5 b6 b7 own5 HL5
        unfold opA at hW6
        go_wp2
        exact bodyPost_ret (v := .tuple #[.slice (some ⟨W6.heap.size, 0, none⟩) 0 0, .bool false]) (by simp [results, Tryz.results62, go_sem]) rfl ⟨.inr ⟨_, rfl, HN.out⟩, B7.out⟩
    · have hlt' : ¬ (k : Int) < (n : Int) := by omega
      obtain rfl : k = n := by omega
      go_wp2
      exact bodyPost_ret (v := .tuple #[u4, .bool true]) (by simp [results, Tryz.results62, go_sem]) rfl ⟨.inl ⟨_, rfl, own.out, hok.out⟩, B⟩
end Go.Proofs.YtiocneailhplkaaGreat
