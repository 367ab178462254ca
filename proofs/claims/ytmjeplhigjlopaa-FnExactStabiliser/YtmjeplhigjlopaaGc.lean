/-
  Is a list of operators a group, by the specification. Walked.
-/
import Derived.Test.YtmjeplhigjlopaaGb
import Derived.Test.YtmjeplhigjlopaaOpW
import Derived.Test.YtmjeplhigjlopaaDrK
namespace Go.Proofs.Ytmjeplhigjlopaa
open Go.RowKit

/-- The numbers of the operator that does nothing. -/
def oneK : Nat → Int := cat 9 oneF (fun _ => 0)
/-- The numbers of a product. -/
def mulK (x y : OpD) : Nat → Int := cat 9 (mulM x.f y.f) (behV x.f x.h y.h)
/-- A group. -/
def isG (n : Nat) (A : Nat → OpD) : Prop :=
  n ≤ 192 ∧ (∀ i, i < n → (A i).ok) ∧ Rises n A ∧ (∃ i, i < n ∧ lexC 12 (A i).key oneK = 0) ∧ ∀ i k, i < n → k < n → ∃ j, j < n ∧ lexC 12 (A j).key (mulK (A i) (A k)) = 0
/-- Four cells hold this. -/
def Cells4g (p1 : Addr) (v1 : Value) (p2 : Addr) (v2 : Value) (p3 : Addr) (v3 : Value) (p4 : Addr) (v4 : Value) (w' : World) : Prop := w'.cell? p1 = some v1 ∧ w'.cell? p2 = some v2 ∧ w'.cell? p3 = some v3 ∧ w'.cell? p4 = some v4
theorem OpsL.cell {w w' : World} {g n j : Nat} {A : Nat → OpD} {v : Value} (h : OpsL w g n A) (hb : Below w.heap.size w w') (hv : w.cell? ⟨g, j, none⟩ = some v) : w'.cell? ⟨g, j, none⟩ = some v := (hb.cell (p := ⟨g, j, none⟩) h.1).trans hv
theorem src_some {w : World} {b o n : Nat} {f : Nat → Int} (h : Src w (some ⟨b, o, none⟩) n f) (hn : 0 < n) : b < w.heap.size ∧ Ints w b o n f := by
  rcases h with h0 | ⟨b', o', e, l, i⟩
  · omega
  · cases e
    exact ⟨l, i⟩
set_option maxRecDepth 100000 in
set_option maxHeartbeats 1600000 in
theorem groupOk_any {w : World} {g n c : Nat} {A : Nat → OpD} (hL : OpsL w g n A) (hn : n ≤ 1048576) :
    Calls Try.prog 44 #[.slice (some ⟨g, 0, none⟩) n c] w fun e w' => Tells e (isG n A) ∧ Below w.heap.size w w' := by
  have hn' : (n : Int) ≤ 1048576 := by omega
  by_cases h192 : n ≤ 192
  rotate_left
  · have h1 : (192 : Int) < (n : Int) := by omega
    go_enter Try.func44, Try.ntmps44
    go_wp2
    go_ret
    exact ⟨tells_no (fun h => h192 h.1), Below.refl _ _⟩
  have h1 : ¬ (192 : Int) < (n : Int) := by omega
  go_enter Try.func44, Try.ntmps44
  go_wp2_with fail
  refine (l4Ops_any hL hn).mono ?_
  rintro e w1 ⟨⟨b1, rfl, hb1⟩, B⟩
  cases b1
  · go_wp2
    go_ret
    exact ⟨tells_no (fun h => absurd (hb1.2 h.2.1) (by decide)), B⟩
  have hA : Hid (∀ i, i < n → (A i).ok) := hb1.1 rfl
  clear hb1
  have HL := hL.below B
  go_wp2_with fail
  refine (l3One_any w1).mono ?_
  rintro e w2 ⟨g1, g2, rfl, o1, b2⟩
  replace HL := HL.below b2
  replace B := B.trans (b2.mono B.size)
  clear b2
  have os := o1.srcs
  go_wp2_with fail
  refine (l4At_any HL hA.out os.1 os.2 hn).mono ?_
  rintro e w3 ⟨v, rfl, hv, b3⟩
  replace HL := HL.below b3
  replace B := B.trans (b3.mono B.size)
  clear b3 os o1
  have hv1 : AtOk n A oneK v := hv
  clear hv
  have hvr : -1 ≤ v ∧ (v < 0 → v = -1) := by
    rcases hv1 with ⟨rfl, -⟩ | ⟨i, rfl, -, -⟩
    · exact ⟨by omega, fun _ => rfl⟩
    · exact ⟨by omega, fun h => by omega⟩
  by_cases hvn : v < 0
  · have HN : Hid (¬ isG n A) := by
      intro hG
      rcases hv1 with ⟨-, h2⟩ | ⟨i, rfl, -, -⟩
      · obtain ⟨i, hi, he⟩ := hG.2.2.2.1
        exact h2 hG.2.2.1 i hi he
      · omega
    clear hv1
    go_wp2
    go_ret
    exact ⟨tells_no HN.out, B⟩
  have hone : Hid (∃ i, i < n ∧ lexC 12 (A i).key oneK = 0) := by
    rcases hv1 with ⟨rfl, -⟩ | ⟨i, rfl, h1, h2⟩
    · omega
    · exact ⟨i, h1, h2⟩
  clear hv1 hvr
  go_wp2
  have start0 : Hid (∀ i, i + 1 < 1 → lexC 12 (A i).key (A (i + 1)).key < 0) := fun i hi => by omega
  go_loopw [3] (fun s wr => ∃ k : Nat, 1 ≤ k ∧ (k ≤ n ∨ k = 1) ∧ s = .int .i64 k ∧ Hid (∀ i, i + 1 < k → lexC 12 (A i).key (A (i + 1)).key < 0) ∧ OpsL wr g n A ∧ Below w.heap.size w wr) (fun s _ => n - (intOf s).toNat)
  case atStart => exact ⟨1, Nat.le_refl _, .inr rfl, rfl, start0, HL, B⟩
  case round =>
    clear HL B start0
    obtain ⟨k, hk1, hkn, rfl, hrs, HL, B⟩ := hrel
    by_cases hlt : k < n
    · have hlt' : (k : Int) < (n : Int) := by omega
      obtain ⟨j, rfl⟩ : ∃ j, k = j + 1 := ⟨k - 1, by omega⟩
      have hj1 : ((j + 1 : Nat) : Int) - 1 = (j : Int) := by omega
      have hjn : (j : Int) < (n : Int) := by omega
      have hwj : IntKind.i64.wrap (j : Int) = (j : Int) := IntWalk.i64_in _ (by omega)
      obtain ⟨xa, ca, ya, da, ea1, ea2, sa1, sa2⟩ := HL.2 (j) (by omega)
      obtain ⟨na1, na2, Ra⟩ := hA.out (j) (by omega)
      rw [na1] at ea1 sa1
      rw [na2] at ea2 sa2
      clear na1 na2
      obtain ⟨xb, cb, yb, db, eb1, eb2, sb1, sb2⟩ := HL.2 (j + 1) (by omega)
      obtain ⟨nb1, nb2, Rb⟩ := hA.out (j + 1) (by omega)
      rw [nb1] at eb1 sb1
      rw [nb2] at eb2 sb2
      clear nb1 nb2
      obtain ⟨j', hj'⟩ : ∃ j', j + 1 = j' := ⟨_, rfl⟩
      rw [hj'] at hj1 hlt' eb1 eb2 sb1 sb2 ⊢
      go_wp2_with fail
      obtain ⟨u0, hu0, bb⟩ : ∃ u0, wr.drew = u0 ∧ Below wr.heap.size wr u0 := ⟨_, rfl, (Below.refl _ _).drew⟩
      replace ea1 := HL.cell bb ea1
      replace ea2 := HL.cell bb ea2
      replace eb1 := HL.cell bb eb1
      replace eb2 := HL.cell bb eb2
      replace sa1 := sa1.below bb
      replace sa2 := sa2.below bb
      replace sb1 := sb1.below bb
      replace sb2 := sb2.below bb
      replace HL := HL.below bb
      replace B := B.trans (bb.mono B.size)
      clear bb
      refine wp_region_held_drew (S := Cells4g ⟨g, j * 2, none⟩ (.slice xa 9 ca) ⟨g, j * 2 + 1, none⟩ (.slice ya 3 da) ⟨g, j' * 2, none⟩ (.slice xb 9 cb) ⟨g, j' * 2 + 1, none⟩ (.slice yb 3 db)) (by kernel_rfl) (by rw [hu0]; exact ⟨ea1, ea2, eb1, eb2⟩) (fun hHeld => ?_)
      rw [hu0] at hHeld ⊢
      clear hu0
      change wpAnyH _ _ _ _ _ 11 #[false, false, false, false, false, false, false, false, false, false, false] _ _
      refine wpAnyH_take (i := 0) (v := .slice (some ⟨g, 0, none⟩) n c) rfl (by kernel_rfl) (by kernel_rfl) (by kernel_rfl) (fun _ _ _ h => h) (Or.inl ⟨by kernel_rfl, ?_⟩) hHeld ?_
      · intro w' hSw; go_simp
      try simp only [Act.put, List.setIfInBounds_toArray, List.set_cons_zero]
      refine wpAnyH_take (i := 1) (v := .int .i64 (j' : Int)) rfl (by kernel_rfl) (by kernel_rfl) (by kernel_rfl) (fun _ _ _ h => h) (Or.inl ⟨by kernel_rfl, ?_⟩) hHeld ?_
      · intro w' hSw; go_simp
      try simp only [Act.put, List.setIfInBounds_toArray, List.set_cons_zero, List.set_cons_succ]
      refine wpAnyH_take (i := 2) (v := .int .i64 (j : Int)) rfl (by kernel_rfl) (by kernel_rfl) (by kernel_rfl) (fun _ _ _ h => h) (Or.inl ⟨by kernel_rfl, ?_⟩) hHeld ?_
      · intro w' hSw; go_simp
      try simp only [Act.put, List.setIfInBounds_toArray, List.set_cons_zero, List.set_cons_succ]
      refine wpAnyH_take (i := 3) (v := .pointer (some ⟨g, j * 2, none⟩)) rfl (by kernel_rfl) (by kernel_rfl) (by kernel_rfl) (fun _ _ _ h => h) (Or.inl ⟨by kernel_rfl, ?_⟩) hHeld ?_
      · intro w' hSw; go_simp
      try simp only [Act.put, List.setIfInBounds_toArray, List.set_cons_zero, List.set_cons_succ]
      refine wpAnyH_take (i := 4) (v := .agg #[.slice xa 9 ca, .slice ya 3 da]) rfl (by kernel_rfl) (by kernel_rfl) (by kernel_rfl) (fun _ _ _ h => h) (Or.inl ⟨by kernel_rfl, ?_⟩) hHeld ?_
      · intro w' hSw; obtain ⟨z0, z1, -, -⟩ := hSw; go_simp
      try simp only [Act.put, List.setIfInBounds_toArray, List.set_cons_zero, List.set_cons_succ]
      refine wpAnyH_take (i := 5) (v := .slice (some ⟨g, 0, none⟩) n c) rfl (by kernel_rfl) (by kernel_rfl) (by kernel_rfl) (fun _ _ _ h => h) (Or.inl ⟨by kernel_rfl, ?_⟩) hHeld ?_
      · intro w' hSw; go_simp
      try simp only [Act.put, List.setIfInBounds_toArray, List.set_cons_zero, List.set_cons_succ]
      refine wpAnyH_take (i := 6) (v := .int .i64 (j' : Int)) rfl (by kernel_rfl) (by kernel_rfl) (by kernel_rfl) (fun _ _ _ h => h) (Or.inl ⟨by kernel_rfl, ?_⟩) hHeld ?_
      · intro w' hSw; go_simp
      try simp only [Act.put, List.setIfInBounds_toArray, List.set_cons_zero, List.set_cons_succ]
      refine wpAnyH_take (i := 7) (v := .pointer (some ⟨g, j' * 2, none⟩)) rfl (by kernel_rfl) (by kernel_rfl) (by kernel_rfl) (fun _ _ _ h => h) (Or.inl ⟨by kernel_rfl, ?_⟩) hHeld ?_
      · intro w' hSw; go_simp
      try simp only [Act.put, List.setIfInBounds_toArray, List.set_cons_zero, List.set_cons_succ]
      refine wpAnyH_take (i := 8) (v := .agg #[.slice xb 9 cb, .slice yb 3 db]) rfl (by kernel_rfl) (by kernel_rfl) (by kernel_rfl) (fun _ _ _ h => h) (Or.inl ⟨by kernel_rfl, ?_⟩) hHeld ?_
      · intro w' hSw; obtain ⟨-, -, z0, z1⟩ := hSw; go_simp
      try simp only [Act.put, List.setIfInBounds_toArray, List.set_cons_zero, List.set_cons_succ]
      refine wpAnyH_ready (rs := [9]) (by kernel_rfl) (by simp) ?_
      refine AllReadyH.cons rfl (fun KK hK' => ?_) AllReadyH.nil
      go_simp
      refine (cmpR_any sa1 sa2 sb1 sb2).mono ?_
      rintro e u1 ⟨rfl, bb⟩
      replace ea1 := HL.cell bb ea1
      replace ea2 := HL.cell bb ea2
      replace eb1 := HL.cell bb eb1
      replace eb2 := HL.cell bb eb2
      replace sa1 := sa1.below bb
      replace sa2 := sa2.below bb
      replace sb1 := sb1.below bb
      replace sb2 := sb2.below bb
      replace HL := HL.below bb
      replace B := B.trans (bb.mono B.size)
      clear bb
      try go_wp2_with fail
      clear hHeld
      refine hK'.out _ _ (⟨ea1, ea2, eb1, eb2⟩) (fun hHeld => ?_)
      clear hK' KK
      try simp only [List.setIfInBounds_toArray, List.set_cons_zero, List.set_cons_succ]
      refine wpAnyH_ready (rs := [10]) (by kernel_rfl) (by simp) ?_
      refine AllReadyH.cons rfl (fun KK hK' => ?_) AllReadyH.nil
      go_simp
      clear hHeld
      refine hK'.out _ _ (⟨ea1, ea2, eb1, eb2⟩) (fun hHeld => ?_)
      clear hK' KK
      try simp only [List.setIfInBounds_toArray, List.set_cons_zero, List.set_cons_succ]
      clear hHeld ea1 ea2 eb1 eb2 sa1 sa2 sb1 sb2
      refine wpAnyH_done (by kernel_rfl) ?_ _
      have hkey : lexC 12 (cat 9 (A j).f (A j).h) (cat 9 (A j').f (A j').h) = lexC 12 (A j).key (A (j + 1)).key := by rw [hj']; rfl
      rw [hkey]
      obtain ⟨D, hD⟩ : ∃ D, lexC 12 (A j).key (A (j + 1)).key = D := ⟨_, rfl⟩
      rw [hD]
      by_cases hneg : D < 0
      · have hneg' : ¬ 0 ≤ D := by omega
        have HO : Hid (∀ i, i + 1 < j' + 1 → lexC 12 (A i).key (A (i + 1)).key < 0) := fun i hi => by
          by_cases e : i = j
          · rw [e, hD]; exact hneg
          · exact hrs.out i (by omega)
        clear hrs hD hkey
        go_wp2
        exact ⟨⟨j' + 1, by omega, .inl (by omega), by go_num, HO, HL, B⟩, by simp [intOf]; omega⟩
      · have hneg' : 0 ≤ D := by omega
        have HN : Hid (¬ isG n A) := fun hG => by
          have := hG.2.2.1 j (by omega)
          rw [hD] at this
          exact hneg this
        clear hrs hD hkey
        go_wp2
        go_ret
        exact ⟨tells_no HN.out, B⟩
    · have hlt' : ¬ (k : Int) < (n : Int) := by omega
      have hR : Hid (Rises n A) := fun i hi => hrs.out i (by omega)
      clear hrs
      go_wp2
      have start1 : Hid (∀ i k', i < 0 → k' < n → ∃ j, j < n ∧ lexC 12 (A j).key (mulK (A i) (A k')) = 0) := fun i k' hi => by omega
      go_loopw [4] (fun s wr => ∃ m : Nat, m ≤ n ∧ s = .int .i64 m ∧ Hid (∀ i k', i < m → k' < n → ∃ j, j < n ∧ lexC 12 (A j).key (mulK (A i) (A k')) = 0) ∧ OpsL wr g n A ∧ Below w.heap.size w wr) (fun s _ => n - (intOf s).toNat)
      case atStart => exact ⟨0, Nat.zero_le _, rfl, start1, HL, B⟩
      case round =>
        clear HL B start1
        obtain ⟨m, hm, rfl, hms, HL, B⟩ := hrel
        by_cases hlm : m < n
        · have hlm' : (m : Int) < (n : Int) := by omega
          go_wp2
          have start2 : Hid (∀ k', k' < 0 → ∃ j, j < n ∧ lexC 12 (A j).key (mulK (A m) (A k')) = 0) := fun k' hi => by omega
          go_loopw [5] (fun s wr => ∃ l : Nat, l ≤ n ∧ s = .int .i64 l ∧ Hid (∀ k', k' < l → ∃ j, j < n ∧ lexC 12 (A j).key (mulK (A m) (A k')) = 0) ∧ OpsL wr g n A ∧ Below w.heap.size w wr) (fun s _ => n - (intOf s).toNat)
          case atStart => exact ⟨0, Nat.zero_le _, rfl, start2, HL, B⟩
          case round =>
            clear HL B start2
            obtain ⟨l, hl, rfl, hls, HL, B⟩ := hrel
            by_cases hll : l < n
            · have hll' : (l : Int) < (n : Int) := by omega
              obtain ⟨xa, ca, ya, da, ea1, ea2, sa1, sa2⟩ := HL.2 (m) (by omega)
              obtain ⟨na1, na2, Ra⟩ := hA.out (m) (by omega)
              rw [na1] at ea1 sa1
              rw [na2] at ea2 sa2
              clear na1 na2
              obtain ⟨xb, cb, yb, db, eb1, eb2, sb1, sb2⟩ := HL.2 (l) (by omega)
              obtain ⟨nb1, nb2, Rb⟩ := hA.out (l) (by omega)
              rw [nb1] at eb1 sb1
              rw [nb2] at eb2 sb2
              clear nb1 nb2
              rcases id sa1 with h0 | ⟨pa1, qa1, rfl, la1, ia1⟩
              · omega
              rcases id sa2 with h0 | ⟨pa2, qa2, rfl, la2, ia2⟩
              · omega
              rcases id sb1 with h0 | ⟨pb1, qb1, rfl, lb1, ib1⟩
              · omega
              rcases id sb2 with h0 | ⟨pb2, qb2, rfl, lb2, ib2⟩
              · omega
              clear ia1 ia2 ib1 ib2 la1 la2 lb1 lb2
              go_wp2_with fail
              obtain ⟨u0, hu0, bb⟩ : ∃ u0, wr.drew = u0 ∧ Below wr.heap.size wr u0 := ⟨_, rfl, (Below.refl _ _).drew⟩
              replace ea1 := HL.cell bb ea1
              replace ea2 := HL.cell bb ea2
              replace eb1 := HL.cell bb eb1
              replace eb2 := HL.cell bb eb2
              replace sa1 := sa1.below bb
              replace sa2 := sa2.below bb
              replace sb1 := sb1.below bb
              replace sb2 := sb2.below bb
              replace HL := HL.below bb
              replace B := B.trans (bb.mono B.size)
              clear bb
              refine wp_region_held_drew (S := Cells4g ⟨g, m * 2, none⟩ (.slice (some ⟨pa1, qa1, none⟩) 9 ca) ⟨g, m * 2 + 1, none⟩ (.slice (some ⟨pa2, qa2, none⟩) 3 da) ⟨g, l * 2, none⟩ (.slice (some ⟨pb1, qb1, none⟩) 9 cb) ⟨g, l * 2 + 1, none⟩ (.slice (some ⟨pb2, qb2, none⟩) 3 db)) (by kernel_rfl) (by rw [hu0]; exact ⟨ea1, ea2, eb1, eb2⟩) (fun hHeld => ?_)
              rw [hu0] at hHeld ⊢
              clear hu0
              change wpAnyH _ _ _ _ _ 12 #[false, false, false, false, false, false, false, false, false, false, false, false] _ _
              refine wpAnyH_take (i := 0) (v := .slice (some ⟨g, 0, none⟩) n c) rfl (by kernel_rfl) (by kernel_rfl) (by kernel_rfl) (fun _ _ _ h => h) (Or.inl ⟨by kernel_rfl, ?_⟩) hHeld ?_
              · intro w' hSw; go_simp
              try simp only [Act.put, List.setIfInBounds_toArray, List.set_cons_zero]
              refine wpAnyH_take (i := 1) (v := .slice (some ⟨g, 0, none⟩) n c) rfl (by kernel_rfl) (by kernel_rfl) (by kernel_rfl) (fun _ _ _ h => h) (Or.inl ⟨by kernel_rfl, ?_⟩) hHeld ?_
              · intro w' hSw; go_simp
              try simp only [Act.put, List.setIfInBounds_toArray, List.set_cons_zero, List.set_cons_succ]
              refine wpAnyH_take (i := 2) (v := .int .i64 (m : Int)) rfl (by kernel_rfl) (by kernel_rfl) (by kernel_rfl) (fun _ _ _ h => h) (Or.inl ⟨by kernel_rfl, ?_⟩) hHeld ?_
              · intro w' hSw; go_simp
              try simp only [Act.put, List.setIfInBounds_toArray, List.set_cons_zero, List.set_cons_succ]
              refine wpAnyH_take (i := 3) (v := .pointer (some ⟨g, m * 2, none⟩)) rfl (by kernel_rfl) (by kernel_rfl) (by kernel_rfl) (fun _ _ _ h => h) (Or.inl ⟨by kernel_rfl, ?_⟩) hHeld ?_
              · intro w' hSw; go_simp
              try simp only [Act.put, List.setIfInBounds_toArray, List.set_cons_zero, List.set_cons_succ]
              refine wpAnyH_take (i := 4) (v := .agg #[.slice (some ⟨pa1, qa1, none⟩) 9 ca, .slice (some ⟨pa2, qa2, none⟩) 3 da]) rfl (by kernel_rfl) (by kernel_rfl) (by kernel_rfl) (fun _ _ _ h => h) (Or.inl ⟨by kernel_rfl, ?_⟩) hHeld ?_
              · intro w' hSw; obtain ⟨z0, z1, -, -⟩ := hSw; go_simp
              try simp only [Act.put, List.setIfInBounds_toArray, List.set_cons_zero, List.set_cons_succ]
              refine wpAnyH_take (i := 5) (v := .slice (some ⟨g, 0, none⟩) n c) rfl (by kernel_rfl) (by kernel_rfl) (by kernel_rfl) (fun _ _ _ h => h) (Or.inl ⟨by kernel_rfl, ?_⟩) hHeld ?_
              · intro w' hSw; go_simp
              try simp only [Act.put, List.setIfInBounds_toArray, List.set_cons_zero, List.set_cons_succ]
              refine wpAnyH_take (i := 6) (v := .int .i64 (l : Int)) rfl (by kernel_rfl) (by kernel_rfl) (by kernel_rfl) (fun _ _ _ h => h) (Or.inl ⟨by kernel_rfl, ?_⟩) hHeld ?_
              · intro w' hSw; go_simp
              try simp only [Act.put, List.setIfInBounds_toArray, List.set_cons_zero, List.set_cons_succ]
              refine wpAnyH_take (i := 7) (v := .pointer (some ⟨g, l * 2, none⟩)) rfl (by kernel_rfl) (by kernel_rfl) (by kernel_rfl) (fun _ _ _ h => h) (Or.inl ⟨by kernel_rfl, ?_⟩) hHeld ?_
              · intro w' hSw; go_simp
              try simp only [Act.put, List.setIfInBounds_toArray, List.set_cons_zero, List.set_cons_succ]
              refine wpAnyH_take (i := 8) (v := .agg #[.slice (some ⟨pb1, qb1, none⟩) 9 cb, .slice (some ⟨pb2, qb2, none⟩) 3 db]) rfl (by kernel_rfl) (by kernel_rfl) (by kernel_rfl) (fun _ _ _ h => h) (Or.inl ⟨by kernel_rfl, ?_⟩) hHeld ?_
              · intro w' hSw; obtain ⟨-, -, z0, z1⟩ := hSw; go_simp
              try simp only [Act.put, List.setIfInBounds_toArray, List.set_cons_zero, List.set_cons_succ]
              refine wpAnyH_ready (rs := [9]) (by kernel_rfl) (by simp) ?_
              refine AllReadyH.cons rfl (fun KK hK' => ?_) AllReadyH.nil
              go_simp
              obtain ⟨la1, ia1⟩ := src_some sa1 (by omega)
              obtain ⟨la2, ia2⟩ := src_some sa2 (by omega)
              obtain ⟨lb1, ib1⟩ := src_some sb1 (by omega)
              obtain ⟨lb2, ib2⟩ := src_some sb2 (by omega)
              refine (l3Mul_own ca da cb db ia1 ia2 ib1 ib2 la1 la2 lb1 lb2 Ra Rb).mono ?_
              rintro e u1 ⟨g9, g3, rfl, oq, bb⟩
              clear ia1 ia2 ib1 ib2 la1 la2 lb1 lb2
              replace ea1 := HL.cell bb ea1
              replace ea2 := HL.cell bb ea2
              replace eb1 := HL.cell bb eb1
              replace eb2 := HL.cell bb eb2
              replace sa1 := sa1.below bb
              replace sa2 := sa2.below bb
              replace sb1 := sb1.below bb
              replace sb2 := sb2.below bb
              replace HL := HL.below bb
              replace B := B.trans (bb.mono B.size)
              clear bb
              try go_wp2_with fail
              clear hHeld
              refine hK'.out _ _ (⟨ea1, ea2, eb1, eb2⟩) (fun hHeld => ?_)
              clear hK' KK
              try simp only [List.setIfInBounds_toArray, List.set_cons_zero, List.set_cons_succ]
              have os := oq.srcs
              refine wpAnyH_ready (rs := [10]) (by kernel_rfl) (by simp) ?_
              refine AllReadyH.cons rfl (fun KK hK' => ?_) AllReadyH.nil
              go_simp
              refine (l4At_any HL hA.out os.1 os.2 hn).mono ?_
              rintro e u2 ⟨v2, rfl, hv2, bb⟩
              replace ea1 := HL.cell bb ea1
              replace ea2 := HL.cell bb ea2
              replace eb1 := HL.cell bb eb1
              replace eb2 := HL.cell bb eb2
              replace sa1 := sa1.below bb
              replace sa2 := sa2.below bb
              replace sb1 := sb1.below bb
              replace sb2 := sb2.below bb
              replace HL := HL.below bb
              replace B := B.trans (bb.mono B.size)
              clear bb
              try go_wp2_with fail
              clear hHeld
              refine hK'.out _ _ (⟨ea1, ea2, eb1, eb2⟩) (fun hHeld => ?_)
              clear hK' KK
              try simp only [List.setIfInBounds_toArray, List.set_cons_zero, List.set_cons_succ]
              clear os oq
              refine wpAnyH_ready (rs := [11]) (by kernel_rfl) (by simp) ?_
              refine AllReadyH.cons rfl (fun KK hK' => ?_) AllReadyH.nil
              go_simp
              clear hHeld
              refine hK'.out _ _ (⟨ea1, ea2, eb1, eb2⟩) (fun hHeld => ?_)
              clear hK' KK
              try simp only [List.setIfInBounds_toArray, List.set_cons_zero, List.set_cons_succ]
              clear hHeld ea1 ea2 eb1 eb2 sa1 sa2 sb1 sb2
              refine wpAnyH_done (by kernel_rfl) ?_ _
              have hv3 : AtOk n A (mulK (A m) (A l)) v2 := hv2
              clear hv2
              by_cases hneg : v2 < 0
              · have HN : Hid (¬ isG n A) := by
                  intro hG
                  rcases hv3 with ⟨-, h2⟩ | ⟨i, rfl, -, -⟩
                  · obtain ⟨i, hi, he⟩ := hG.2.2.2.2 m l hlm hll
                    exact h2 hG.2.2.1 i hi he
                  · omega
                clear hv3 hls hms
                go_wp2
                go_ret
                exact ⟨tells_no HN.out, B⟩
              · have HO : Hid (∀ k', k' < l + 1 → ∃ j, j < n ∧ lexC 12 (A j).key (mulK (A m) (A k')) = 0) := fun k' hk' => by
                  by_cases e : k' = l
                  · rw [e]
                    rcases hv3 with ⟨rfl, -⟩ | ⟨i, rfl, h1, h2⟩
                    · omega
                    · exact ⟨i, h1, h2⟩
                  · exact hls.out k' (by omega)
                clear hv3 hls
                go_wp2
                exact ⟨⟨l + 1, by omega, by go_num, HO, HL, B⟩, by simp [intOf]; omega⟩
            · have hll' : ¬ (l : Int) < (n : Int) := by omega
              obtain rfl : l = n := by omega
              have HM : Hid (∀ i k', i < m + 1 → k' < l → ∃ j, j < l ∧ lexC 12 (A j).key (mulK (A i) (A k')) = 0) := fun i k' hi hk' => by
                by_cases e : i = m
                · rw [e]; exact hls.out k' hk'
                · exact hms.out i k' (by omega) hk'
              clear hms hls
              go_wp2
              exact ⟨⟨m + 1, by omega, by go_num, HM, HL, B⟩, by simp [intOf]; omega⟩
        · have hlm' : ¬ (m : Int) < (n : Int) := by omega
          obtain rfl : m = n := by omega
          have HG : Hid (isG m A) := ⟨h192, hA.out, hR.out, hone.out, fun i k' hi hk' => hms.out i k' hi hk'⟩
          clear hms hR hone hA
          go_wp2
          go_ret
          exact ⟨tells_yes HG.out, B⟩
end Go.Proofs.Ytmjeplhigjlopaa
