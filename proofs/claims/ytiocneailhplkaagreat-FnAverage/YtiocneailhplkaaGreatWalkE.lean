/-
  The program's adjugates, walked.
-/
import Derived.Test.YtiocneailhplkaaGreatMA
import Derived.Deep.CutRange
namespace Go.Proofs.YtiocneailhplkaaGreat
open Go.RowKit

/-- What the region reads. -/
abbrev matL (m : Nat → Int) : List Value := [.int .i64 (m 0), .int .i64 (m 1), .int .i64 (m 2), .int .i64 (m 3), .int .i64 (m 4), .int .i64 (m 5), .int .i64 (m 6), .int .i64 (m 7), .int .i64 (m 8)]
def S9m (V : World) (N : Nat) (m : Nat → Int) (w' : World) : Prop := w'.rangeAt N 0 (matL m) ∧ Below V.heap.size V w'
theorem s9m_mk {V : World} {N : Nat} {m : Nat → Int} (h : At 88 V N (matA m)) (w' : World) (hw : Below V.heap.size V w') : S9m V N m w' :=
  ⟨fun j v hv => by rw [Nat.zero_add]; exact (h.below hw).cell j (by simpa [matA] using hv), hw⟩
theorem size39 (m : Nat → Int) : (Tryz.prog.info? 88).map (·.size) = some (matL m).length := by
  have : (Tryz.prog.info? 88).map (·.size) = some 9 := by kernel_rfl
  exact this
theorem rem3 (j : Nat) (hj : j < 3) : (0 ≤ (IntKind.i64.wrap ((j : Int) + 1)).tmod 3 ∧ (IntKind.i64.wrap ((j : Int) + 1)).tmod 3 < 3) ∧ 0 ≤ (IntKind.i64.wrap ((j : Int) + 2)).tmod 3 ∧ (IntKind.i64.wrap ((j : Int) + 2)).tmod 3 < 3 := by
  rcases (by omega : j = 0 ∨ j = 1 ∨ j = 2) with rfl | rfl | rfl <;> decide
/-- Behind the region: two new blocks hold the two rows. -/
def Two (V : World) (a b : Array Value) (s t : Value) (wc : World) : Prop :=
  ∃ g h, s = .pointer (some ⟨g, 0, none⟩) ∧ t = .pointer (some ⟨h, 0, none⟩) ∧ (V.heap.size ≤ g ∧ V.heap.size ≤ h ∧ g ≠ h) ∧ At 66 wc g a ∧ At 66 wc h b ∧ Below V.heap.size V wc
/-- What has been made of the adjugate. -/
def part (m : Nat → Int) (k : Nat) : Nat → Int := fun i => if i < k then adj m i else 0
/-- A row by a number that is reckoned. -/
def rowf (m : Nat → Int) (x : Int) (k : Nat) : Int := m (3 * x.toNat + k)
theorem rowI_any (m : Nat → Int) (x : Int) (h0 : 0 ≤ x) (h3 : x < 3) (w : World) : Calls Tryz.prog 117 #[.agg (matA m), .int .i64 x] w fun e w' => e = .returned (.agg #[.int .i64 (rowf m x 0), .int .i64 (rowf m x 1), .int .i64 (rowf m x 2)]) ∧ Below w.heap.size w w' := by
  have := row_any m x.toNat (by omega) w
  rw [Int.toNat_of_nonneg h0] at this
  exact this
theorem bl_step {V X w3 : World} (hX : Below V.heap.size V X) (h : Below X.heap.size X w3) : Below V.heap.size V w3 := hX.trans (h.mono hX.size)
theorem put3e_at {t : TypeId} {W : World} {q : Nat} {x0 x1 x2 : Value} (h : At t W q #[x0, x1, x2]) (x y z : Value) : At t (((W.setCell ⟨q, 0, none⟩ x).setCell ⟨q, 1, none⟩ y).setCell ⟨q, 2, none⟩ z) q #[x, y, z] := by
  simpa using ((h.set 0 x).set 1 y).set 2 z
theorem put3e_below {n q : Nat} {w W : World} (h : Below n w W) (hq : n ≤ q) (x y z : Value) : Below n w (((W.setCell ⟨q, 0, none⟩ x).setCell ⟨q, 1, none⟩ y).setCell ⟨q, 2, none⟩ z) := ((h.setCell hq _).setCell hq _).setCell hq _

theorem matA_get (f : Nat → Int) (k : Nat) (hk : k < 9) : (matA f)[k]? = some (.int .i64 (f k)) := by
  rcases (by omega : k = 0 ∨ k = 1 ∨ k = 2 ∨ k = 3 ∨ k = 4 ∨ k = 5 ∨ k = 6 ∨ k = 7 ∨ k = 8) with rfl | rfl | rfl | rfl | rfl | rfl | rfl | rfl | rfl <;> rfl
theorem set_part (m : Nat → Int) (k : Nat) (hk : k < 9) : (matA (part m k)).setIfInBounds k (.int .i64 (adj m k)) = matA (part m (k + 1)) := by
  rcases (by omega : k = 0 ∨ k = 1 ∨ k = 2 ∨ k = 3 ∨ k = 4 ∨ k = 5 ∨ k = 6 ∨ k = 7 ∨ k = 8) with rfl | rfl | rfl | rfl | rfl | rfl | rfl | rfl | rfl <;> simp [matA, part]
theorem part9 (m : Nat → Int) : matA (part m 9) = matA (adj m) := by simp [matA, part]
theorem row_get (x y z : Int) (f : Nat → Int) (h0 : f 0 = x) (h1 : f 1 = y) (h2 : f 2 = z) (k : Nat) (hk : k < 3) : #[Value.int .i64 x, .int .i64 y, .int .i64 z][k]? = some (.int .i64 (f k)) := by
  subst h0 h1 h2
  rcases (by omega : k = 0 ∨ k = 1 ∨ k = 2) with rfl | rfl | rfl <;> rfl
theorem rowf_bound {m : Nat → Int} (hm : ∀ i, i < 9 → -1000 ≤ m i ∧ m i ≤ 1000) {x : Int} (h0 : 0 ≤ x) (h3 : x < 3) {k : Nat} (hk : k < 3) : -1000 ≤ rowf m x k ∧ rowf m x k ≤ 1000 := hm _ (by omega)
theorem adj_cell (m : Nat → Int) (i j : Nat) (hi : i < 3) (hj : j < 3) :
    rowf m ((IntKind.i64.wrap ((j : Int) + 1)).tmod 3) ((i + 1) % 3) * rowf m ((IntKind.i64.wrap ((j : Int) + 2)).tmod 3) ((i + 2) % 3) - rowf m ((IntKind.i64.wrap ((j : Int) + 1)).tmod 3) ((i + 2) % 3) * rowf m ((IntKind.i64.wrap ((j : Int) + 2)).tmod 3) ((i + 1) % 3) = adj m (3 * i + j) := by
  rcases (by omega : i = 0 ∨ i = 1 ∨ i = 2) with rfl | rfl | rfl <;> rcases (by omega : j = 0 ∨ j = 1 ∨ j = 2) with rfl | rfl | rfl
  · show m 4 * m 8 - m 5 * m 7 = m 4 * m 8 - m 5 * m 7; rfl
  · show m 7 * m 2 - m 8 * m 1 = m 2 * m 7 - m 1 * m 8; grind
  · show m 1 * m 5 - m 2 * m 4 = m 1 * m 5 - m 2 * m 4; rfl
  · show m 5 * m 6 - m 3 * m 8 = m 5 * m 6 - m 3 * m 8; rfl
  · show m 8 * m 0 - m 6 * m 2 = m 0 * m 8 - m 2 * m 6; grind
  · show m 2 * m 3 - m 0 * m 5 = m 2 * m 3 - m 0 * m 5; rfl
  · show m 3 * m 7 - m 4 * m 6 = m 3 * m 7 - m 4 * m 6; rfl
  · show m 6 * m 1 - m 7 * m 0 = m 1 * m 6 - m 0 * m 7; grind
  · show m 0 * m 4 - m 1 * m 3 = m 0 * m 4 - m 1 * m 3; rfl
set_option maxRecDepth 100000 in
set_option maxHeartbeats 8000000 in
theorem adj_any {m : Nat → Int} (hm : ∀ i, i < 9 → -1000 ≤ m i ∧ m i ≤ 1000) (w : World) :
    Calls Tryz.prog 111 #[.agg (matA m)] w fun e w' => e = .returned (.agg (matA (adj m))) ∧ Below w.heap.size w w' := by
  obtain ⟨W1, hW1, a1, bW1, z1⟩ := boxed w 88 (matA m)
  obtain ⟨W2, hW2, a2, bW2, z2⟩ := boxed W1 88 (matA fun _ => 0)
  obtain ⟨W3, hW3, a3, bW3, z3⟩ := boxed W2 88 (matA fun _ => 0)
  rw [z1] at a2 bW2 z2
  rw [z2] at a3 bW3 z3
  replace a1 := (a1.belowN bW2 (by omega)).belowN bW3 (by omega)
  replace a2 := a2.belowN bW3 (by omega)
  have bW : Below w.heap.size w W3 := (bW1.trans (bW2.mono (by omega))).trans (bW3.mono (by omega))
  clear bW1 bW2 bW3
  unfold matA at hW1 hW2 hW3 ⊢
  go_enter Tryz.func111, Tryz.ntmps111
  go_wp2
  clear hW1 hW2 hW3
  go_loopw [10] (fun s wr => ∃ i : Nat, i ≤ 3 ∧ s = .int .i64 i ∧ At 88 wr w.heap.size (matA m) ∧ At 88 wr (w.heap.size + 1) (matA fun _ => 0) ∧ At 88 wr (w.heap.size + 1 + 1) (matA (part m (3 * i))) ∧ Below w.heap.size w wr) (fun s _ => 3 - (intOf s).toNat)
  case atStart => exact ⟨0, Nat.zero_le _, rfl, a1, a2, a3, bW⟩
  case round =>
    clear a1 a2 a3 bW z1 z2 z3
    obtain ⟨i, hi, rfl, a1, a2, a3, bW⟩ := hrel
    by_cases hlt : i < 3
    · have hlt' : (i : Int) < 3 := by omega
      go_wp2
      go_loopw [13] (fun s wr => ∃ j : Nat, j ≤ 3 ∧ s = .int .i64 j ∧ At 88 wr w.heap.size (matA m) ∧ At 88 wr (w.heap.size + 1) (matA fun _ => 0) ∧ At 88 wr (w.heap.size + 1 + 1) (matA (part m (3 * i + j))) ∧ Below w.heap.size w wr) (fun s _ => 3 - (intOf s).toNat)
      case atStart => exact ⟨0, Nat.zero_le _, rfl, a1, a2, a3, bW⟩
      case round =>
        clear a1 a2 a3 bW
        obtain ⟨j, hj, rfl, a1, a2, a3, bW⟩ := hrel
        by_cases hlj : j < 3
        · have hlj' : (j : Int) < 3 := by omega
          go_wp2
          have mk : Hid (∀ w', Below wr.heap.size wr w' → S9m wr w.heap.size m w') := s9m_mk a1
          have hlt1 := a1.lt
          go_cut [6, 7] from 16 to 25 (fun s6 s7 wc => Two wr #[.int .i64 (rowf m ((IntKind.i64.wrap ((j : Int) + 1)).tmod 3) 0), .int .i64 (rowf m ((IntKind.i64.wrap ((j : Int) + 1)).tmod 3) 1), .int .i64 (rowf m ((IntKind.i64.wrap ((j : Int) + 1)).tmod 3) 2)] #[.int .i64 (rowf m ((IntKind.i64.wrap ((j : Int) + 2)).tmod 3) 0), .int .i64 (rowf m ((IntKind.i64.wrap ((j : Int) + 2)).tmod 3) 1), .int .i64 (rowf m ((IntKind.i64.wrap ((j : Int) + 2)).tmod 3) 2)] s6 s7 wc)
          case first =>
            clear a1 a2 a3 bW
            have hr3 := rem3 j hlj
            have hB : Below wr.heap.size wr wr.drew := (Below.refl _ _).drew
            refine wp_region_held_drew (S := S9m wr w.heap.size m) (by kernel_rfl) (mk.out _ hB) (fun hHeld => ?_)
            obtain ⟨w0, hw0⟩ : ∃ w0, wr.drew = w0 := ⟨_, rfl⟩
            rw [hw0] at hB hHeld ⊢
            clear hw0
            refine wpAnyH_take (i := 0) (v := .agg (matL m).toArray) rfl (by kernel_rfl) (by kernel_rfl) (by kernel_rfl) (fun _ _ _ h => h) (yieldsIf_load_mid (by rfl) _ _ rfl _ _ rfl (matL m) _ (fun w' h => h.1) Tryz.underlying88 rfl (size39 m)) hHeld ?_
            try simp only [Act.put]
            refine wpAnyH_take (i := 1) (v := .int .i64 (j : Int)) rfl (by kernel_rfl) (by kernel_rfl) (by kernel_rfl) (fun _ _ _ h => h) (Or.inl ⟨by rfl, ?_⟩) hHeld ?_
            · intro w' hSw; go_simp
            try simp only [Act.put]
            refine wpAnyH_take (i := 2) (v := .int .i64 (IntKind.i64.wrap ((j : Int) + 1))) rfl (by kernel_rfl) (by kernel_rfl) (by kernel_rfl) (fun _ _ _ h => h) (Or.inl ⟨by rfl, ?_⟩) hHeld ?_
            · intro w' hSw; go_simp
            try simp only [Act.put]
            refine wpAnyH_take (i := 3) (v := .int .i64 ((IntKind.i64.wrap ((j : Int) + 1)).tmod 3)) rfl (by kernel_rfl) (by kernel_rfl) (by kernel_rfl) (fun _ _ _ h => h) (Or.inl ⟨by rfl, ?_⟩) hHeld ?_
            · intro w' hSw; go_simp
            try simp only [Act.put]
            refine wpAnyH_take (i := 5) (v := .agg (matL m).toArray) rfl (by kernel_rfl) (by kernel_rfl) (by kernel_rfl) (fun _ _ _ h => h) (yieldsIf_load_mid (by rfl) _ _ rfl _ _ rfl (matL m) _ (fun w' h => h.1) Tryz.underlying88 rfl (size39 m)) hHeld ?_
            try simp only [Act.put]
            refine wpAnyH_take (i := 6) (v := .int .i64 (j : Int)) rfl (by kernel_rfl) (by kernel_rfl) (by kernel_rfl) (fun _ _ _ h => h) (Or.inl ⟨by rfl, ?_⟩) hHeld ?_
            · intro w' hSw; go_simp
            try simp only [Act.put]
            refine wpAnyH_take (i := 7) (v := .int .i64 (IntKind.i64.wrap ((j : Int) + 2))) rfl (by kernel_rfl) (by kernel_rfl) (by kernel_rfl) (fun _ _ _ h => h) (Or.inl ⟨by rfl, ?_⟩) hHeld ?_
            · intro w' hSw; go_simp
            try simp only [Act.put]
            refine wpAnyH_take (i := 8) (v := .int .i64 ((IntKind.i64.wrap ((j : Int) + 2)).tmod 3)) rfl (by kernel_rfl) (by kernel_rfl) (by kernel_rfl) (fun _ _ _ h => h) (Or.inl ⟨by rfl, ?_⟩) hHeld ?_
            · intro w' hSw; go_simp
            try simp only [Act.put]
            refine wpAnyH_ready (rs := [4, 10, 11]) (by kernel_rfl) (by simp) ?_
            refine AllReadyH.cons rfl (fun K hK => ?_) ?_
            · go_simp
              refine (rowI_any _ _ hr3.1.1 hr3.1.2 _).mono ?_
              rintro e w4 ⟨rfl, b4⟩
              try go_wp2_with fail
              replace hB := bl_step hB b4
              clear hHeld
              refine hK.out _ _ (mk.out _ hB) (fun hHeld => ?_)
              clear hK K
              try simp only [Act.put, List.setIfInBounds_toArray, List.set_cons_zero, List.set_cons_succ]
              refine wpAnyH_ready (rs := [9, 10, 11]) (by kernel_rfl) (by simp) ?_
              refine AllReadyH.cons rfl (fun K hK => ?_) ?_
              · go_simp
                refine (rowI_any _ _ hr3.2.1 hr3.2.2 _).mono ?_
                rintro e w9 ⟨rfl, b9⟩
                try go_wp2_with fail
                replace hB := bl_step hB b9
                clear hHeld
                refine hK.out _ _ (mk.out _ hB) (fun hHeld => ?_)
                clear hK K
                try simp only [Act.put, List.setIfInBounds_toArray, List.set_cons_zero, List.set_cons_succ]
                refine wpAnyH_ready (rs := [10, 11]) (by kernel_rfl) (by simp) ?_
                refine AllReadyH.cons rfl (fun K hK => ?_) ?_
                · go_simp
                  obtain ⟨w10, h10, B10, b10, -⟩ := boxed w9 66 #[.int .i64 0, .int .i64 0, .int .i64 0]
                  rw [h10]
                  obtain ⟨g10, hg10⟩ : ∃ g, w9.heap.size = g := ⟨_, rfl⟩
                  rw [hg10] at B10
                  have s10 : wr.heap.size ≤ g10 := hg10 ▸ hB.size
                  try rw [hg10]
                  replace hB := bl_step hB b10
                  clear hHeld
                  refine hK.out _ _ (mk.out _ hB) (fun hHeld => ?_)
                  clear hK K
                  try simp only [Act.put, List.setIfInBounds_toArray, List.set_cons_zero, List.set_cons_succ]
                  refine wpAnyH_ready (rs := [11]) (by kernel_rfl) (by simp) ?_
                  refine AllReadyH.cons rfl (fun K hK => ?_) ?_
                  · go_simp
                    obtain ⟨w11, h11, B11, b11, -⟩ := boxed w10 66 #[.int .i64 0, .int .i64 0, .int .i64 0]
                    rw [h11]
                    have n10_11 : g10 ≠ w10.heap.size := Nat.ne_of_lt B10.lt
                    obtain ⟨g11, hg11⟩ : ∃ g, w10.heap.size = g := ⟨_, rfl⟩
                    rw [hg11] at B11 n10_11
                    have s11 : wr.heap.size ≤ g11 := hg11 ▸ hB.size
                    try rw [hg11]
                    replace hB := bl_step hB b11
                    replace B10 := B10.below b11
                    clear hHeld
                    refine hK.out _ _ (mk.out _ hB) (fun hHeld => ?_)
                    clear hK K
                    try simp only [Act.put, List.setIfInBounds_toArray, List.set_cons_zero, List.set_cons_succ]
                    have hne : g10 ≠ g11 := n10_11
                    refine wpAnyH_ready (rs := [12]) (by kernel_rfl) (by simp) ?_
                    refine AllReadyH.cons rfl (fun K hK => ?_) AllReadyH.nil
                    obtain ⟨x0, x1, x2, y0, y1, y2⟩ := B10.open3
                    go_simp
                    clear x0 x1 x2 y0 y1 y2 hHeld
                    obtain ⟨X1, hX1⟩ : ∃ X1, ((w11.setCell ⟨g10, 0, none⟩ (.int .i64 (rowf m ((IntKind.i64.wrap ((j : Int) + 1)).tmod 3) 0))).setCell ⟨g10, 1, none⟩ (.int .i64 (rowf m ((IntKind.i64.wrap ((j : Int) + 1)).tmod 3) 1))).setCell ⟨g10, 2, none⟩ (.int .i64 (rowf m ((IntKind.i64.wrap ((j : Int) + 1)).tmod 3) 2)) = X1 := ⟨_, rfl⟩
                    have C10 : At 66 X1 g10 #[.int .i64 (rowf m ((IntKind.i64.wrap ((j : Int) + 1)).tmod 3) 0), .int .i64 (rowf m ((IntKind.i64.wrap ((j : Int) + 1)).tmod 3) 1), .int .i64 (rowf m ((IntKind.i64.wrap ((j : Int) + 1)).tmod 3) 2)] := hX1 ▸ put3e_at B10 _ _ _
                    have C11 : At 66 X1 g11 #[.int .i64 0, .int .i64 0, .int .i64 0] := hX1 ▸ ((B11.setOther (Ne.symm hne) _).setOther (Ne.symm hne) _).setOther (Ne.symm hne) _
                    have hB1 : Below wr.heap.size wr X1 := hX1 ▸ put3e_below hB s10 _ _ _
                    rw [hX1]
                    refine hK.out _ _ (mk.out _ hB1) (fun hHeld => ?_)
                    clear hK K B10 B11 hB hX1
                    try simp only [Act.put, List.setIfInBounds_toArray, List.set_cons_zero, List.set_cons_succ]
                    refine wpAnyH_ready (rs := [13]) (by kernel_rfl) (by simp) ?_
                    refine AllReadyH.cons rfl (fun K hK => ?_) AllReadyH.nil
                    obtain ⟨x0, x1, x2, y0, y1, y2⟩ := C11.open3
                    go_simp
                    clear x0 x1 x2 y0 y1 y2 hHeld
                    obtain ⟨X2, hX2⟩ : ∃ X2, ((X1.setCell ⟨g11, 0, none⟩ (.int .i64 (rowf m ((IntKind.i64.wrap ((j : Int) + 2)).tmod 3) 0))).setCell ⟨g11, 1, none⟩ (.int .i64 (rowf m ((IntKind.i64.wrap ((j : Int) + 2)).tmod 3) 1))).setCell ⟨g11, 2, none⟩ (.int .i64 (rowf m ((IntKind.i64.wrap ((j : Int) + 2)).tmod 3) 2)) = X2 := ⟨_, rfl⟩
                    have D11 : At 66 X2 g11 #[.int .i64 (rowf m ((IntKind.i64.wrap ((j : Int) + 2)).tmod 3) 0), .int .i64 (rowf m ((IntKind.i64.wrap ((j : Int) + 2)).tmod 3) 1), .int .i64 (rowf m ((IntKind.i64.wrap ((j : Int) + 2)).tmod 3) 2)] := hX2 ▸ put3e_at C11 _ _ _
                    have D10 : At 66 X2 g10 #[.int .i64 (rowf m ((IntKind.i64.wrap ((j : Int) + 1)).tmod 3) 0), .int .i64 (rowf m ((IntKind.i64.wrap ((j : Int) + 1)).tmod 3) 1), .int .i64 (rowf m ((IntKind.i64.wrap ((j : Int) + 1)).tmod 3) 2)] := hX2 ▸ ((C10.setOther hne _).setOther hne _).setOther hne _
                    have hB2 : Below wr.heap.size wr X2 := hX2 ▸ put3e_below hB1 s11 _ _ _
                    rw [hX2]
                    refine hK.out _ _ (mk.out _ hB2) (fun hHeld => ?_)
                    clear hK K C10 C11 hB1 hX2 hHeld
                    try simp only [Act.put, List.setIfInBounds_toArray, List.set_cons_zero, List.set_cons_succ]
                    refine wpAnyH_done (by kernel_rfl) ?_ _
                    go_wp2_with fail
                    go_meet
                    case rel => exact ⟨g10, g11, rfl, rfl, ⟨s10, s11, hne⟩, D10, D11, hB2⟩
                  exact AllReadyH.nil
                refine AllReadyH.cons rfl (fun K hK => ?_) ?_
                · go_simp
                  obtain ⟨w11, h11, B11, b11, -⟩ := boxed w9 66 #[.int .i64 0, .int .i64 0, .int .i64 0]
                  rw [h11]
                  obtain ⟨g11, hg11⟩ : ∃ g, w9.heap.size = g := ⟨_, rfl⟩
                  rw [hg11] at B11
                  have s11 : wr.heap.size ≤ g11 := hg11 ▸ hB.size
                  try rw [hg11]
                  replace hB := bl_step hB b11
                  clear hHeld
                  refine hK.out _ _ (mk.out _ hB) (fun hHeld => ?_)
                  clear hK K
                  try simp only [Act.put, List.setIfInBounds_toArray, List.set_cons_zero, List.set_cons_succ]
                  refine wpAnyH_ready (rs := [10]) (by kernel_rfl) (by simp) ?_
                  refine AllReadyH.cons rfl (fun K hK => ?_) ?_
                  · go_simp
                    obtain ⟨w10, h10, B10, b10, -⟩ := boxed w11 66 #[.int .i64 0, .int .i64 0, .int .i64 0]
                    rw [h10]
                    have n11_10 : g11 ≠ w11.heap.size := Nat.ne_of_lt B11.lt
                    obtain ⟨g10, hg10⟩ : ∃ g, w11.heap.size = g := ⟨_, rfl⟩
                    rw [hg10] at B10 n11_10
                    have s10 : wr.heap.size ≤ g10 := hg10 ▸ hB.size
                    try rw [hg10]
                    replace hB := bl_step hB b10
                    replace B11 := B11.below b10
                    clear hHeld
                    refine hK.out _ _ (mk.out _ hB) (fun hHeld => ?_)
                    clear hK K
                    try simp only [Act.put, List.setIfInBounds_toArray, List.set_cons_zero, List.set_cons_succ]
                    have hne : g10 ≠ g11 := (Ne.symm n11_10)
                    refine wpAnyH_ready (rs := [12]) (by kernel_rfl) (by simp) ?_
                    refine AllReadyH.cons rfl (fun K hK => ?_) AllReadyH.nil
                    obtain ⟨x0, x1, x2, y0, y1, y2⟩ := B10.open3
                    go_simp
                    clear x0 x1 x2 y0 y1 y2 hHeld
                    obtain ⟨X1, hX1⟩ : ∃ X1, ((w10.setCell ⟨g10, 0, none⟩ (.int .i64 (rowf m ((IntKind.i64.wrap ((j : Int) + 1)).tmod 3) 0))).setCell ⟨g10, 1, none⟩ (.int .i64 (rowf m ((IntKind.i64.wrap ((j : Int) + 1)).tmod 3) 1))).setCell ⟨g10, 2, none⟩ (.int .i64 (rowf m ((IntKind.i64.wrap ((j : Int) + 1)).tmod 3) 2)) = X1 := ⟨_, rfl⟩
                    have C10 : At 66 X1 g10 #[.int .i64 (rowf m ((IntKind.i64.wrap ((j : Int) + 1)).tmod 3) 0), .int .i64 (rowf m ((IntKind.i64.wrap ((j : Int) + 1)).tmod 3) 1), .int .i64 (rowf m ((IntKind.i64.wrap ((j : Int) + 1)).tmod 3) 2)] := hX1 ▸ put3e_at B10 _ _ _
                    have C11 : At 66 X1 g11 #[.int .i64 0, .int .i64 0, .int .i64 0] := hX1 ▸ ((B11.setOther (Ne.symm hne) _).setOther (Ne.symm hne) _).setOther (Ne.symm hne) _
                    have hB1 : Below wr.heap.size wr X1 := hX1 ▸ put3e_below hB s10 _ _ _
                    rw [hX1]
                    refine hK.out _ _ (mk.out _ hB1) (fun hHeld => ?_)
                    clear hK K B10 B11 hB hX1
                    try simp only [Act.put, List.setIfInBounds_toArray, List.set_cons_zero, List.set_cons_succ]
                    refine wpAnyH_ready (rs := [13]) (by kernel_rfl) (by simp) ?_
                    refine AllReadyH.cons rfl (fun K hK => ?_) AllReadyH.nil
                    obtain ⟨x0, x1, x2, y0, y1, y2⟩ := C11.open3
                    go_simp
                    clear x0 x1 x2 y0 y1 y2 hHeld
                    obtain ⟨X2, hX2⟩ : ∃ X2, ((X1.setCell ⟨g11, 0, none⟩ (.int .i64 (rowf m ((IntKind.i64.wrap ((j : Int) + 2)).tmod 3) 0))).setCell ⟨g11, 1, none⟩ (.int .i64 (rowf m ((IntKind.i64.wrap ((j : Int) + 2)).tmod 3) 1))).setCell ⟨g11, 2, none⟩ (.int .i64 (rowf m ((IntKind.i64.wrap ((j : Int) + 2)).tmod 3) 2)) = X2 := ⟨_, rfl⟩
                    have D11 : At 66 X2 g11 #[.int .i64 (rowf m ((IntKind.i64.wrap ((j : Int) + 2)).tmod 3) 0), .int .i64 (rowf m ((IntKind.i64.wrap ((j : Int) + 2)).tmod 3) 1), .int .i64 (rowf m ((IntKind.i64.wrap ((j : Int) + 2)).tmod 3) 2)] := hX2 ▸ put3e_at C11 _ _ _
                    have D10 : At 66 X2 g10 #[.int .i64 (rowf m ((IntKind.i64.wrap ((j : Int) + 1)).tmod 3) 0), .int .i64 (rowf m ((IntKind.i64.wrap ((j : Int) + 1)).tmod 3) 1), .int .i64 (rowf m ((IntKind.i64.wrap ((j : Int) + 1)).tmod 3) 2)] := hX2 ▸ ((C10.setOther hne _).setOther hne _).setOther hne _
                    have hB2 : Below wr.heap.size wr X2 := hX2 ▸ put3e_below hB1 s11 _ _ _
                    rw [hX2]
                    refine hK.out _ _ (mk.out _ hB2) (fun hHeld => ?_)
                    clear hK K C10 C11 hB1 hX2 hHeld
                    try simp only [Act.put, List.setIfInBounds_toArray, List.set_cons_zero, List.set_cons_succ]
                    refine wpAnyH_done (by kernel_rfl) ?_ _
                    go_wp2_with fail
                    go_meet
                    case rel => exact ⟨g10, g11, rfl, rfl, ⟨s10, s11, hne⟩, D10, D11, hB2⟩
                  exact AllReadyH.nil
                exact AllReadyH.nil
              refine AllReadyH.cons rfl (fun K hK => ?_) ?_
              · go_simp
                obtain ⟨w10, h10, B10, b10, -⟩ := boxed w4 66 #[.int .i64 0, .int .i64 0, .int .i64 0]
                rw [h10]
                obtain ⟨g10, hg10⟩ : ∃ g, w4.heap.size = g := ⟨_, rfl⟩
                rw [hg10] at B10
                have s10 : wr.heap.size ≤ g10 := hg10 ▸ hB.size
                try rw [hg10]
                replace hB := bl_step hB b10
                clear hHeld
                refine hK.out _ _ (mk.out _ hB) (fun hHeld => ?_)
                clear hK K
                try simp only [Act.put, List.setIfInBounds_toArray, List.set_cons_zero, List.set_cons_succ]
                refine wpAnyH_ready (rs := [9, 11]) (by kernel_rfl) (by simp) ?_
                refine AllReadyH.cons rfl (fun K hK => ?_) ?_
                · go_simp
                  refine (rowI_any _ _ hr3.2.1 hr3.2.2 _).mono ?_
                  rintro e w9 ⟨rfl, b9⟩
                  try go_wp2_with fail
                  replace hB := bl_step hB b9
                  replace B10 := B10.below b9
                  clear hHeld
                  refine hK.out _ _ (mk.out _ hB) (fun hHeld => ?_)
                  clear hK K
                  try simp only [Act.put, List.setIfInBounds_toArray, List.set_cons_zero, List.set_cons_succ]
                  refine wpAnyH_ready (rs := [11]) (by kernel_rfl) (by simp) ?_
                  refine AllReadyH.cons rfl (fun K hK => ?_) ?_
                  · go_simp
                    obtain ⟨w11, h11, B11, b11, -⟩ := boxed w9 66 #[.int .i64 0, .int .i64 0, .int .i64 0]
                    rw [h11]
                    have n10_11 : g10 ≠ w9.heap.size := Nat.ne_of_lt B10.lt
                    obtain ⟨g11, hg11⟩ : ∃ g, w9.heap.size = g := ⟨_, rfl⟩
                    rw [hg11] at B11 n10_11
                    have s11 : wr.heap.size ≤ g11 := hg11 ▸ hB.size
                    try rw [hg11]
                    replace hB := bl_step hB b11
                    replace B10 := B10.below b11
                    clear hHeld
                    refine hK.out _ _ (mk.out _ hB) (fun hHeld => ?_)
                    clear hK K
                    try simp only [Act.put, List.setIfInBounds_toArray, List.set_cons_zero, List.set_cons_succ]
                    have hne : g10 ≠ g11 := n10_11
                    refine wpAnyH_ready (rs := [12]) (by kernel_rfl) (by simp) ?_
                    refine AllReadyH.cons rfl (fun K hK => ?_) AllReadyH.nil
                    obtain ⟨x0, x1, x2, y0, y1, y2⟩ := B10.open3
                    go_simp
                    clear x0 x1 x2 y0 y1 y2 hHeld
                    obtain ⟨X1, hX1⟩ : ∃ X1, ((w11.setCell ⟨g10, 0, none⟩ (.int .i64 (rowf m ((IntKind.i64.wrap ((j : Int) + 1)).tmod 3) 0))).setCell ⟨g10, 1, none⟩ (.int .i64 (rowf m ((IntKind.i64.wrap ((j : Int) + 1)).tmod 3) 1))).setCell ⟨g10, 2, none⟩ (.int .i64 (rowf m ((IntKind.i64.wrap ((j : Int) + 1)).tmod 3) 2)) = X1 := ⟨_, rfl⟩
                    have C10 : At 66 X1 g10 #[.int .i64 (rowf m ((IntKind.i64.wrap ((j : Int) + 1)).tmod 3) 0), .int .i64 (rowf m ((IntKind.i64.wrap ((j : Int) + 1)).tmod 3) 1), .int .i64 (rowf m ((IntKind.i64.wrap ((j : Int) + 1)).tmod 3) 2)] := hX1 ▸ put3e_at B10 _ _ _
                    have C11 : At 66 X1 g11 #[.int .i64 0, .int .i64 0, .int .i64 0] := hX1 ▸ ((B11.setOther (Ne.symm hne) _).setOther (Ne.symm hne) _).setOther (Ne.symm hne) _
                    have hB1 : Below wr.heap.size wr X1 := hX1 ▸ put3e_below hB s10 _ _ _
                    rw [hX1]
                    refine hK.out _ _ (mk.out _ hB1) (fun hHeld => ?_)
                    clear hK K B10 B11 hB hX1
                    try simp only [Act.put, List.setIfInBounds_toArray, List.set_cons_zero, List.set_cons_succ]
                    refine wpAnyH_ready (rs := [13]) (by kernel_rfl) (by simp) ?_
                    refine AllReadyH.cons rfl (fun K hK => ?_) AllReadyH.nil
                    obtain ⟨x0, x1, x2, y0, y1, y2⟩ := C11.open3
                    go_simp
                    clear x0 x1 x2 y0 y1 y2 hHeld
                    obtain ⟨X2, hX2⟩ : ∃ X2, ((X1.setCell ⟨g11, 0, none⟩ (.int .i64 (rowf m ((IntKind.i64.wrap ((j : Int) + 2)).tmod 3) 0))).setCell ⟨g11, 1, none⟩ (.int .i64 (rowf m ((IntKind.i64.wrap ((j : Int) + 2)).tmod 3) 1))).setCell ⟨g11, 2, none⟩ (.int .i64 (rowf m ((IntKind.i64.wrap ((j : Int) + 2)).tmod 3) 2)) = X2 := ⟨_, rfl⟩
                    have D11 : At 66 X2 g11 #[.int .i64 (rowf m ((IntKind.i64.wrap ((j : Int) + 2)).tmod 3) 0), .int .i64 (rowf m ((IntKind.i64.wrap ((j : Int) + 2)).tmod 3) 1), .int .i64 (rowf m ((IntKind.i64.wrap ((j : Int) + 2)).tmod 3) 2)] := hX2 ▸ put3e_at C11 _ _ _
                    have D10 : At 66 X2 g10 #[.int .i64 (rowf m ((IntKind.i64.wrap ((j : Int) + 1)).tmod 3) 0), .int .i64 (rowf m ((IntKind.i64.wrap ((j : Int) + 1)).tmod 3) 1), .int .i64 (rowf m ((IntKind.i64.wrap ((j : Int) + 1)).tmod 3) 2)] := hX2 ▸ ((C10.setOther hne _).setOther hne _).setOther hne _
                    have hB2 : Below wr.heap.size wr X2 := hX2 ▸ put3e_below hB1 s11 _ _ _
                    rw [hX2]
                    refine hK.out _ _ (mk.out _ hB2) (fun hHeld => ?_)
                    clear hK K C10 C11 hB1 hX2 hHeld
                    try simp only [Act.put, List.setIfInBounds_toArray, List.set_cons_zero, List.set_cons_succ]
                    refine wpAnyH_done (by kernel_rfl) ?_ _
                    go_wp2_with fail
                    go_meet
                    case rel => exact ⟨g10, g11, rfl, rfl, ⟨s10, s11, hne⟩, D10, D11, hB2⟩
                  exact AllReadyH.nil
                refine AllReadyH.cons rfl (fun K hK => ?_) ?_
                · go_simp
                  obtain ⟨w11, h11, B11, b11, -⟩ := boxed w10 66 #[.int .i64 0, .int .i64 0, .int .i64 0]
                  rw [h11]
                  have n10_11 : g10 ≠ w10.heap.size := Nat.ne_of_lt B10.lt
                  obtain ⟨g11, hg11⟩ : ∃ g, w10.heap.size = g := ⟨_, rfl⟩
                  rw [hg11] at B11 n10_11
                  have s11 : wr.heap.size ≤ g11 := hg11 ▸ hB.size
                  try rw [hg11]
                  replace hB := bl_step hB b11
                  replace B10 := B10.below b11
                  clear hHeld
                  refine hK.out _ _ (mk.out _ hB) (fun hHeld => ?_)
                  clear hK K
                  try simp only [Act.put, List.setIfInBounds_toArray, List.set_cons_zero, List.set_cons_succ]
                  refine wpAnyH_ready (rs := [9]) (by kernel_rfl) (by simp) ?_
                  refine AllReadyH.cons rfl (fun K hK => ?_) ?_
                  · go_simp
                    refine (rowI_any _ _ hr3.2.1 hr3.2.2 _).mono ?_
                    rintro e w9 ⟨rfl, b9⟩
                    try go_wp2_with fail
                    replace hB := bl_step hB b9
                    replace B10 := B10.below b9
                    replace B11 := B11.below b9
                    clear hHeld
                    refine hK.out _ _ (mk.out _ hB) (fun hHeld => ?_)
                    clear hK K
                    try simp only [Act.put, List.setIfInBounds_toArray, List.set_cons_zero, List.set_cons_succ]
                    have hne : g10 ≠ g11 := n10_11
                    refine wpAnyH_ready (rs := [12]) (by kernel_rfl) (by simp) ?_
                    refine AllReadyH.cons rfl (fun K hK => ?_) AllReadyH.nil
                    obtain ⟨x0, x1, x2, y0, y1, y2⟩ := B10.open3
                    go_simp
                    clear x0 x1 x2 y0 y1 y2 hHeld
                    obtain ⟨X1, hX1⟩ : ∃ X1, ((w9.setCell ⟨g10, 0, none⟩ (.int .i64 (rowf m ((IntKind.i64.wrap ((j : Int) + 1)).tmod 3) 0))).setCell ⟨g10, 1, none⟩ (.int .i64 (rowf m ((IntKind.i64.wrap ((j : Int) + 1)).tmod 3) 1))).setCell ⟨g10, 2, none⟩ (.int .i64 (rowf m ((IntKind.i64.wrap ((j : Int) + 1)).tmod 3) 2)) = X1 := ⟨_, rfl⟩
                    have C10 : At 66 X1 g10 #[.int .i64 (rowf m ((IntKind.i64.wrap ((j : Int) + 1)).tmod 3) 0), .int .i64 (rowf m ((IntKind.i64.wrap ((j : Int) + 1)).tmod 3) 1), .int .i64 (rowf m ((IntKind.i64.wrap ((j : Int) + 1)).tmod 3) 2)] := hX1 ▸ put3e_at B10 _ _ _
                    have C11 : At 66 X1 g11 #[.int .i64 0, .int .i64 0, .int .i64 0] := hX1 ▸ ((B11.setOther (Ne.symm hne) _).setOther (Ne.symm hne) _).setOther (Ne.symm hne) _
                    have hB1 : Below wr.heap.size wr X1 := hX1 ▸ put3e_below hB s10 _ _ _
                    rw [hX1]
                    refine hK.out _ _ (mk.out _ hB1) (fun hHeld => ?_)
                    clear hK K B10 B11 hB hX1
                    try simp only [Act.put, List.setIfInBounds_toArray, List.set_cons_zero, List.set_cons_succ]
                    refine wpAnyH_ready (rs := [13]) (by kernel_rfl) (by simp) ?_
                    refine AllReadyH.cons rfl (fun K hK => ?_) AllReadyH.nil
                    obtain ⟨x0, x1, x2, y0, y1, y2⟩ := C11.open3
                    go_simp
                    clear x0 x1 x2 y0 y1 y2 hHeld
                    obtain ⟨X2, hX2⟩ : ∃ X2, ((X1.setCell ⟨g11, 0, none⟩ (.int .i64 (rowf m ((IntKind.i64.wrap ((j : Int) + 2)).tmod 3) 0))).setCell ⟨g11, 1, none⟩ (.int .i64 (rowf m ((IntKind.i64.wrap ((j : Int) + 2)).tmod 3) 1))).setCell ⟨g11, 2, none⟩ (.int .i64 (rowf m ((IntKind.i64.wrap ((j : Int) + 2)).tmod 3) 2)) = X2 := ⟨_, rfl⟩
                    have D11 : At 66 X2 g11 #[.int .i64 (rowf m ((IntKind.i64.wrap ((j : Int) + 2)).tmod 3) 0), .int .i64 (rowf m ((IntKind.i64.wrap ((j : Int) + 2)).tmod 3) 1), .int .i64 (rowf m ((IntKind.i64.wrap ((j : Int) + 2)).tmod 3) 2)] := hX2 ▸ put3e_at C11 _ _ _
                    have D10 : At 66 X2 g10 #[.int .i64 (rowf m ((IntKind.i64.wrap ((j : Int) + 1)).tmod 3) 0), .int .i64 (rowf m ((IntKind.i64.wrap ((j : Int) + 1)).tmod 3) 1), .int .i64 (rowf m ((IntKind.i64.wrap ((j : Int) + 1)).tmod 3) 2)] := hX2 ▸ ((C10.setOther hne _).setOther hne _).setOther hne _
                    have hB2 : Below wr.heap.size wr X2 := hX2 ▸ put3e_below hB1 s11 _ _ _
                    rw [hX2]
                    refine hK.out _ _ (mk.out _ hB2) (fun hHeld => ?_)
                    clear hK K C10 C11 hB1 hX2 hHeld
                    try simp only [Act.put, List.setIfInBounds_toArray, List.set_cons_zero, List.set_cons_succ]
                    refine wpAnyH_done (by kernel_rfl) ?_ _
                    go_wp2_with fail
                    go_meet
                    case rel => exact ⟨g10, g11, rfl, rfl, ⟨s10, s11, hne⟩, D10, D11, hB2⟩
                  exact AllReadyH.nil
                exact AllReadyH.nil
              refine AllReadyH.cons rfl (fun K hK => ?_) ?_
              · go_simp
                obtain ⟨w11, h11, B11, b11, -⟩ := boxed w4 66 #[.int .i64 0, .int .i64 0, .int .i64 0]
                rw [h11]
                obtain ⟨g11, hg11⟩ : ∃ g, w4.heap.size = g := ⟨_, rfl⟩
                rw [hg11] at B11
                have s11 : wr.heap.size ≤ g11 := hg11 ▸ hB.size
                try rw [hg11]
                replace hB := bl_step hB b11
                clear hHeld
                refine hK.out _ _ (mk.out _ hB) (fun hHeld => ?_)
                clear hK K
                try simp only [Act.put, List.setIfInBounds_toArray, List.set_cons_zero, List.set_cons_succ]
                refine wpAnyH_ready (rs := [9, 10]) (by kernel_rfl) (by simp) ?_
                refine AllReadyH.cons rfl (fun K hK => ?_) ?_
                · go_simp
                  refine (rowI_any _ _ hr3.2.1 hr3.2.2 _).mono ?_
                  rintro e w9 ⟨rfl, b9⟩
                  try go_wp2_with fail
                  replace hB := bl_step hB b9
                  replace B11 := B11.below b9
                  clear hHeld
                  refine hK.out _ _ (mk.out _ hB) (fun hHeld => ?_)
                  clear hK K
                  try simp only [Act.put, List.setIfInBounds_toArray, List.set_cons_zero, List.set_cons_succ]
                  refine wpAnyH_ready (rs := [10]) (by kernel_rfl) (by simp) ?_
                  refine AllReadyH.cons rfl (fun K hK => ?_) ?_
                  · go_simp
                    obtain ⟨w10, h10, B10, b10, -⟩ := boxed w9 66 #[.int .i64 0, .int .i64 0, .int .i64 0]
                    rw [h10]
                    have n11_10 : g11 ≠ w9.heap.size := Nat.ne_of_lt B11.lt
                    obtain ⟨g10, hg10⟩ : ∃ g, w9.heap.size = g := ⟨_, rfl⟩
                    rw [hg10] at B10 n11_10
                    have s10 : wr.heap.size ≤ g10 := hg10 ▸ hB.size
                    try rw [hg10]
                    replace hB := bl_step hB b10
                    replace B11 := B11.below b10
                    clear hHeld
                    refine hK.out _ _ (mk.out _ hB) (fun hHeld => ?_)
                    clear hK K
                    try simp only [Act.put, List.setIfInBounds_toArray, List.set_cons_zero, List.set_cons_succ]
                    have hne : g10 ≠ g11 := (Ne.symm n11_10)
                    refine wpAnyH_ready (rs := [12]) (by kernel_rfl) (by simp) ?_
                    refine AllReadyH.cons rfl (fun K hK => ?_) AllReadyH.nil
                    obtain ⟨x0, x1, x2, y0, y1, y2⟩ := B10.open3
                    go_simp
                    clear x0 x1 x2 y0 y1 y2 hHeld
                    obtain ⟨X1, hX1⟩ : ∃ X1, ((w10.setCell ⟨g10, 0, none⟩ (.int .i64 (rowf m ((IntKind.i64.wrap ((j : Int) + 1)).tmod 3) 0))).setCell ⟨g10, 1, none⟩ (.int .i64 (rowf m ((IntKind.i64.wrap ((j : Int) + 1)).tmod 3) 1))).setCell ⟨g10, 2, none⟩ (.int .i64 (rowf m ((IntKind.i64.wrap ((j : Int) + 1)).tmod 3) 2)) = X1 := ⟨_, rfl⟩
                    have C10 : At 66 X1 g10 #[.int .i64 (rowf m ((IntKind.i64.wrap ((j : Int) + 1)).tmod 3) 0), .int .i64 (rowf m ((IntKind.i64.wrap ((j : Int) + 1)).tmod 3) 1), .int .i64 (rowf m ((IntKind.i64.wrap ((j : Int) + 1)).tmod 3) 2)] := hX1 ▸ put3e_at B10 _ _ _
                    have C11 : At 66 X1 g11 #[.int .i64 0, .int .i64 0, .int .i64 0] := hX1 ▸ ((B11.setOther (Ne.symm hne) _).setOther (Ne.symm hne) _).setOther (Ne.symm hne) _
                    have hB1 : Below wr.heap.size wr X1 := hX1 ▸ put3e_below hB s10 _ _ _
                    rw [hX1]
                    refine hK.out _ _ (mk.out _ hB1) (fun hHeld => ?_)
                    clear hK K B10 B11 hB hX1
                    try simp only [Act.put, List.setIfInBounds_toArray, List.set_cons_zero, List.set_cons_succ]
                    refine wpAnyH_ready (rs := [13]) (by kernel_rfl) (by simp) ?_
                    refine AllReadyH.cons rfl (fun K hK => ?_) AllReadyH.nil
                    obtain ⟨x0, x1, x2, y0, y1, y2⟩ := C11.open3
                    go_simp
                    clear x0 x1 x2 y0 y1 y2 hHeld
                    obtain ⟨X2, hX2⟩ : ∃ X2, ((X1.setCell ⟨g11, 0, none⟩ (.int .i64 (rowf m ((IntKind.i64.wrap ((j : Int) + 2)).tmod 3) 0))).setCell ⟨g11, 1, none⟩ (.int .i64 (rowf m ((IntKind.i64.wrap ((j : Int) + 2)).tmod 3) 1))).setCell ⟨g11, 2, none⟩ (.int .i64 (rowf m ((IntKind.i64.wrap ((j : Int) + 2)).tmod 3) 2)) = X2 := ⟨_, rfl⟩
                    have D11 : At 66 X2 g11 #[.int .i64 (rowf m ((IntKind.i64.wrap ((j : Int) + 2)).tmod 3) 0), .int .i64 (rowf m ((IntKind.i64.wrap ((j : Int) + 2)).tmod 3) 1), .int .i64 (rowf m ((IntKind.i64.wrap ((j : Int) + 2)).tmod 3) 2)] := hX2 ▸ put3e_at C11 _ _ _
                    have D10 : At 66 X2 g10 #[.int .i64 (rowf m ((IntKind.i64.wrap ((j : Int) + 1)).tmod 3) 0), .int .i64 (rowf m ((IntKind.i64.wrap ((j : Int) + 1)).tmod 3) 1), .int .i64 (rowf m ((IntKind.i64.wrap ((j : Int) + 1)).tmod 3) 2)] := hX2 ▸ ((C10.setOther hne _).setOther hne _).setOther hne _
                    have hB2 : Below wr.heap.size wr X2 := hX2 ▸ put3e_below hB1 s11 _ _ _
                    rw [hX2]
                    refine hK.out _ _ (mk.out _ hB2) (fun hHeld => ?_)
                    clear hK K C10 C11 hB1 hX2 hHeld
                    try simp only [Act.put, List.setIfInBounds_toArray, List.set_cons_zero, List.set_cons_succ]
                    refine wpAnyH_done (by kernel_rfl) ?_ _
                    go_wp2_with fail
                    go_meet
                    case rel => exact ⟨g10, g11, rfl, rfl, ⟨s10, s11, hne⟩, D10, D11, hB2⟩
                  exact AllReadyH.nil
                refine AllReadyH.cons rfl (fun K hK => ?_) ?_
                · go_simp
                  obtain ⟨w10, h10, B10, b10, -⟩ := boxed w11 66 #[.int .i64 0, .int .i64 0, .int .i64 0]
                  rw [h10]
                  have n11_10 : g11 ≠ w11.heap.size := Nat.ne_of_lt B11.lt
                  obtain ⟨g10, hg10⟩ : ∃ g, w11.heap.size = g := ⟨_, rfl⟩
                  rw [hg10] at B10 n11_10
                  have s10 : wr.heap.size ≤ g10 := hg10 ▸ hB.size
                  try rw [hg10]
                  replace hB := bl_step hB b10
                  replace B11 := B11.below b10
                  clear hHeld
                  refine hK.out _ _ (mk.out _ hB) (fun hHeld => ?_)
                  clear hK K
                  try simp only [Act.put, List.setIfInBounds_toArray, List.set_cons_zero, List.set_cons_succ]
                  refine wpAnyH_ready (rs := [9]) (by kernel_rfl) (by simp) ?_
                  refine AllReadyH.cons rfl (fun K hK => ?_) ?_
                  · go_simp
                    refine (rowI_any _ _ hr3.2.1 hr3.2.2 _).mono ?_
                    rintro e w9 ⟨rfl, b9⟩
                    try go_wp2_with fail
                    replace hB := bl_step hB b9
                    replace B11 := B11.below b9
                    replace B10 := B10.below b9
                    clear hHeld
                    refine hK.out _ _ (mk.out _ hB) (fun hHeld => ?_)
                    clear hK K
                    try simp only [Act.put, List.setIfInBounds_toArray, List.set_cons_zero, List.set_cons_succ]
                    have hne : g10 ≠ g11 := (Ne.symm n11_10)
                    refine wpAnyH_ready (rs := [12]) (by kernel_rfl) (by simp) ?_
                    refine AllReadyH.cons rfl (fun K hK => ?_) AllReadyH.nil
                    obtain ⟨x0, x1, x2, y0, y1, y2⟩ := B10.open3
                    go_simp
                    clear x0 x1 x2 y0 y1 y2 hHeld
                    obtain ⟨X1, hX1⟩ : ∃ X1, ((w9.setCell ⟨g10, 0, none⟩ (.int .i64 (rowf m ((IntKind.i64.wrap ((j : Int) + 1)).tmod 3) 0))).setCell ⟨g10, 1, none⟩ (.int .i64 (rowf m ((IntKind.i64.wrap ((j : Int) + 1)).tmod 3) 1))).setCell ⟨g10, 2, none⟩ (.int .i64 (rowf m ((IntKind.i64.wrap ((j : Int) + 1)).tmod 3) 2)) = X1 := ⟨_, rfl⟩
                    have C10 : At 66 X1 g10 #[.int .i64 (rowf m ((IntKind.i64.wrap ((j : Int) + 1)).tmod 3) 0), .int .i64 (rowf m ((IntKind.i64.wrap ((j : Int) + 1)).tmod 3) 1), .int .i64 (rowf m ((IntKind.i64.wrap ((j : Int) + 1)).tmod 3) 2)] := hX1 ▸ put3e_at B10 _ _ _
                    have C11 : At 66 X1 g11 #[.int .i64 0, .int .i64 0, .int .i64 0] := hX1 ▸ ((B11.setOther (Ne.symm hne) _).setOther (Ne.symm hne) _).setOther (Ne.symm hne) _
                    have hB1 : Below wr.heap.size wr X1 := hX1 ▸ put3e_below hB s10 _ _ _
                    rw [hX1]
                    refine hK.out _ _ (mk.out _ hB1) (fun hHeld => ?_)
                    clear hK K B10 B11 hB hX1
                    try simp only [Act.put, List.setIfInBounds_toArray, List.set_cons_zero, List.set_cons_succ]
                    refine wpAnyH_ready (rs := [13]) (by kernel_rfl) (by simp) ?_
                    refine AllReadyH.cons rfl (fun K hK => ?_) AllReadyH.nil
                    obtain ⟨x0, x1, x2, y0, y1, y2⟩ := C11.open3
                    go_simp
                    clear x0 x1 x2 y0 y1 y2 hHeld
                    obtain ⟨X2, hX2⟩ : ∃ X2, ((X1.setCell ⟨g11, 0, none⟩ (.int .i64 (rowf m ((IntKind.i64.wrap ((j : Int) + 2)).tmod 3) 0))).setCell ⟨g11, 1, none⟩ (.int .i64 (rowf m ((IntKind.i64.wrap ((j : Int) + 2)).tmod 3) 1))).setCell ⟨g11, 2, none⟩ (.int .i64 (rowf m ((IntKind.i64.wrap ((j : Int) + 2)).tmod 3) 2)) = X2 := ⟨_, rfl⟩
                    have D11 : At 66 X2 g11 #[.int .i64 (rowf m ((IntKind.i64.wrap ((j : Int) + 2)).tmod 3) 0), .int .i64 (rowf m ((IntKind.i64.wrap ((j : Int) + 2)).tmod 3) 1), .int .i64 (rowf m ((IntKind.i64.wrap ((j : Int) + 2)).tmod 3) 2)] := hX2 ▸ put3e_at C11 _ _ _
                    have D10 : At 66 X2 g10 #[.int .i64 (rowf m ((IntKind.i64.wrap ((j : Int) + 1)).tmod 3) 0), .int .i64 (rowf m ((IntKind.i64.wrap ((j : Int) + 1)).tmod 3) 1), .int .i64 (rowf m ((IntKind.i64.wrap ((j : Int) + 1)).tmod 3) 2)] := hX2 ▸ ((C10.setOther hne _).setOther hne _).setOther hne _
                    have hB2 : Below wr.heap.size wr X2 := hX2 ▸ put3e_below hB1 s11 _ _ _
                    rw [hX2]
                    refine hK.out _ _ (mk.out _ hB2) (fun hHeld => ?_)
                    clear hK K C10 C11 hB1 hX2 hHeld
                    try simp only [Act.put, List.setIfInBounds_toArray, List.set_cons_zero, List.set_cons_succ]
                    refine wpAnyH_done (by kernel_rfl) ?_ _
                    go_wp2_with fail
                    go_meet
                    case rel => exact ⟨g10, g11, rfl, rfl, ⟨s10, s11, hne⟩, D10, D11, hB2⟩
                  exact AllReadyH.nil
                exact AllReadyH.nil
              exact AllReadyH.nil
            refine AllReadyH.cons rfl (fun K hK => ?_) ?_
            · go_simp
              obtain ⟨w10, h10, B10, b10, -⟩ := boxed w0 66 #[.int .i64 0, .int .i64 0, .int .i64 0]
              rw [h10]
              obtain ⟨g10, hg10⟩ : ∃ g, w0.heap.size = g := ⟨_, rfl⟩
              rw [hg10] at B10
              have s10 : wr.heap.size ≤ g10 := hg10 ▸ hB.size
              try rw [hg10]
              replace hB := bl_step hB b10
              clear hHeld
              refine hK.out _ _ (mk.out _ hB) (fun hHeld => ?_)
              clear hK K
              try simp only [Act.put, List.setIfInBounds_toArray, List.set_cons_zero, List.set_cons_succ]
              refine wpAnyH_ready (rs := [4, 11]) (by kernel_rfl) (by simp) ?_
              refine AllReadyH.cons rfl (fun K hK => ?_) ?_
              · go_simp
                refine (rowI_any _ _ hr3.1.1 hr3.1.2 _).mono ?_
                rintro e w4 ⟨rfl, b4⟩
                try go_wp2_with fail
                replace hB := bl_step hB b4
                replace B10 := B10.below b4
                clear hHeld
                refine hK.out _ _ (mk.out _ hB) (fun hHeld => ?_)
                clear hK K
                try simp only [Act.put, List.setIfInBounds_toArray, List.set_cons_zero, List.set_cons_succ]
                refine wpAnyH_ready (rs := [9, 11]) (by kernel_rfl) (by simp) ?_
                refine AllReadyH.cons rfl (fun K hK => ?_) ?_
                · go_simp
                  refine (rowI_any _ _ hr3.2.1 hr3.2.2 _).mono ?_
                  rintro e w9 ⟨rfl, b9⟩
                  try go_wp2_with fail
                  replace hB := bl_step hB b9
                  replace B10 := B10.below b9
                  clear hHeld
                  refine hK.out _ _ (mk.out _ hB) (fun hHeld => ?_)
                  clear hK K
                  try simp only [Act.put, List.setIfInBounds_toArray, List.set_cons_zero, List.set_cons_succ]
                  refine wpAnyH_ready (rs := [11]) (by kernel_rfl) (by simp) ?_
                  refine AllReadyH.cons rfl (fun K hK => ?_) ?_
                  · go_simp
                    obtain ⟨w11, h11, B11, b11, -⟩ := boxed w9 66 #[.int .i64 0, .int .i64 0, .int .i64 0]
                    rw [h11]
                    have n10_11 : g10 ≠ w9.heap.size := Nat.ne_of_lt B10.lt
                    obtain ⟨g11, hg11⟩ : ∃ g, w9.heap.size = g := ⟨_, rfl⟩
                    rw [hg11] at B11 n10_11
                    have s11 : wr.heap.size ≤ g11 := hg11 ▸ hB.size
                    try rw [hg11]
                    replace hB := bl_step hB b11
                    replace B10 := B10.below b11
                    clear hHeld
                    refine hK.out _ _ (mk.out _ hB) (fun hHeld => ?_)
                    clear hK K
                    try simp only [Act.put, List.setIfInBounds_toArray, List.set_cons_zero, List.set_cons_succ]
                    have hne : g10 ≠ g11 := n10_11
                    refine wpAnyH_ready (rs := [12]) (by kernel_rfl) (by simp) ?_
                    refine AllReadyH.cons rfl (fun K hK => ?_) AllReadyH.nil
                    obtain ⟨x0, x1, x2, y0, y1, y2⟩ := B10.open3
                    go_simp
                    clear x0 x1 x2 y0 y1 y2 hHeld
                    obtain ⟨X1, hX1⟩ : ∃ X1, ((w11.setCell ⟨g10, 0, none⟩ (.int .i64 (rowf m ((IntKind.i64.wrap ((j : Int) + 1)).tmod 3) 0))).setCell ⟨g10, 1, none⟩ (.int .i64 (rowf m ((IntKind.i64.wrap ((j : Int) + 1)).tmod 3) 1))).setCell ⟨g10, 2, none⟩ (.int .i64 (rowf m ((IntKind.i64.wrap ((j : Int) + 1)).tmod 3) 2)) = X1 := ⟨_, rfl⟩
                    have C10 : At 66 X1 g10 #[.int .i64 (rowf m ((IntKind.i64.wrap ((j : Int) + 1)).tmod 3) 0), .int .i64 (rowf m ((IntKind.i64.wrap ((j : Int) + 1)).tmod 3) 1), .int .i64 (rowf m ((IntKind.i64.wrap ((j : Int) + 1)).tmod 3) 2)] := hX1 ▸ put3e_at B10 _ _ _
                    have C11 : At 66 X1 g11 #[.int .i64 0, .int .i64 0, .int .i64 0] := hX1 ▸ ((B11.setOther (Ne.symm hne) _).setOther (Ne.symm hne) _).setOther (Ne.symm hne) _
                    have hB1 : Below wr.heap.size wr X1 := hX1 ▸ put3e_below hB s10 _ _ _
                    rw [hX1]
                    refine hK.out _ _ (mk.out _ hB1) (fun hHeld => ?_)
                    clear hK K B10 B11 hB hX1
                    try simp only [Act.put, List.setIfInBounds_toArray, List.set_cons_zero, List.set_cons_succ]
                    refine wpAnyH_ready (rs := [13]) (by kernel_rfl) (by simp) ?_
                    refine AllReadyH.cons rfl (fun K hK => ?_) AllReadyH.nil
                    obtain ⟨x0, x1, x2, y0, y1, y2⟩ := C11.open3
                    go_simp
                    clear x0 x1 x2 y0 y1 y2 hHeld
                    obtain ⟨X2, hX2⟩ : ∃ X2, ((X1.setCell ⟨g11, 0, none⟩ (.int .i64 (rowf m ((IntKind.i64.wrap ((j : Int) + 2)).tmod 3) 0))).setCell ⟨g11, 1, none⟩ (.int .i64 (rowf m ((IntKind.i64.wrap ((j : Int) + 2)).tmod 3) 1))).setCell ⟨g11, 2, none⟩ (.int .i64 (rowf m ((IntKind.i64.wrap ((j : Int) + 2)).tmod 3) 2)) = X2 := ⟨_, rfl⟩
                    have D11 : At 66 X2 g11 #[.int .i64 (rowf m ((IntKind.i64.wrap ((j : Int) + 2)).tmod 3) 0), .int .i64 (rowf m ((IntKind.i64.wrap ((j : Int) + 2)).tmod 3) 1), .int .i64 (rowf m ((IntKind.i64.wrap ((j : Int) + 2)).tmod 3) 2)] := hX2 ▸ put3e_at C11 _ _ _
                    have D10 : At 66 X2 g10 #[.int .i64 (rowf m ((IntKind.i64.wrap ((j : Int) + 1)).tmod 3) 0), .int .i64 (rowf m ((IntKind.i64.wrap ((j : Int) + 1)).tmod 3) 1), .int .i64 (rowf m ((IntKind.i64.wrap ((j : Int) + 1)).tmod 3) 2)] := hX2 ▸ ((C10.setOther hne _).setOther hne _).setOther hne _
                    have hB2 : Below wr.heap.size wr X2 := hX2 ▸ put3e_below hB1 s11 _ _ _
                    rw [hX2]
                    refine hK.out _ _ (mk.out _ hB2) (fun hHeld => ?_)
                    clear hK K C10 C11 hB1 hX2 hHeld
                    try simp only [Act.put, List.setIfInBounds_toArray, List.set_cons_zero, List.set_cons_succ]
                    refine wpAnyH_done (by kernel_rfl) ?_ _
                    go_wp2_with fail
                    go_meet
                    case rel => exact ⟨g10, g11, rfl, rfl, ⟨s10, s11, hne⟩, D10, D11, hB2⟩
                  exact AllReadyH.nil
                refine AllReadyH.cons rfl (fun K hK => ?_) ?_
                · go_simp
                  obtain ⟨w11, h11, B11, b11, -⟩ := boxed w4 66 #[.int .i64 0, .int .i64 0, .int .i64 0]
                  rw [h11]
                  have n10_11 : g10 ≠ w4.heap.size := Nat.ne_of_lt B10.lt
                  obtain ⟨g11, hg11⟩ : ∃ g, w4.heap.size = g := ⟨_, rfl⟩
                  rw [hg11] at B11 n10_11
                  have s11 : wr.heap.size ≤ g11 := hg11 ▸ hB.size
                  try rw [hg11]
                  replace hB := bl_step hB b11
                  replace B10 := B10.below b11
                  clear hHeld
                  refine hK.out _ _ (mk.out _ hB) (fun hHeld => ?_)
                  clear hK K
                  try simp only [Act.put, List.setIfInBounds_toArray, List.set_cons_zero, List.set_cons_succ]
                  refine wpAnyH_ready (rs := [9]) (by kernel_rfl) (by simp) ?_
                  refine AllReadyH.cons rfl (fun K hK => ?_) ?_
                  · go_simp
                    refine (rowI_any _ _ hr3.2.1 hr3.2.2 _).mono ?_
                    rintro e w9 ⟨rfl, b9⟩
                    try go_wp2_with fail
                    replace hB := bl_step hB b9
                    replace B10 := B10.below b9
                    replace B11 := B11.below b9
                    clear hHeld
                    refine hK.out _ _ (mk.out _ hB) (fun hHeld => ?_)
                    clear hK K
                    try simp only [Act.put, List.setIfInBounds_toArray, List.set_cons_zero, List.set_cons_succ]
                    have hne : g10 ≠ g11 := n10_11
                    refine wpAnyH_ready (rs := [12]) (by kernel_rfl) (by simp) ?_
                    refine AllReadyH.cons rfl (fun K hK => ?_) AllReadyH.nil
                    obtain ⟨x0, x1, x2, y0, y1, y2⟩ := B10.open3
                    go_simp
                    clear x0 x1 x2 y0 y1 y2 hHeld
                    obtain ⟨X1, hX1⟩ : ∃ X1, ((w9.setCell ⟨g10, 0, none⟩ (.int .i64 (rowf m ((IntKind.i64.wrap ((j : Int) + 1)).tmod 3) 0))).setCell ⟨g10, 1, none⟩ (.int .i64 (rowf m ((IntKind.i64.wrap ((j : Int) + 1)).tmod 3) 1))).setCell ⟨g10, 2, none⟩ (.int .i64 (rowf m ((IntKind.i64.wrap ((j : Int) + 1)).tmod 3) 2)) = X1 := ⟨_, rfl⟩
                    have C10 : At 66 X1 g10 #[.int .i64 (rowf m ((IntKind.i64.wrap ((j : Int) + 1)).tmod 3) 0), .int .i64 (rowf m ((IntKind.i64.wrap ((j : Int) + 1)).tmod 3) 1), .int .i64 (rowf m ((IntKind.i64.wrap ((j : Int) + 1)).tmod 3) 2)] := hX1 ▸ put3e_at B10 _ _ _
                    have C11 : At 66 X1 g11 #[.int .i64 0, .int .i64 0, .int .i64 0] := hX1 ▸ ((B11.setOther (Ne.symm hne) _).setOther (Ne.symm hne) _).setOther (Ne.symm hne) _
                    have hB1 : Below wr.heap.size wr X1 := hX1 ▸ put3e_below hB s10 _ _ _
                    rw [hX1]
                    refine hK.out _ _ (mk.out _ hB1) (fun hHeld => ?_)
                    clear hK K B10 B11 hB hX1
                    try simp only [Act.put, List.setIfInBounds_toArray, List.set_cons_zero, List.set_cons_succ]
                    refine wpAnyH_ready (rs := [13]) (by kernel_rfl) (by simp) ?_
                    refine AllReadyH.cons rfl (fun K hK => ?_) AllReadyH.nil
                    obtain ⟨x0, x1, x2, y0, y1, y2⟩ := C11.open3
                    go_simp
                    clear x0 x1 x2 y0 y1 y2 hHeld
                    obtain ⟨X2, hX2⟩ : ∃ X2, ((X1.setCell ⟨g11, 0, none⟩ (.int .i64 (rowf m ((IntKind.i64.wrap ((j : Int) + 2)).tmod 3) 0))).setCell ⟨g11, 1, none⟩ (.int .i64 (rowf m ((IntKind.i64.wrap ((j : Int) + 2)).tmod 3) 1))).setCell ⟨g11, 2, none⟩ (.int .i64 (rowf m ((IntKind.i64.wrap ((j : Int) + 2)).tmod 3) 2)) = X2 := ⟨_, rfl⟩
                    have D11 : At 66 X2 g11 #[.int .i64 (rowf m ((IntKind.i64.wrap ((j : Int) + 2)).tmod 3) 0), .int .i64 (rowf m ((IntKind.i64.wrap ((j : Int) + 2)).tmod 3) 1), .int .i64 (rowf m ((IntKind.i64.wrap ((j : Int) + 2)).tmod 3) 2)] := hX2 ▸ put3e_at C11 _ _ _
                    have D10 : At 66 X2 g10 #[.int .i64 (rowf m ((IntKind.i64.wrap ((j : Int) + 1)).tmod 3) 0), .int .i64 (rowf m ((IntKind.i64.wrap ((j : Int) + 1)).tmod 3) 1), .int .i64 (rowf m ((IntKind.i64.wrap ((j : Int) + 1)).tmod 3) 2)] := hX2 ▸ ((C10.setOther hne _).setOther hne _).setOther hne _
                    have hB2 : Below wr.heap.size wr X2 := hX2 ▸ put3e_below hB1 s11 _ _ _
                    rw [hX2]
                    refine hK.out _ _ (mk.out _ hB2) (fun hHeld => ?_)
                    clear hK K C10 C11 hB1 hX2 hHeld
                    try simp only [Act.put, List.setIfInBounds_toArray, List.set_cons_zero, List.set_cons_succ]
                    refine wpAnyH_done (by kernel_rfl) ?_ _
                    go_wp2_with fail
                    go_meet
                    case rel => exact ⟨g10, g11, rfl, rfl, ⟨s10, s11, hne⟩, D10, D11, hB2⟩
                  exact AllReadyH.nil
                exact AllReadyH.nil
              refine AllReadyH.cons rfl (fun K hK => ?_) ?_
              · go_simp
                obtain ⟨w11, h11, B11, b11, -⟩ := boxed w10 66 #[.int .i64 0, .int .i64 0, .int .i64 0]
                rw [h11]
                have n10_11 : g10 ≠ w10.heap.size := Nat.ne_of_lt B10.lt
                obtain ⟨g11, hg11⟩ : ∃ g, w10.heap.size = g := ⟨_, rfl⟩
                rw [hg11] at B11 n10_11
                have s11 : wr.heap.size ≤ g11 := hg11 ▸ hB.size
                try rw [hg11]
                replace hB := bl_step hB b11
                replace B10 := B10.below b11
                clear hHeld
                refine hK.out _ _ (mk.out _ hB) (fun hHeld => ?_)
                clear hK K
                try simp only [Act.put, List.setIfInBounds_toArray, List.set_cons_zero, List.set_cons_succ]
                refine wpAnyH_ready (rs := [4]) (by kernel_rfl) (by simp) ?_
                refine AllReadyH.cons rfl (fun K hK => ?_) ?_
                · go_simp
                  refine (rowI_any _ _ hr3.1.1 hr3.1.2 _).mono ?_
                  rintro e w4 ⟨rfl, b4⟩
                  try go_wp2_with fail
                  replace hB := bl_step hB b4
                  replace B10 := B10.below b4
                  replace B11 := B11.below b4
                  clear hHeld
                  refine hK.out _ _ (mk.out _ hB) (fun hHeld => ?_)
                  clear hK K
                  try simp only [Act.put, List.setIfInBounds_toArray, List.set_cons_zero, List.set_cons_succ]
                  refine wpAnyH_ready (rs := [9]) (by kernel_rfl) (by simp) ?_
                  refine AllReadyH.cons rfl (fun K hK => ?_) ?_
                  · go_simp
                    refine (rowI_any _ _ hr3.2.1 hr3.2.2 _).mono ?_
                    rintro e w9 ⟨rfl, b9⟩
                    try go_wp2_with fail
                    replace hB := bl_step hB b9
                    replace B10 := B10.below b9
                    replace B11 := B11.below b9
                    clear hHeld
                    refine hK.out _ _ (mk.out _ hB) (fun hHeld => ?_)
                    clear hK K
                    try simp only [Act.put, List.setIfInBounds_toArray, List.set_cons_zero, List.set_cons_succ]
                    have hne : g10 ≠ g11 := n10_11
                    refine wpAnyH_ready (rs := [12]) (by kernel_rfl) (by simp) ?_
                    refine AllReadyH.cons rfl (fun K hK => ?_) AllReadyH.nil
                    obtain ⟨x0, x1, x2, y0, y1, y2⟩ := B10.open3
                    go_simp
                    clear x0 x1 x2 y0 y1 y2 hHeld
                    obtain ⟨X1, hX1⟩ : ∃ X1, ((w9.setCell ⟨g10, 0, none⟩ (.int .i64 (rowf m ((IntKind.i64.wrap ((j : Int) + 1)).tmod 3) 0))).setCell ⟨g10, 1, none⟩ (.int .i64 (rowf m ((IntKind.i64.wrap ((j : Int) + 1)).tmod 3) 1))).setCell ⟨g10, 2, none⟩ (.int .i64 (rowf m ((IntKind.i64.wrap ((j : Int) + 1)).tmod 3) 2)) = X1 := ⟨_, rfl⟩
                    have C10 : At 66 X1 g10 #[.int .i64 (rowf m ((IntKind.i64.wrap ((j : Int) + 1)).tmod 3) 0), .int .i64 (rowf m ((IntKind.i64.wrap ((j : Int) + 1)).tmod 3) 1), .int .i64 (rowf m ((IntKind.i64.wrap ((j : Int) + 1)).tmod 3) 2)] := hX1 ▸ put3e_at B10 _ _ _
                    have C11 : At 66 X1 g11 #[.int .i64 0, .int .i64 0, .int .i64 0] := hX1 ▸ ((B11.setOther (Ne.symm hne) _).setOther (Ne.symm hne) _).setOther (Ne.symm hne) _
                    have hB1 : Below wr.heap.size wr X1 := hX1 ▸ put3e_below hB s10 _ _ _
                    rw [hX1]
                    refine hK.out _ _ (mk.out _ hB1) (fun hHeld => ?_)
                    clear hK K B10 B11 hB hX1
                    try simp only [Act.put, List.setIfInBounds_toArray, List.set_cons_zero, List.set_cons_succ]
                    refine wpAnyH_ready (rs := [13]) (by kernel_rfl) (by simp) ?_
                    refine AllReadyH.cons rfl (fun K hK => ?_) AllReadyH.nil
                    obtain ⟨x0, x1, x2, y0, y1, y2⟩ := C11.open3
                    go_simp
                    clear x0 x1 x2 y0 y1 y2 hHeld
                    obtain ⟨X2, hX2⟩ : ∃ X2, ((X1.setCell ⟨g11, 0, none⟩ (.int .i64 (rowf m ((IntKind.i64.wrap ((j : Int) + 2)).tmod 3) 0))).setCell ⟨g11, 1, none⟩ (.int .i64 (rowf m ((IntKind.i64.wrap ((j : Int) + 2)).tmod 3) 1))).setCell ⟨g11, 2, none⟩ (.int .i64 (rowf m ((IntKind.i64.wrap ((j : Int) + 2)).tmod 3) 2)) = X2 := ⟨_, rfl⟩
                    have D11 : At 66 X2 g11 #[.int .i64 (rowf m ((IntKind.i64.wrap ((j : Int) + 2)).tmod 3) 0), .int .i64 (rowf m ((IntKind.i64.wrap ((j : Int) + 2)).tmod 3) 1), .int .i64 (rowf m ((IntKind.i64.wrap ((j : Int) + 2)).tmod 3) 2)] := hX2 ▸ put3e_at C11 _ _ _
                    have D10 : At 66 X2 g10 #[.int .i64 (rowf m ((IntKind.i64.wrap ((j : Int) + 1)).tmod 3) 0), .int .i64 (rowf m ((IntKind.i64.wrap ((j : Int) + 1)).tmod 3) 1), .int .i64 (rowf m ((IntKind.i64.wrap ((j : Int) + 1)).tmod 3) 2)] := hX2 ▸ ((C10.setOther hne _).setOther hne _).setOther hne _
                    have hB2 : Below wr.heap.size wr X2 := hX2 ▸ put3e_below hB1 s11 _ _ _
                    rw [hX2]
                    refine hK.out _ _ (mk.out _ hB2) (fun hHeld => ?_)
                    clear hK K C10 C11 hB1 hX2 hHeld
                    try simp only [Act.put, List.setIfInBounds_toArray, List.set_cons_zero, List.set_cons_succ]
                    refine wpAnyH_done (by kernel_rfl) ?_ _
                    go_wp2_with fail
                    go_meet
                    case rel => exact ⟨g10, g11, rfl, rfl, ⟨s10, s11, hne⟩, D10, D11, hB2⟩
                  exact AllReadyH.nil
                exact AllReadyH.nil
              exact AllReadyH.nil
            refine AllReadyH.cons rfl (fun K hK => ?_) ?_
            · go_simp
              obtain ⟨w11, h11, B11, b11, -⟩ := boxed w0 66 #[.int .i64 0, .int .i64 0, .int .i64 0]
              rw [h11]
              obtain ⟨g11, hg11⟩ : ∃ g, w0.heap.size = g := ⟨_, rfl⟩
              rw [hg11] at B11
              have s11 : wr.heap.size ≤ g11 := hg11 ▸ hB.size
              try rw [hg11]
              replace hB := bl_step hB b11
              clear hHeld
              refine hK.out _ _ (mk.out _ hB) (fun hHeld => ?_)
              clear hK K
              try simp only [Act.put, List.setIfInBounds_toArray, List.set_cons_zero, List.set_cons_succ]
              refine wpAnyH_ready (rs := [4, 10]) (by kernel_rfl) (by simp) ?_
              refine AllReadyH.cons rfl (fun K hK => ?_) ?_
              · go_simp
                refine (rowI_any _ _ hr3.1.1 hr3.1.2 _).mono ?_
                rintro e w4 ⟨rfl, b4⟩
                try go_wp2_with fail
                replace hB := bl_step hB b4
                replace B11 := B11.below b4
                clear hHeld
                refine hK.out _ _ (mk.out _ hB) (fun hHeld => ?_)
                clear hK K
                try simp only [Act.put, List.setIfInBounds_toArray, List.set_cons_zero, List.set_cons_succ]
                refine wpAnyH_ready (rs := [9, 10]) (by kernel_rfl) (by simp) ?_
                refine AllReadyH.cons rfl (fun K hK => ?_) ?_
                · go_simp
                  refine (rowI_any _ _ hr3.2.1 hr3.2.2 _).mono ?_
                  rintro e w9 ⟨rfl, b9⟩
                  try go_wp2_with fail
                  replace hB := bl_step hB b9
                  replace B11 := B11.below b9
                  clear hHeld
                  refine hK.out _ _ (mk.out _ hB) (fun hHeld => ?_)
                  clear hK K
                  try simp only [Act.put, List.setIfInBounds_toArray, List.set_cons_zero, List.set_cons_succ]
                  refine wpAnyH_ready (rs := [10]) (by kernel_rfl) (by simp) ?_
                  refine AllReadyH.cons rfl (fun K hK => ?_) ?_
                  · go_simp
                    obtain ⟨w10, h10, B10, b10, -⟩ := boxed w9 66 #[.int .i64 0, .int .i64 0, .int .i64 0]
                    rw [h10]
                    have n11_10 : g11 ≠ w9.heap.size := Nat.ne_of_lt B11.lt
                    obtain ⟨g10, hg10⟩ : ∃ g, w9.heap.size = g := ⟨_, rfl⟩
                    rw [hg10] at B10 n11_10
                    have s10 : wr.heap.size ≤ g10 := hg10 ▸ hB.size
                    try rw [hg10]
                    replace hB := bl_step hB b10
                    replace B11 := B11.below b10
                    clear hHeld
                    refine hK.out _ _ (mk.out _ hB) (fun hHeld => ?_)
                    clear hK K
                    try simp only [Act.put, List.setIfInBounds_toArray, List.set_cons_zero, List.set_cons_succ]
                    have hne : g10 ≠ g11 := (Ne.symm n11_10)
                    refine wpAnyH_ready (rs := [12]) (by kernel_rfl) (by simp) ?_
                    refine AllReadyH.cons rfl (fun K hK => ?_) AllReadyH.nil
                    obtain ⟨x0, x1, x2, y0, y1, y2⟩ := B10.open3
                    go_simp
                    clear x0 x1 x2 y0 y1 y2 hHeld
                    obtain ⟨X1, hX1⟩ : ∃ X1, ((w10.setCell ⟨g10, 0, none⟩ (.int .i64 (rowf m ((IntKind.i64.wrap ((j : Int) + 1)).tmod 3) 0))).setCell ⟨g10, 1, none⟩ (.int .i64 (rowf m ((IntKind.i64.wrap ((j : Int) + 1)).tmod 3) 1))).setCell ⟨g10, 2, none⟩ (.int .i64 (rowf m ((IntKind.i64.wrap ((j : Int) + 1)).tmod 3) 2)) = X1 := ⟨_, rfl⟩
                    have C10 : At 66 X1 g10 #[.int .i64 (rowf m ((IntKind.i64.wrap ((j : Int) + 1)).tmod 3) 0), .int .i64 (rowf m ((IntKind.i64.wrap ((j : Int) + 1)).tmod 3) 1), .int .i64 (rowf m ((IntKind.i64.wrap ((j : Int) + 1)).tmod 3) 2)] := hX1 ▸ put3e_at B10 _ _ _
                    have C11 : At 66 X1 g11 #[.int .i64 0, .int .i64 0, .int .i64 0] := hX1 ▸ ((B11.setOther (Ne.symm hne) _).setOther (Ne.symm hne) _).setOther (Ne.symm hne) _
                    have hB1 : Below wr.heap.size wr X1 := hX1 ▸ put3e_below hB s10 _ _ _
                    rw [hX1]
                    refine hK.out _ _ (mk.out _ hB1) (fun hHeld => ?_)
                    clear hK K B10 B11 hB hX1
                    try simp only [Act.put, List.setIfInBounds_toArray, List.set_cons_zero, List.set_cons_succ]
                    refine wpAnyH_ready (rs := [13]) (by kernel_rfl) (by simp) ?_
                    refine AllReadyH.cons rfl (fun K hK => ?_) AllReadyH.nil
                    obtain ⟨x0, x1, x2, y0, y1, y2⟩ := C11.open3
                    go_simp
                    clear x0 x1 x2 y0 y1 y2 hHeld
                    obtain ⟨X2, hX2⟩ : ∃ X2, ((X1.setCell ⟨g11, 0, none⟩ (.int .i64 (rowf m ((IntKind.i64.wrap ((j : Int) + 2)).tmod 3) 0))).setCell ⟨g11, 1, none⟩ (.int .i64 (rowf m ((IntKind.i64.wrap ((j : Int) + 2)).tmod 3) 1))).setCell ⟨g11, 2, none⟩ (.int .i64 (rowf m ((IntKind.i64.wrap ((j : Int) + 2)).tmod 3) 2)) = X2 := ⟨_, rfl⟩
                    have D11 : At 66 X2 g11 #[.int .i64 (rowf m ((IntKind.i64.wrap ((j : Int) + 2)).tmod 3) 0), .int .i64 (rowf m ((IntKind.i64.wrap ((j : Int) + 2)).tmod 3) 1), .int .i64 (rowf m ((IntKind.i64.wrap ((j : Int) + 2)).tmod 3) 2)] := hX2 ▸ put3e_at C11 _ _ _
                    have D10 : At 66 X2 g10 #[.int .i64 (rowf m ((IntKind.i64.wrap ((j : Int) + 1)).tmod 3) 0), .int .i64 (rowf m ((IntKind.i64.wrap ((j : Int) + 1)).tmod 3) 1), .int .i64 (rowf m ((IntKind.i64.wrap ((j : Int) + 1)).tmod 3) 2)] := hX2 ▸ ((C10.setOther hne _).setOther hne _).setOther hne _
                    have hB2 : Below wr.heap.size wr X2 := hX2 ▸ put3e_below hB1 s11 _ _ _
                    rw [hX2]
                    refine hK.out _ _ (mk.out _ hB2) (fun hHeld => ?_)
                    clear hK K C10 C11 hB1 hX2 hHeld
                    try simp only [Act.put, List.setIfInBounds_toArray, List.set_cons_zero, List.set_cons_succ]
                    refine wpAnyH_done (by kernel_rfl) ?_ _
                    go_wp2_with fail
                    go_meet
                    case rel => exact ⟨g10, g11, rfl, rfl, ⟨s10, s11, hne⟩, D10, D11, hB2⟩
                  exact AllReadyH.nil
                refine AllReadyH.cons rfl (fun K hK => ?_) ?_
                · go_simp
                  obtain ⟨w10, h10, B10, b10, -⟩ := boxed w4 66 #[.int .i64 0, .int .i64 0, .int .i64 0]
                  rw [h10]
                  have n11_10 : g11 ≠ w4.heap.size := Nat.ne_of_lt B11.lt
                  obtain ⟨g10, hg10⟩ : ∃ g, w4.heap.size = g := ⟨_, rfl⟩
                  rw [hg10] at B10 n11_10
                  have s10 : wr.heap.size ≤ g10 := hg10 ▸ hB.size
                  try rw [hg10]
                  replace hB := bl_step hB b10
                  replace B11 := B11.below b10
                  clear hHeld
                  refine hK.out _ _ (mk.out _ hB) (fun hHeld => ?_)
                  clear hK K
                  try simp only [Act.put, List.setIfInBounds_toArray, List.set_cons_zero, List.set_cons_succ]
                  refine wpAnyH_ready (rs := [9]) (by kernel_rfl) (by simp) ?_
                  refine AllReadyH.cons rfl (fun K hK => ?_) ?_
                  · go_simp
                    refine (rowI_any _ _ hr3.2.1 hr3.2.2 _).mono ?_
                    rintro e w9 ⟨rfl, b9⟩
                    try go_wp2_with fail
                    replace hB := bl_step hB b9
                    replace B11 := B11.below b9
                    replace B10 := B10.below b9
                    clear hHeld
                    refine hK.out _ _ (mk.out _ hB) (fun hHeld => ?_)
                    clear hK K
                    try simp only [Act.put, List.setIfInBounds_toArray, List.set_cons_zero, List.set_cons_succ]
                    have hne : g10 ≠ g11 := (Ne.symm n11_10)
                    refine wpAnyH_ready (rs := [12]) (by kernel_rfl) (by simp) ?_
                    refine AllReadyH.cons rfl (fun K hK => ?_) AllReadyH.nil
                    obtain ⟨x0, x1, x2, y0, y1, y2⟩ := B10.open3
                    go_simp
                    clear x0 x1 x2 y0 y1 y2 hHeld
                    obtain ⟨X1, hX1⟩ : ∃ X1, ((w9.setCell ⟨g10, 0, none⟩ (.int .i64 (rowf m ((IntKind.i64.wrap ((j : Int) + 1)).tmod 3) 0))).setCell ⟨g10, 1, none⟩ (.int .i64 (rowf m ((IntKind.i64.wrap ((j : Int) + 1)).tmod 3) 1))).setCell ⟨g10, 2, none⟩ (.int .i64 (rowf m ((IntKind.i64.wrap ((j : Int) + 1)).tmod 3) 2)) = X1 := ⟨_, rfl⟩
                    have C10 : At 66 X1 g10 #[.int .i64 (rowf m ((IntKind.i64.wrap ((j : Int) + 1)).tmod 3) 0), .int .i64 (rowf m ((IntKind.i64.wrap ((j : Int) + 1)).tmod 3) 1), .int .i64 (rowf m ((IntKind.i64.wrap ((j : Int) + 1)).tmod 3) 2)] := hX1 ▸ put3e_at B10 _ _ _
                    have C11 : At 66 X1 g11 #[.int .i64 0, .int .i64 0, .int .i64 0] := hX1 ▸ ((B11.setOther (Ne.symm hne) _).setOther (Ne.symm hne) _).setOther (Ne.symm hne) _
                    have hB1 : Below wr.heap.size wr X1 := hX1 ▸ put3e_below hB s10 _ _ _
                    rw [hX1]
                    refine hK.out _ _ (mk.out _ hB1) (fun hHeld => ?_)
                    clear hK K B10 B11 hB hX1
                    try simp only [Act.put, List.setIfInBounds_toArray, List.set_cons_zero, List.set_cons_succ]
                    refine wpAnyH_ready (rs := [13]) (by kernel_rfl) (by simp) ?_
                    refine AllReadyH.cons rfl (fun K hK => ?_) AllReadyH.nil
                    obtain ⟨x0, x1, x2, y0, y1, y2⟩ := C11.open3
                    go_simp
                    clear x0 x1 x2 y0 y1 y2 hHeld
                    obtain ⟨X2, hX2⟩ : ∃ X2, ((X1.setCell ⟨g11, 0, none⟩ (.int .i64 (rowf m ((IntKind.i64.wrap ((j : Int) + 2)).tmod 3) 0))).setCell ⟨g11, 1, none⟩ (.int .i64 (rowf m ((IntKind.i64.wrap ((j : Int) + 2)).tmod 3) 1))).setCell ⟨g11, 2, none⟩ (.int .i64 (rowf m ((IntKind.i64.wrap ((j : Int) + 2)).tmod 3) 2)) = X2 := ⟨_, rfl⟩
                    have D11 : At 66 X2 g11 #[.int .i64 (rowf m ((IntKind.i64.wrap ((j : Int) + 2)).tmod 3) 0), .int .i64 (rowf m ((IntKind.i64.wrap ((j : Int) + 2)).tmod 3) 1), .int .i64 (rowf m ((IntKind.i64.wrap ((j : Int) + 2)).tmod 3) 2)] := hX2 ▸ put3e_at C11 _ _ _
                    have D10 : At 66 X2 g10 #[.int .i64 (rowf m ((IntKind.i64.wrap ((j : Int) + 1)).tmod 3) 0), .int .i64 (rowf m ((IntKind.i64.wrap ((j : Int) + 1)).tmod 3) 1), .int .i64 (rowf m ((IntKind.i64.wrap ((j : Int) + 1)).tmod 3) 2)] := hX2 ▸ ((C10.setOther hne _).setOther hne _).setOther hne _
                    have hB2 : Below wr.heap.size wr X2 := hX2 ▸ put3e_below hB1 s11 _ _ _
                    rw [hX2]
                    refine hK.out _ _ (mk.out _ hB2) (fun hHeld => ?_)
                    clear hK K C10 C11 hB1 hX2 hHeld
                    try simp only [Act.put, List.setIfInBounds_toArray, List.set_cons_zero, List.set_cons_succ]
                    refine wpAnyH_done (by kernel_rfl) ?_ _
                    go_wp2_with fail
                    go_meet
                    case rel => exact ⟨g10, g11, rfl, rfl, ⟨s10, s11, hne⟩, D10, D11, hB2⟩
                  exact AllReadyH.nil
                exact AllReadyH.nil
              refine AllReadyH.cons rfl (fun K hK => ?_) ?_
              · go_simp
                obtain ⟨w10, h10, B10, b10, -⟩ := boxed w11 66 #[.int .i64 0, .int .i64 0, .int .i64 0]
                rw [h10]
                have n11_10 : g11 ≠ w11.heap.size := Nat.ne_of_lt B11.lt
                obtain ⟨g10, hg10⟩ : ∃ g, w11.heap.size = g := ⟨_, rfl⟩
                rw [hg10] at B10 n11_10
                have s10 : wr.heap.size ≤ g10 := hg10 ▸ hB.size
                try rw [hg10]
                replace hB := bl_step hB b10
                replace B11 := B11.below b10
                clear hHeld
                refine hK.out _ _ (mk.out _ hB) (fun hHeld => ?_)
                clear hK K
                try simp only [Act.put, List.setIfInBounds_toArray, List.set_cons_zero, List.set_cons_succ]
                refine wpAnyH_ready (rs := [4]) (by kernel_rfl) (by simp) ?_
                refine AllReadyH.cons rfl (fun K hK => ?_) ?_
                · go_simp
                  refine (rowI_any _ _ hr3.1.1 hr3.1.2 _).mono ?_
                  rintro e w4 ⟨rfl, b4⟩
                  try go_wp2_with fail
                  replace hB := bl_step hB b4
                  replace B11 := B11.below b4
                  replace B10 := B10.below b4
                  clear hHeld
                  refine hK.out _ _ (mk.out _ hB) (fun hHeld => ?_)
                  clear hK K
                  try simp only [Act.put, List.setIfInBounds_toArray, List.set_cons_zero, List.set_cons_succ]
                  refine wpAnyH_ready (rs := [9]) (by kernel_rfl) (by simp) ?_
                  refine AllReadyH.cons rfl (fun K hK => ?_) ?_
                  · go_simp
                    refine (rowI_any _ _ hr3.2.1 hr3.2.2 _).mono ?_
                    rintro e w9 ⟨rfl, b9⟩
                    try go_wp2_with fail
                    replace hB := bl_step hB b9
                    replace B11 := B11.below b9
                    replace B10 := B10.below b9
                    clear hHeld
                    refine hK.out _ _ (mk.out _ hB) (fun hHeld => ?_)
                    clear hK K
                    try simp only [Act.put, List.setIfInBounds_toArray, List.set_cons_zero, List.set_cons_succ]
                    have hne : g10 ≠ g11 := (Ne.symm n11_10)
                    refine wpAnyH_ready (rs := [12]) (by kernel_rfl) (by simp) ?_
                    refine AllReadyH.cons rfl (fun K hK => ?_) AllReadyH.nil
                    obtain ⟨x0, x1, x2, y0, y1, y2⟩ := B10.open3
                    go_simp
                    clear x0 x1 x2 y0 y1 y2 hHeld
                    obtain ⟨X1, hX1⟩ : ∃ X1, ((w9.setCell ⟨g10, 0, none⟩ (.int .i64 (rowf m ((IntKind.i64.wrap ((j : Int) + 1)).tmod 3) 0))).setCell ⟨g10, 1, none⟩ (.int .i64 (rowf m ((IntKind.i64.wrap ((j : Int) + 1)).tmod 3) 1))).setCell ⟨g10, 2, none⟩ (.int .i64 (rowf m ((IntKind.i64.wrap ((j : Int) + 1)).tmod 3) 2)) = X1 := ⟨_, rfl⟩
                    have C10 : At 66 X1 g10 #[.int .i64 (rowf m ((IntKind.i64.wrap ((j : Int) + 1)).tmod 3) 0), .int .i64 (rowf m ((IntKind.i64.wrap ((j : Int) + 1)).tmod 3) 1), .int .i64 (rowf m ((IntKind.i64.wrap ((j : Int) + 1)).tmod 3) 2)] := hX1 ▸ put3e_at B10 _ _ _
                    have C11 : At 66 X1 g11 #[.int .i64 0, .int .i64 0, .int .i64 0] := hX1 ▸ ((B11.setOther (Ne.symm hne) _).setOther (Ne.symm hne) _).setOther (Ne.symm hne) _
                    have hB1 : Below wr.heap.size wr X1 := hX1 ▸ put3e_below hB s10 _ _ _
                    rw [hX1]
                    refine hK.out _ _ (mk.out _ hB1) (fun hHeld => ?_)
                    clear hK K B10 B11 hB hX1
                    try simp only [Act.put, List.setIfInBounds_toArray, List.set_cons_zero, List.set_cons_succ]
                    refine wpAnyH_ready (rs := [13]) (by kernel_rfl) (by simp) ?_
                    refine AllReadyH.cons rfl (fun K hK => ?_) AllReadyH.nil
                    obtain ⟨x0, x1, x2, y0, y1, y2⟩ := C11.open3
                    go_simp
                    clear x0 x1 x2 y0 y1 y2 hHeld
                    obtain ⟨X2, hX2⟩ : ∃ X2, ((X1.setCell ⟨g11, 0, none⟩ (.int .i64 (rowf m ((IntKind.i64.wrap ((j : Int) + 2)).tmod 3) 0))).setCell ⟨g11, 1, none⟩ (.int .i64 (rowf m ((IntKind.i64.wrap ((j : Int) + 2)).tmod 3) 1))).setCell ⟨g11, 2, none⟩ (.int .i64 (rowf m ((IntKind.i64.wrap ((j : Int) + 2)).tmod 3) 2)) = X2 := ⟨_, rfl⟩
                    have D11 : At 66 X2 g11 #[.int .i64 (rowf m ((IntKind.i64.wrap ((j : Int) + 2)).tmod 3) 0), .int .i64 (rowf m ((IntKind.i64.wrap ((j : Int) + 2)).tmod 3) 1), .int .i64 (rowf m ((IntKind.i64.wrap ((j : Int) + 2)).tmod 3) 2)] := hX2 ▸ put3e_at C11 _ _ _
                    have D10 : At 66 X2 g10 #[.int .i64 (rowf m ((IntKind.i64.wrap ((j : Int) + 1)).tmod 3) 0), .int .i64 (rowf m ((IntKind.i64.wrap ((j : Int) + 1)).tmod 3) 1), .int .i64 (rowf m ((IntKind.i64.wrap ((j : Int) + 1)).tmod 3) 2)] := hX2 ▸ ((C10.setOther hne _).setOther hne _).setOther hne _
                    have hB2 : Below wr.heap.size wr X2 := hX2 ▸ put3e_below hB1 s11 _ _ _
                    rw [hX2]
                    refine hK.out _ _ (mk.out _ hB2) (fun hHeld => ?_)
                    clear hK K C10 C11 hB1 hX2 hHeld
                    try simp only [Act.put, List.setIfInBounds_toArray, List.set_cons_zero, List.set_cons_succ]
                    refine wpAnyH_done (by kernel_rfl) ?_ _
                    go_wp2_with fail
                    go_meet
                    case rel => exact ⟨g10, g11, rfl, rfl, ⟨s10, s11, hne⟩, D10, D11, hB2⟩
                  exact AllReadyH.nil
                exact AllReadyH.nil
              exact AllReadyH.nil
            exact AllReadyH.nil
          case rest =>
            obtain ⟨g, h, rfl, rfl, ⟨hg, hh, hgh⟩, ag, ah, bV⟩ := hcut
            have hl1 := a1.lt
            have hl3 := a3.lt
            have hr3 := rem3 j hlj
            replace a1 := a1.below bV
            replace a2 := a2.below bV
            replace a3 := a3.below bV
            replace bW := bW.trans (bV.mono bW.size)
            have cA := ag.cell ((i + 1) % 3) (row_get _ _ _ (rowf m ((IntKind.i64.wrap ((j : Int) + 1)).tmod 3)) rfl rfl rfl _ (Nat.mod_lt _ (by decide)))
            have cC := ag.cell ((i + 2) % 3) (row_get _ _ _ (rowf m ((IntKind.i64.wrap ((j : Int) + 1)).tmod 3)) rfl rfl rfl _ (Nat.mod_lt _ (by decide)))
            have cB := ah.cell ((i + 2) % 3) (row_get _ _ _ (rowf m ((IntKind.i64.wrap ((j : Int) + 2)).tmod 3)) rfl rfl rfl _ (Nat.mod_lt _ (by decide)))
            have cD := ah.cell ((i + 1) % 3) (row_get _ _ _ (rowf m ((IntKind.i64.wrap ((j : Int) + 2)).tmod 3)) rfl rfl rfl _ (Nat.mod_lt _ (by decide)))
            have bA := rowf_bound hm hr3.1.1 hr3.1.2 (Nat.mod_lt (i + 1) (by decide : 3 > 0))
            have bC := rowf_bound hm hr3.1.1 hr3.1.2 (Nat.mod_lt (i + 2) (by decide : 3 > 0))
            have bB := rowf_bound hm hr3.2.1 hr3.2.2 (Nat.mod_lt (i + 2) (by decide : 3 > 0))
            have bD := rowf_bound hm hr3.2.1 hr3.2.2 (Nat.mod_lt (i + 1) (by decide : 3 > 0))
            have hcell := adj_cell m i j hlt hlj
            generalize rowf m ((IntKind.i64.wrap ((j : Int) + 1)).tmod 3) ((i + 1) % 3) = A at cA bA hcell
            generalize rowf m ((IntKind.i64.wrap ((j : Int) + 1)).tmod 3) ((i + 2) % 3) = C at cC bC hcell
            generalize rowf m ((IntKind.i64.wrap ((j : Int) + 2)).tmod 3) ((i + 2) % 3) = B at cB bB hcell
            generalize rowf m ((IntKind.i64.wrap ((j : Int) + 2)).tmod 3) ((i + 1) % 3) = D at cD bD hcell
            have m1 := mul_bound bA bB
            have m2 := mul_bound bC bD
            have HC : Hid (A * B - C * D = adj m (3 * i + j)) := hcell
            have c3 := a3.cell (3 * i + j) (matA_get _ _ (by omega))
            have f3 := a3.frozen (3 * i + j)
            clear ag ah hcell hr3 mk
            have hk9 : 3 * i + j < 9 := by omega
            have hk9' : (3 * (i : Int) + (j : Int)) < 9 := by omega
            go_wp2
            go_region
            all_goals
              go_wp2
              go_roundw
              case rel =>
                refine ⟨j + 1, by omega, by go_num, ?_, ?_, ?_, ?_⟩
                · exact a1.setOther (by omega) _
                · exact a2.setOther (by omega) _
                · have := a3.set (3 * i + j) (.int .i64 (A * B - C * D))
                  rw [HC.out, set_part m _ hk9] at this
                  rw [HC.out]
                  exact this
                · exact (bW.setCell (p := ⟨w.heap.size + 1 + 1, 3 * i + j, none⟩) (by show w.heap.size ≤ w.heap.size + 1 + 1; omega) _).drew
              case measure => simp [intOf]; omega
        · have hlj' : ¬ (j : Int) < 3 := by omega
          obtain rfl : j = 3 := by omega
          go_wp2
          refine ⟨⟨i + 1, by omega, by go_num, a1, a2, ?_, bW⟩, by simp [intOf]; omega⟩
          exact a3
    · have hlt' : ¬ (i : Int) < 3 := by omega
      obtain rfl : i = 3 := by omega
      obtain ⟨⟨r0, r1, r2, r3, r4, r5, r6, r7, r8⟩, -⟩ := a3.open9
      obtain ⟨⟨c0, c1, c2, c3, c4, c5, c6, c7, c8⟩, e0, e1, e2, e3, e4, e5, e6, e7, e8⟩ := a2.open9
      go_wp2
      have hF := put9_at a2 (part m 9)
      obtain ⟨⟨q0, q1, q2, q3, q4, q5, q6, q7, q8⟩, -⟩ := hF.open9
      exact bodyPost_ret (v := .agg (matA (part m 9))) (by simp [results, Tryz.results111, go_sem, q0, q1, q2, q3, q4, q5, q6, q7, q8]; rfl) rfl ⟨by rw [part9]; rfl, put9_below bW (Nat.le_succ _) (part m 9)⟩
end Go.Proofs.YtiocneailhplkaaGreat
