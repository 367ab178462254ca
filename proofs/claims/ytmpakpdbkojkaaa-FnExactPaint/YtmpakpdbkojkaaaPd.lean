/-
  Atoms painted on a map, by the specification: walked.
-/
import Derived.Test.YtmpakpdbkojkaaaPb
namespace Go.Proofs.Ytmpakpdbkojkaaa
open Go.RowKit

/-- Where an atom lies. -/
def pl (n x y z : Int) : Int := (z * n / 12 * n + y * n / 12) * n + x * n / 12
/-- What the map holds when k atoms are painted. -/
def pf (n : Int) (f : Nat → Int) : Nat → Nat → Int
  | 0, _ => 0
  | k + 1, j => if (j : Int) = pl n (f (k * 4)) (f (k * 4 + 1)) (f (k * 4 + 2)) then (pf n f k j + f (k * 4 + 3)) % 12289 else pf n f k j
theorem pf_by (n : Int) (f : Nat → Int) (k j : Nat) : 0 ≤ pf n f k j ∧ pf n f k j ≤ 12288 := by
  induction k with
  | zero => exact ⟨Int.le_refl _, by show (0 : Int) ≤ 12288; omega⟩
  | succ k ih =>
    unfold pf
    split
    · omega
    · exact ih
/-- Does atom i lie on a place? -/
def fits3 (n : Int) (f : Nat → Int) (i : Nat) : Prop := fit n (f (i * 4)) ∧ fit n (f (i * 4 + 1)) ∧ fit n (f (i * 4 + 2))
theorem Made.upd {w : World} {g L : Nat} {f : Nat → Int} (h : Made w g L L f) (j : Nat) (v : Int) : Made (w.setCell ⟨g, j, none⟩ (.int .i64 v)) g L L (fun i => if i = j then v else f i) := by
  obtain ⟨cur, h1, h2, h3⟩ := h
  refine ⟨_, h1.set j _, by simpa using h2, fun i hi => ?_⟩
  by_cases e : i = j
  · subst e
    have l0 : i < cur.size := by omega
    simp [l0]
  · rw [Array.getElem?_setIfInBounds, if_neg (by omega)]
    show cur[i]? = some (.int .i64 (if i = j then v else f i))
    rw [if_neg e]
    exact h3 i hi
theorem Made.below {w w' : World} {g n k : Nat} {f : Nat → Int} (h : Made w g n k f) (hb : Below w.heap.size w w') : Made w' g n k f := by
  obtain ⟨cur, h1, h2⟩ := h
  exact ⟨cur, h1.below hb, h2⟩
theorem Made.congr {w : World} {g n k : Nat} {f f' : Nat → Int} (h : Made w g n k f) (e : ∀ i, i < k → f i = f' i) : Made w g n k f' := by
  obtain ⟨cur, h1, h2, h3⟩ := h
  exact ⟨cur, h1, h2, fun i hi => by rw [← e i hi]; exact h3 i hi⟩
theorem Made.at_ {w : World} {g L : Nat} {f : Nat → Int} (h : Made w g L L f) (j : Nat) (hj : j < L) : w.cell? ⟨g, j, none⟩ = some (.int .i64 (f j)) := by
  obtain ⟨cur, h1, h2, h3⟩ := h
  exact h1.cell j (h3 j hj)
theorem Made.fr_ {w : World} {g L : Nat} {f : Nat → Int} (h : Made w g L L f) (j : Nat) : w.frozen? ⟨g, j, none⟩ = false := by
  obtain ⟨cur, h1, h2, h3⟩ := h
  exact h1.frozen j
theorem Quads.set {w : World} {g n p i : Nat} {f : Nat → Int} (h : Quads w g n f) (hq : g ≠ p) (v : Value) : Quads (w.setCell ⟨p, i, none⟩ v) g n f :=
  ⟨by simpa [World.setCell] using h.1, fun j hj => (World.cell?_of_block (w := w) (Below.heap_setCell _ _ _ _ hq)).trans (h.2 j hj)⟩
theorem put2_at {t : TypeId} {w : World} {q : Nat} {u0 u1 : Value} (h : At t w q #[u0, u1]) (v0 v1 : Value) : At t ((w.setCell ⟨q, 0, none⟩ v0).setCell ⟨q, 1, none⟩ v1) q #[v0, v1] := by
  simpa using (h.set 0 v0).set 1 v1
/-- What the last step reads. -/
def Sg (qo qa : Nat) (v : Value) (F : Int) (w : World) : Prop := w.cell? ⟨qo, 1, none⟩ = some v ∧ w.cell? ⟨qa, 3, none⟩ = some (.int .i64 F)
theorem sg_of {s t : TypeId} {w : World} {qo qa : Nat} {u v x y z : Value} {F : Int} (h1 : At s w qo #[u, v]) (h2 : At t w qa #[x, y, z, .int .i64 F]) : Sg qo qa v F w := ⟨h1.cell 1 rfl, h2.cell 3 rfl⟩
set_option maxRecDepth 100000 in
set_option maxHeartbeats 3200000 in
theorem specPaint_any {w : World} {g cnt c : Nat} {f : Nat → Int} (n : Int) (hq : Quads w g cnt f) (hn : side n) (ha : AOk cnt f) :
    Calls Try.prog 20 #[.slice (some ⟨g, 0, none⟩) cnt c, .int .i64 n] w fun e w' => ∃ m, e = .returned m ∧ (((∀ i, i < cnt → fits3 n f i) ∧ MapAt w' w.heap.size w'.heap.size m n (cube n) (pf n f cnt)) ∨ (¬ (∀ i, i < cnt → fits3 n f i) ∧ MapAt w' w.heap.size w'.heap.size m 0 0 (fun _ => 0))) ∧ Below w.heap.size w w' := by
  have hside := decide_eq_true hn
  obtain ⟨W, hW, b0, bW, -⟩ := boxed w 41 #[.int .i64 0, .slice none 0 0]
  have hc : cnt ≤ 1048576 := by have := ha.1; omega
  go_enter Try.func20, Try.ntmps20
  go_wp2_with fail
  refine (side_any _ _).mono ?_
  rintro e w1 ⟨rfl, rfl⟩
  rw [hside]
  go_wp2_with fail
  refine (specAtoms_any (hq.below bW) hc true (by simp [ha])).mono ?_
  rintro e w1 ⟨rfl, b1⟩
  replace b0 := b0.below b1
  replace bW := bW.trans (b1.mono bW.size)
  clear b1 hW hside
  go_wp2_with fail
  refine (new_map n hn _).mono ?_
  rintro e w2 ⟨go, rfl, lg, M, b2⟩
  have l0 := Nat.lt_of_lt_of_le b0.lt lg
  replace b0 := b0.below b2
  replace bW := bW.trans (b2.mono bW.size)
  clear b2
  obtain ⟨V, hV, bo, bV, -⟩ := boxed w2 41 #[.int .i64 n, .slice (some ⟨go, 0, none⟩) (cube n) (cube n)]
  have lo := M.lt
  replace b0 := b0.below bV
  replace M := M.below bV
  replace bW := bW.trans (bV.mono bW.size)
  go_wp2_with fail
  obtain ⟨qo, hqo⟩ : ∃ q, w2.heap.size = q := ⟨_, rfl⟩
  rw [hqo] at bo lo ⊢
  clear hV bV hqo
  have Q : Quads V g cnt f := hq.below bW
  have lgw : g < w.heap.size := hq.1
  clear hq
  go_loopw [6] (fun s wr => ∃ k : Nat, k ≤ cnt ∧ s = .int .i64 k ∧ (∀ i, i < k → fits3 n f i) ∧ At 41 wr w.heap.size #[.int .i64 0, .slice none 0 0] ∧ At 41 wr qo #[.int .i64 n, .slice (some ⟨go, 0, none⟩) (cube n) (cube n)] ∧ Made wr go (cube n) (cube n) (pf n f k) ∧ Quads wr g cnt f ∧ Below w.heap.size w wr) (fun s _ => cnt - (intOf s).toNat)
  case atStart => exact ⟨0, Nat.zero_le _, rfl, fun i hi => absurd hi (by omega), b0, bo, M, Q, bW⟩
  case round =>
    clear b0 bo M Q bW
    obtain ⟨k, hk, rfl, hfit, b0, bo, M, Q, bW⟩ := hrel
    by_cases hlt : k < cnt
    · have hlt' : (k : Int) < (cnt : Int) := by omega
      obtain ⟨⟨X0, X1⟩, ⟨Y0, Y1⟩, ⟨Z0, Z1⟩, F0, F1⟩ := aOk_in (ha.2 k hlt)
      obtain ⟨g0, g1, g2, g3⟩ := Q.open k hlt
      have hnext : ∀ j, pf n f (k + 1) j = if (j : Int) = pl n (f (k * 4)) (f (k * 4 + 1)) (f (k * 4 + 2)) then (pf n f k j + f (k * 4 + 3)) % 12289 else pf n f k j := fun j => rfl
      have hf3 : fits3 n f k ↔ fit n (f (k * 4)) ∧ fit n (f (k * 4 + 1)) ∧ fit n (f (k * 4 + 2)) := Iff.rfl
      obtain ⟨x, ex⟩ : ∃ x, f (k * 4) = x := ⟨_, rfl⟩
      obtain ⟨y, ey⟩ : ∃ x, f (k * 4 + 1) = x := ⟨_, rfl⟩
      obtain ⟨z, ez⟩ : ∃ x, f (k * 4 + 2) = x := ⟨_, rfl⟩
      obtain ⟨F, eF⟩ : ∃ x, f (k * 4 + 3) = x := ⟨_, rfl⟩
      rw [ex] at X0 X1 g0 hnext hf3
      rw [ey] at Y0 Y1 g1 hnext hf3
      rw [ez] at Z0 Z1 g2 hnext hf3
      rw [eF] at F0 F1 g3 hnext
      clear ex ey ez eF
      obtain ⟨V1, hV1, ba, bb, -⟩ := boxed wr 81 #[.int .i64 x, .int .i64 y, .int .i64 z, .int .i64 F]
      have lgo := M.lt
      have lqo := bo.lt
      have lg := Q.1
      replace b0 := b0.below bb
      replace bo := bo.below bb
      replace M := M.below bb
      replace Q := Q.below bb
      replace bW := bW.trans (bb.mono bW.size)
      obtain ⟨-, -, rX, mX⟩ := fit_iff hn ⟨X0, X1⟩
      obtain ⟨-, -, rY, mY⟩ := fit_iff hn ⟨Y0, Y1⟩
      obtain ⟨-, -, rZ, mZ⟩ := fit_iff hn ⟨Z0, Z1⟩
      obtain ⟨p1, p2, p3⟩ := place_by hn rX rY rZ
      have hpl : pl n x y z = (z * n / 12 * n + y * n / 12) * n + x * n / 12 := rfl
      unfold fit at hf3
      obtain ⟨x1, ex⟩ : ∃ t, x * n = t := ⟨_, rfl⟩
      obtain ⟨y1, ey⟩ : ∃ t, y * n = t := ⟨_, rfl⟩
      obtain ⟨z1, ez⟩ : ∃ t, z * n = t := ⟨_, rfl⟩
      rw [ex] at rX mX p3 hpl hf3
      rw [ey] at rY mY p2 p3 hpl hf3
      rw [ez] at rZ mZ p1 p2 p3 hpl hf3
      obtain ⟨c1, c2, c3⟩ := cube_is hn
      obtain ⟨u0, u1, u2, u3, -⟩ := ba.open4
      by_cases hx : x1 % 12 = 0
      · have gx : (x1 % 12 != 0) = false := by simp [hx]
        by_cases hy : y1 % 12 = 0
        · have gy : (y1 % 12 != 0) = false := by simp [hy]
          by_cases hz : z1 % 12 = 0
          · have gz : (z1 % 12 != 0) = false := by simp [hz]
            have hok : fits3 n f k := hf3.2 ⟨hx, hy, hz⟩
            obtain ⟨X, eX⟩ : ∃ t, x1 / 12 = t := ⟨_, rfl⟩
            obtain ⟨Y, eY⟩ : ∃ t, y1 / 12 = t := ⟨_, rfl⟩
            obtain ⟨Z, eZ⟩ : ∃ t, z1 / 12 = t := ⟨_, rfl⟩
            rw [eX] at rX p3 hpl
            rw [eY] at rY p2 p3 hpl
            rw [eZ] at rZ p1 p2 p3 hpl
            clear hx hy hz hf3
            obtain ⟨q0, q1, q2⟩ := side_by hn
            go_wp2_with fail
            obtain ⟨j, hj⟩ : ∃ j : Nat, (Z * n + Y) * n + X = (j : Int) := ⟨((Z * n + Y) * n + X).toNat, by omega⟩
            rw [hj] at p3 hpl ⊢
            obtain ⟨qa, hqa⟩ : ∃ q, wr.heap.size = q := ⟨_, rfl⟩
            rw [hqa] at ba lgo lqo lg ⊢
            clear hV1 bb hqa u0 u1 u2 u3 g0 g1 g2 g3 ex ey ez eX eY eZ gx gy gz hj p1 p2
            have hj' : j < cube n := by omega
            obtain ⟨P, hP⟩ : ∃ P, pf n f k j = P := ⟨_, rfl⟩
            have P0 := pf_by n f k j
            rw [hP] at P0
            have wP : IntKind.i64.wrap (P + F) = P + F := by rw [IntKind.wrap_i64]; omega
            obtain ⟨u0, hu0, bb⟩ : ∃ u0, V1.drew = u0 ∧ Below V1.heap.size V1 u0 := ⟨_, rfl, (Below.refl _ _).drew⟩
            replace b0 := b0.below bb
            replace bo := bo.below bb
            replace M := M.below bb
            replace Q := Q.below bb
            replace ba := ba.below bb
            replace bW := bW.trans (bb.mono bW.size)
            clear bb
            refine wp_region_held_drew (S := Sg qo qa (.slice (some ⟨go, 0, none⟩) (cube n) (cube n)) F) (by kernel_rfl) (by rw [hu0]; exact sg_of bo ba) (fun hHeld => ?_)
            rw [hu0] at hHeld ⊢
            clear hu0
            change wpAnyH _ _ _ _ _ 14 #[false, false, false, false, false, false, false, false, false, false, false, false, false, false] _ _
            refine wpAnyH_take (i := 0) (v := .pointer (some ⟨qo, 1, none⟩)) rfl (by kernel_rfl) (by kernel_rfl) (by kernel_rfl) (fun _ _ _ h => h) (Or.inl ⟨by kernel_rfl, ?_⟩) hHeld ?_
            · intro w' hSw; go_simp
            try simp only [Act.put, List.setIfInBounds_toArray, List.set_cons_zero, List.set_cons_succ, List.getElem_toArray, List.getElem_cons_zero]
            refine wpAnyH_take (i := 1) (v := .slice (some ⟨go, 0, none⟩) (cube n) (cube n)) rfl (by kernel_rfl) (by kernel_rfl) (by kernel_rfl) (fun _ _ _ h => h) (Or.inl ⟨by kernel_rfl, ?_⟩) hHeld ?_
            · intro w' hSw; obtain ⟨z0, z1⟩ := hSw; go_simp
            try simp only [Act.put, List.setIfInBounds_toArray, List.set_cons_zero, List.set_cons_succ, List.getElem_toArray, List.getElem_cons_succ, List.getElem_cons_zero]
            refine wpAnyH_take (i := 2) (v := .int .i64 (j : Int)) rfl (by kernel_rfl) (by kernel_rfl) (by kernel_rfl) (fun _ _ _ h => h) (Or.inl ⟨by kernel_rfl, ?_⟩) hHeld ?_
            · intro w' hSw; go_simp
            try simp only [Act.put, List.setIfInBounds_toArray, List.set_cons_zero, List.set_cons_succ, List.getElem_toArray, List.getElem_cons_succ, List.getElem_cons_zero]
            refine wpAnyH_take (i := 3) (v := .pointer (some ⟨qo, 1, none⟩)) rfl (by kernel_rfl) (by kernel_rfl) (by kernel_rfl) (fun _ _ _ h => h) (Or.inl ⟨by kernel_rfl, ?_⟩) hHeld ?_
            · intro w' hSw; go_simp
            try simp only [Act.put, List.setIfInBounds_toArray, List.set_cons_zero, List.set_cons_succ, List.getElem_toArray, List.getElem_cons_succ, List.getElem_cons_zero]
            refine wpAnyH_take (i := 4) (v := .slice (some ⟨go, 0, none⟩) (cube n) (cube n)) rfl (by kernel_rfl) (by kernel_rfl) (by kernel_rfl) (fun _ _ _ h => h) (Or.inl ⟨by kernel_rfl, ?_⟩) hHeld ?_
            · intro w' hSw; obtain ⟨z0, z1⟩ := hSw; go_simp
            try simp only [Act.put, List.setIfInBounds_toArray, List.set_cons_zero, List.set_cons_succ, List.getElem_toArray, List.getElem_cons_succ, List.getElem_cons_zero]
            refine wpAnyH_take (i := 5) (v := .int .i64 (j : Int)) rfl (by kernel_rfl) (by kernel_rfl) (by kernel_rfl) (fun _ _ _ h => h) (Or.inl ⟨by kernel_rfl, ?_⟩) hHeld ?_
            · intro w' hSw; go_simp
            try simp only [Act.put, List.setIfInBounds_toArray, List.set_cons_zero, List.set_cons_succ, List.getElem_toArray, List.getElem_cons_succ, List.getElem_cons_zero]
            refine wpAnyH_take (i := 6) (v := .pointer (some ⟨go, j, none⟩)) rfl (by kernel_rfl) (by kernel_rfl) (by kernel_rfl) (fun _ _ _ h => h) (Or.inl ⟨by kernel_rfl, ?_⟩) hHeld ?_
            · intro w' hSw; go_simp
            try simp only [Act.put, List.setIfInBounds_toArray, List.set_cons_zero, List.set_cons_succ, List.getElem_toArray, List.getElem_cons_succ, List.getElem_cons_zero]
            refine wpAnyH_take (i := 8) (v := .pointer (some ⟨qa, 3, none⟩)) rfl (by kernel_rfl) (by kernel_rfl) (by kernel_rfl) (fun _ _ _ h => h) (Or.inl ⟨by kernel_rfl, ?_⟩) hHeld ?_
            · intro w' hSw; go_simp
            try simp only [Act.put, List.setIfInBounds_toArray, List.set_cons_zero, List.set_cons_succ, List.getElem_toArray, List.getElem_cons_succ, List.getElem_cons_zero]
            refine wpAnyH_take (i := 9) (v := .int .i64 F) rfl (by kernel_rfl) (by kernel_rfl) (by kernel_rfl) (fun _ _ _ h => h) (Or.inl ⟨by kernel_rfl, ?_⟩) hHeld ?_
            · intro w' hSw; obtain ⟨z0, z1⟩ := hSw; go_simp
            try simp only [Act.put, List.setIfInBounds_toArray, List.set_cons_zero, List.set_cons_succ, List.getElem_toArray, List.getElem_cons_succ, List.getElem_cons_zero]
            have cj := M.at_ j hj'
            rw [hP] at cj
            refine wpAnyH_ready (rs := [7]) (by kernel_rfl) (by simp) ?_
            refine AllReadyH.cons rfl (fun KK hK' => ?_) AllReadyH.nil
            go_simp
            clear cj
            clear hHeld
            refine hK'.out _ _ (sg_of bo ba) (fun hHeld => ?_)
            clear hK' KK
            try simp only [List.setIfInBounds_toArray, List.set_cons_zero, List.set_cons_succ]
            refine wpAnyH_take (i := 10) (v := .int .i64 (P + F)) rfl (by kernel_rfl) (by kernel_rfl) (by kernel_rfl) (fun _ _ _ h => h) (Or.inl ⟨by kernel_rfl, ?_⟩) hHeld ?_
            · intro w' hSw; go_simp
            try simp only [Act.put, List.setIfInBounds_toArray, List.set_cons_zero, List.set_cons_succ, List.getElem_toArray, List.getElem_cons_succ, List.getElem_cons_zero]
            refine wpAnyH_ready (rs := [11]) (by kernel_rfl) (by simp) ?_
            refine AllReadyH.cons rfl (fun KK hK' => ?_) AllReadyH.nil
            go_simp
            refine (smod_any (P + F) 12289 _ ⟨by omega, by omega⟩ (by omega)).mono ?_
            rintro e u1 ⟨rfl, rfl⟩
            try go_wp2_with fail
            clear hHeld
            refine hK'.out _ _ (sg_of bo ba) (fun hHeld => ?_)
            clear hK' KK
            try simp only [List.setIfInBounds_toArray, List.set_cons_zero, List.set_cons_succ]
            refine wpAnyH_take (i := 12) (v := .pointer (some ⟨go, j, none⟩)) rfl (by kernel_rfl) (by kernel_rfl) (by kernel_rfl) (fun _ _ _ h => h) (Or.inl ⟨by kernel_rfl, ?_⟩) hHeld ?_
            · intro w' hSw; go_simp
            try simp only [Act.put, List.setIfInBounds_toArray, List.set_cons_zero, List.set_cons_succ, List.getElem_toArray, List.getElem_cons_succ, List.getElem_cons_zero]
            have cj := M.at_ j hj'
            rw [hP] at cj
            have fj := M.fr_ j
            refine wpAnyH_ready (rs := [13]) (by kernel_rfl) (by simp) ?_
            refine AllReadyH.cons rfl (fun KK hK' => ?_) AllReadyH.nil
            go_simp
            obtain ⟨u2, hu2, b02, bo2, M2, Q2, ba2, bW2⟩ : ∃ u2, u0.setCell ⟨go, j, none⟩ (.int .i64 ((P + F) % 12289)) = u2 ∧ At 41 u2 w.heap.size #[.int .i64 0, .slice none 0 0] ∧ At 41 u2 qo #[.int .i64 n, .slice (some ⟨go, 0, none⟩) (cube n) (cube n)] ∧ Made u2 go (cube n) (cube n) (fun i => if i = j then (P + F) % 12289 else pf n f k i) ∧ Quads u2 g cnt f ∧ At 81 u2 qa #[.int .i64 x, .int .i64 y, .int .i64 z, .int .i64 F] ∧ Below w.heap.size w u2 := ⟨_, rfl, b0.setOther (by omega) _, bo.setOther (by omega) _, M.upd j _, Q.set (by omega) _, ba.setOther (by omega) _, bW.setCell (show w.heap.size ≤ go by omega) _⟩
            rw [hu2]
            clear hu2 cj fj b0 bo M Q ba bW
            clear hHeld
            refine hK'.out _ _ (sg_of bo2 ba2) (fun hHeld => ?_)
            clear hK' KK
            try simp only [List.setIfInBounds_toArray, List.set_cons_zero, List.set_cons_succ]
            refine wpAnyH_done (by kernel_rfl) ?_ _
            clear hHeld
            go_wp2
            refine ⟨⟨k + 1, by omega, by go_num, ?_, b02, bo2, M2.congr ?_, Q2, bW2⟩, by simp [intOf]; omega⟩
            · intro i hi
              by_cases e : i = k
              · rw [e]; exact hok
              · exact hfit i (by omega)
            · intro i hi
              rw [hnext i, hpl]
              by_cases e : i = j
              · subst e; rw [if_pos rfl, if_pos rfl, hP]
              · rw [if_neg e, if_neg (by omega)]
          · have gz : (z1 % 12 != 0) = true := by simp [hz]
            have hno : ¬ ∀ i, i < cnt → fits3 n f i := fun h => by have := hf3.1 (h k hlt); omega
            clear hf3
            obtain ⟨d0, d1, f0, f1⟩ := b0.open2
            go_wp2
            obtain ⟨y0, y1, -⟩ := (put2_at b0 (.int .i64 0) (.slice none 0 0)).open2
            exact bodyPost_ret (v := mV 0 (.slice none 0 0)) (by simp [results, Try.results20, go_sem, y0, y1]) rfl ⟨_, rfl, .inr ⟨hno, ⟨_, rfl, .inl ⟨rfl, rfl⟩⟩⟩, (bW.setCell (Nat.le_refl _) _).setCell (Nat.le_refl _) _⟩
        · have gy : (y1 % 12 != 0) = true := by simp [hy]
          have hno : ¬ ∀ i, i < cnt → fits3 n f i := fun h => by have := hf3.1 (h k hlt); omega
          clear hf3
          obtain ⟨d0, d1, f0, f1⟩ := b0.open2
          go_wp2
          obtain ⟨y0, y1, -⟩ := (put2_at b0 (.int .i64 0) (.slice none 0 0)).open2
          exact bodyPost_ret (v := mV 0 (.slice none 0 0)) (by simp [results, Try.results20, go_sem, y0, y1]) rfl ⟨_, rfl, .inr ⟨hno, ⟨_, rfl, .inl ⟨rfl, rfl⟩⟩⟩, (bW.setCell (Nat.le_refl _) _).setCell (Nat.le_refl _) _⟩
      · have gx : (x1 % 12 != 0) = true := by simp [hx]
        have hno : ¬ ∀ i, i < cnt → fits3 n f i := fun h => by have := hf3.1 (h k hlt); omega
        clear hf3
        obtain ⟨d0, d1, f0, f1⟩ := b0.open2
        go_wp2
        obtain ⟨y0, y1, -⟩ := (put2_at b0 (.int .i64 0) (.slice none 0 0)).open2
        exact bodyPost_ret (v := mV 0 (.slice none 0 0)) (by simp [results, Try.results20, go_sem, y0, y1]) rfl ⟨_, rfl, .inr ⟨hno, ⟨_, rfl, .inl ⟨rfl, rfl⟩⟩⟩, (bW.setCell (Nat.le_refl _) _).setCell (Nat.le_refl _) _⟩
    · have hlt' : ¬ (k : Int) < (cnt : Int) := by omega
      obtain rfl : k = cnt := by omega
      obtain ⟨d0, d1, f0, f1⟩ := b0.open2
      obtain ⟨e0, e1, -⟩ := bo.open2
      go_wp2
      obtain ⟨y0, y1, -⟩ := (put2_at b0 (.int .i64 n) (.slice (some ⟨go, 0, none⟩) (cube n) (cube n))).open2
      have M2 : Made ((wr.setCell ⟨w.heap.size, 0, none⟩ (.int .i64 n)).setCell ⟨w.heap.size, 1, none⟩ (.slice (some ⟨go, 0, none⟩) (cube n) (cube n))) go (cube n) (cube n) (pf n f k) := Made.setOther (Made.setOther M (by omega) _) (by omega) _
      exact bodyPost_ret (v := mV n (.slice (some ⟨go, 0, none⟩) (cube n) (cube n))) (by simp [results, Try.results20, go_sem, y0, y1]) rfl ⟨_, rfl, .inl ⟨hfit, ⟨_, rfl, arr_of_own M2 (by omega)⟩⟩, (bW.setCell (Nat.le_refl _) _).setCell (Nat.le_refl _) _⟩
end Go.Proofs.Ytmpakpdbkojkaaa
