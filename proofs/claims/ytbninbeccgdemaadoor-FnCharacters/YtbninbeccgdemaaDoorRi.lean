/-
  Characters, by the program: walked.
-/
import Derived.Test.YtbninbeccgdemaaDoorRh
namespace Go.Proofs.YtbninbeccgdemaaDoor
open Go.RowKit

theorem make_rows (M : Nat) (hM : M ≤ 12) : ∃ C : Array Value, C.size = M ∧ ∀ w, (Instr.makeSlice 30 (.int .i64 (M : Int)) (.int .i64 (M : Int))).run Tryd.prog w = .ok (.slice (some ⟨w.heap.size, 0, none⟩) M M) (w.alloc (.cells C 34)) := by
  obtain ⟨i0, hi0, hz0, hz1, hz2⟩ := info_parts infoR
  refine ⟨madeCells (Value.slice none 0 0).cells M, by simp [madeCells], fun w => ?_⟩
  have := run_make (P := Tryd.prog) w 30 34 i0 _ Tryd.underlying30 hi0 hz0 .i64 .i64 (M : Int) (M : Int) (by omega) (by omega) (by rw [hz2]; omega) (by omega)
  rw [this, hz1]
  simp
theorem make_row (M : Nat) (hM : M ≤ 12) : ∃ C : Array Value, C.size = M * 4 ∧ ∀ w, (Instr.makeSlice 34 (.int .i64 (M : Int)) (.int .i64 (M : Int))).run Tryd.prog w = .ok (.slice (some ⟨w.heap.size, 0, none⟩) M M) (w.alloc (.cells C 33)) := by
  obtain ⟨i0, hi0, hz0, hz1, hz2⟩ := info_parts infoC
  refine ⟨madeCells (Value.agg #[Value.int IntKind.i64 0, Value.int IntKind.i64 0, Value.int IntKind.i64 0, Value.int IntKind.i64 0]).cells (M * 4), by simp [madeCells], fun w => ?_⟩
  have := run_make (P := Tryd.prog) w 34 33 i0 _ Tryd.underlying34 hi0 hz0 .i64 .i64 (M : Int) (M : Int) (by omega) (by omega) (by rw [hz2]; omega) (by omega)
  rw [this, hz1]
  simp
/-- The list of rows, of which k are laid. -/
def Outs (w : World) (go N k : Nat) (G : Nat → Nat) : Prop := ∃ cur : Array Value, At 34 w go cur ∧ cur.size = N ∧ ∀ i, i < k → cur[i]? = some (.slice (some ⟨G i, 0, none⟩) N N)
theorem Outs.below {w w' : World} {go N k : Nat} {G : Nat → Nat} (h : Outs w go N k G) (hb : Below w.heap.size w w') : Outs w' go N k G := by
  obtain ⟨cur, h1, h2⟩ := h
  exact ⟨cur, h1.below hb, h2⟩
theorem Outs.set {w : World} {go N k g : Nat} {G : Nat → Nat} (h : Outs w go N k G) (hg : go ≠ g) (i : Nat) (v : Value) : Outs (w.setCell ⟨g, i, none⟩ v) go N k G := by
  obtain ⟨cur, h1, h2⟩ := h
  exact ⟨cur, h1.setOther hg v, h2⟩
theorem Outs.lt {w : World} {go N k : Nat} {G : Nat → Nat} (h : Outs w go N k G) : go < w.heap.size := by
  obtain ⟨cur, h1, -⟩ := h
  exact h1.lt
theorem Outs.open {w : World} {go N k : Nat} {G : Nat → Nat} (h : Outs w go N k G) (j : Nat) (hj : j < N) : w.cell? ⟨go, j, none⟩ = some (cv w go j) ∧ w.frozen? ⟨go, j, none⟩ = false := by
  obtain ⟨cur, h1, h2, h3⟩ := h
  have hl : j < cur.size := by omega
  have := h1.cell j (Array.getElem?_eq_getElem hl)
  exact ⟨by rw [cv, this]; rfl, h1.frozen j⟩
theorem Outs.more {w : World} {go N k : Nat} {G : Nat → Nat} (h : Outs w go N k G) (hk : k < N) (g : Nat) : Outs (w.setCell ⟨go, k, none⟩ (.slice (some ⟨g, 0, none⟩) N N)) go N (k + 1) (fun i => if i = k then g else G i) := by
  obtain ⟨cur, h1, h2, h3⟩ := h
  refine ⟨_, h1.set k _, by simpa using h2, fun i hi => ?_⟩
  by_cases e : i = k
  · subst e
    have l0 : i < cur.size := by omega
    simp [l0]
  · rw [Array.getElem?_setIfInBounds, if_neg (by omega), h3 i (by omega)]
    simp [e]
theorem Rows4.set {w : World} {lo n k g : Nat} {G C : Nat → Nat} {F : Nat → Nat → Int} (h : Rows4 w lo n k G C F) (hg : ∀ i, i < k → G i ≠ g) (j : Nat) (v : Value) : Rows4 (w.setCell ⟨g, j, none⟩ v) lo n k G C F := by
  refine ⟨fun i hi => ⟨(h.1 i hi).1, (h.1 i hi).2.1, ?_⟩, h.2⟩
  obtain ⟨cur, h1, h2⟩ := (h.1 i hi).2.2
  exact ⟨cur, h1.setOther (hg i hi) v, h2⟩
theorem tab_set1 {w : World} {q : Nat} (h : Tab w) (hq : 0 < q) (m : Nat) (v : Value) : Tab (w.setCell ⟨q, m, none⟩ v) := by
  have b : Below 1 w (w.setCell ⟨q, m, none⟩ v) := ((Below.refl w.heap.size w).mono h.1).setCell (by show 1 ≤ q; omega) v
  exact ⟨Nat.lt_of_lt_of_le h.1 b.size, fun i hi => (b.cell (p := ⟨0, i, none⟩) (by show 0 < 1; omega)).trans (h.2 i hi)⟩
theorem Tab.set1 {w : World} {q : Nat} (h : Tab w) (hq : 0 < q) (m : Nat) (v : Value) : Tab (w.setCell ⟨q, m, none⟩ v) := tab_set1 h hq m v
/-- Row k's place. -/
def Sk (go k : Nat) (v : Value) (w : World) : Prop := Hid (w.cell? ⟨go, k, none⟩ = some v)
theorem sk_of {w : World} {go N m k g : Nat} {G : Nat → Nat} (h : Outs w go N m G) (hk : k < m) (e : G k = g) : Sk go k (.slice (some ⟨g, 0, none⟩) N N) w := by
  obtain ⟨cur, h1, h2, h3⟩ := h
  subst e
  exact h1.cell k (h3 k hk)
theorem iroot_some (k : Int) (hk : is64 k) (m : Nat) (hm : m < 12) (hkm : k % 12 = (m : Int)) : ∃ R0 R1 R2 R3 : Int, (rp (m * 4 + 0) = R0 ∧ rp (m * 4 + 1) = R1 ∧ rp (m * 4 + 2) = R2 ∧ rp (m * 4 + 3) = R3) ∧ ∀ w, Tab w → Calls Tryd.prog 38 #[.int .i64 k] w fun e w' => e = .returned (cV R0 R1 R2 R3) ∧ Below w.heap.size w w' :=
  ⟨_, _, _, _, ⟨rfl, rfl, rfl, rfl⟩, fun w ht => implRoot_any k hk m hm hkm w ht⟩
theorem rows_next {w : World} {lo n k g : Nat} {G G' : Nat → Nat} {F : Nat → Nat → Int} (h : Rows4 w lo n k G (fun _ => n) F) (h1 : lo ≤ g) (h3 : Laid4 w g n n (F k)) (e1 : G' k = g) (e2 : ∀ i, i < k → G' i = G i) (h4 : ∀ i, i < k → G i ≠ g) : Rows4 w lo n (k + 1) G' (fun _ => n) F := by
  refine ⟨fun i hi => ?_, fun i j hi hj hij => ?_⟩
  · by_cases e : i = k
    · subst e; rw [e1]; exact ⟨h1, Nat.le_refl _, h3⟩
    · rw [e2 i (by omega)]; exact h.1 i (by omega)
  · by_cases e : i = k
    · subst e; rw [e1, e2 j (by omega)]; exact Ne.symm (h4 j (by omega))
    · rw [e2 i (by omega)]
      by_cases e3 : j = k
      · subst e3; rw [e1]; exact h4 i (by omega)
      · rw [e2 j (by omega)]; exact h.2 i j (by omega) (by omega) hij
theorem grid_outs {w : World} {lo go n : Nat} {G : Nat → Nat} {F : Nat → Nat → Int} (ho : Outs w go n n G) (hlo : lo ≤ go) (h : Rows4 w lo n n G (fun _ => n) F) : Grid w lo w.heap.size (.slice (some ⟨go, 0, none⟩) n n) n F := by
  obtain ⟨cur, h1, h2, h3⟩ := ho
  refine ⟨go, n, G, fun _ => n, cur, rfl, ⟨hlo, h1.lt⟩, h1, h3, fun k hk => ?_, h.2⟩
  obtain ⟨p1, p2, p3⟩ := h.1 k hk
  exact ⟨p1, p3.lt, apart_of p3 h1, p2, p3⟩
set_option maxRecDepth 100000 in
set_option maxHeartbeats 3200000 in
theorem implChar_yes {w : World} (n : Int) (N : Nat) (hN : (N : Int) = n) (hside : side n) (ht : Tab w) :
    Calls Tryd.prog 10 #[.int .i64 n] w fun e w' => ∃ v, e = .returned v ∧ Grid w' w.heap.size w'.heap.size v N (cf n) ∧ Below w.heap.size w w' := by
  have hd : decide (side n) = true := decide_eq_true hside
  obtain ⟨q0, -⟩ := side_by hside
  obtain ⟨C, hC, hmk⟩ := make_rows N (by omega)
  obtain ⟨D, hD, hmr⟩ := make_row N (by omega)
  rw [hN] at hmk hmr
  have h0w := ht.1
  have hT : 1 ≤ Int.tdiv 12 n ∧ Int.tdiv 12 n ≤ 12 := by rcases hside with rfl | rfl | rfl | rfl | rfl | rfl <;> decide
  have hcp := fun k j => cp_is n k j
  have CH0 := fun (k j : Nat) (hk : k < N) (hj : j < N) w => char_any n (k : Int) (j : Int) w hside (by omega) (by omega)
  obtain ⟨T, hTT⟩ : ∃ T, Int.tdiv 12 n = T := ⟨_, rfl⟩
  rw [hTT] at hT hcp CH0
  go_enter Tryd.func10, Tryd.ntmps10
  go_wp2_with (go_at_call 37; refine (cyclic_any _ _ (by omega)).mono ?_; rintro e w2 ⟨rfl, rfl⟩; try rw [hd])
  obtain ⟨V, hV, bC, bW, -⟩ := boxed w 34 C
  rw [hV]
  obtain ⟨go, hgo⟩ : ∃ g, w.heap.size = g := ⟨_, rfl⟩
  have hlo : w.heap.size ≤ go := by omega
  have hgo0 : 0 < go := by omega
  rw [hgo] at bC ⊢
  have O : Outs V go N 0 (fun _ => 0) := ⟨C, bC, hC, fun i hi => absurd hi (by omega)⟩
  replace ht := ht.below bW
  clear hV bC hmk
  have hgoh : Hid (w.heap.size = go) := hgo
  clear hgo
  go_loopw [13] (fun s wr => ∃ (k : Nat) (G : Nat → Nat), k ≤ N ∧ s = .int .i64 k ∧ Outs wr go N k G ∧ Rows4 wr w.heap.size N k G (fun _ => N) (cf n) ∧ Tab wr ∧ Below w.heap.size w wr) (fun s _ => N - (intOf s).toNat)
  case atStart => exact ⟨0, _, Nat.zero_le _, rfl, O, ⟨fun i hi => absurd hi (by omega), fun i j hi => absurd hi (by omega)⟩, ht, bW⟩
  case round =>
    clear O ht bW
    obtain ⟨k, G, hk, rfl, O, R, ht, bW⟩ := hrel
    by_cases hlt : k < N
    · have hlt' : (k : Int) < n := by omega
      obtain ⟨x0, x1⟩ := O.open k hlt
      have hgl := O.lt
      go_wp2_with fail
      have hGgo : ∀ i, i < k → G i ≠ go := fun i hi => by
        obtain ⟨cur, h1, -⟩ := O
        exact apart_of (R.1 i hi).2.2 h1
      have hGne0 : ∀ i, i < k → G i < wr.heap.size := fun i hi => (R.1 i hi).2.2.lt
      obtain ⟨W3, hW3⟩ : ∃ W3, wr.setCell ⟨go, k, none⟩ (.slice (some ⟨wr.heap.size, 0, none⟩) N N) = W3 := ⟨_, rfl⟩
      have hs3 : W3.heap.size = wr.heap.size := by rw [← hW3]; simp [World.setCell]
      have O3 : Outs W3 go N (k + 1) (fun i => if i = k then wr.heap.size else G i) := hW3 ▸ O.more hlt wr.heap.size
      have R3 : Rows4 W3 w.heap.size N k G (fun _ => N) (cf n) := hW3 ▸ R.set hGgo _ _
      have ht3 : Tab W3 := hW3 ▸ tab_set1 ht hgo0 _ _
      have bW3 : Below w.heap.size w W3 := hW3 ▸ bW.setCell hlo _
      rw [hW3]
      obtain ⟨V2, hV2, bD, bb, -⟩ := boxed W3 33 D
      rw [hV2]
      rw [hs3] at bD
      have hwg := bW.size
      obtain ⟨g, hg⟩ : ∃ g, wr.heap.size = g := ⟨_, rfl⟩
      rw [hg] at O3 bD hgl hGne0 hwg ⊢
      obtain ⟨G', hG'⟩ : ∃ G' : Nat → Nat, (fun i => if i = k then g else G i) = G' := ⟨_, rfl⟩
      have hGk : G' k = g := by rw [← hG']; simp
      have hGi : ∀ i, i < k → G' i = G i := fun i hi => by rw [← hG']; simp [Nat.ne_of_lt hi]
      rw [hG'] at O3
      have LG : Laid4 V2 g N 0 (cf n k) := ⟨D, bD, hD, fun i hi => absurd hi (by omega)⟩
      replace O3 := O3.below bb
      replace R3 := R3.below bb
      replace ht3 := ht3.below bb
      replace bW3 := bW3.trans (bb.mono bW3.size)
      have hGne : ∀ i, i < k → G i ≠ g := fun i hi => Nat.ne_of_lt (hGne0 i hi)
      have hne : go ≠ g := Nat.ne_of_lt hgl
      have hg0 : 0 < g := by omega
      clear hW3 hV2 bD bb hs3 hg O R ht bW x0 x1 hGne0 hGgo hG'
      go_loopw [22] (fun s wr => ∃ j : Nat, j ≤ N ∧ s = .int .i64 j ∧ Laid4 wr g N j (cf n k) ∧ Outs wr go N (k + 1) G' ∧ Rows4 wr w.heap.size N k G (fun _ => N) (cf n) ∧ Tab wr ∧ Below w.heap.size w wr) (fun s _ => N - (intOf s).toNat)
      case atStart => exact ⟨0, Nat.zero_le _, rfl, LG, O3, R3, ht3, bW3⟩
      case round =>
        clear LG O3 R3 ht3 bW3
        obtain ⟨j, hj, rfl, LG, O, R, ht, bW⟩ := hrel
        by_cases hlj : j < N
        · have hlj' : (j : Int) < n := by omega
          have CH := CH0 k j hlt hlj
          have t1 := prod_le (x := T) (y := (j : Int)) (M := 12) (N := 11) (by omega) (by omega)
          have t2 := prod_le (x := T * (j : Int)) (y := (k : Int)) (M := 132) (N := 11) (by omega) (by omega)
          obtain ⟨R0, R1, R2, R3, ⟨e0, e1, e2, e3⟩, RC⟩ := iroot_some (T * (j : Int) * (k : Int)) ⟨by omega, by omega⟩ (cp n k j) (cp_lt n k j) (hcp k j)
          obtain ⟨x0, x1, x2, x3⟩ := cf_4 n k j
          rw [show cp n k j * 4 + 0 = cp n k j * 4 by omega] at e0
          have hx : cf n k (j * 4) = R0 ∧ cf n k (j * 4 + 1) = R1 ∧ cf n k (j * 4 + 2) = R2 ∧ cf n k (j * 4 + 3) = R3 := ⟨x0.trans e0, x1.trans e1, x2.trans e2, x3.trans e3⟩
          clear e0 e1 e2 e3 x0 x1 x2 x3
          obtain ⟨U, hU⟩ : ∃ U, T * (j : Int) * (k : Int) = U := ⟨_, rfl⟩
          rw [hU] at CH RC t2
          go_wp2_with fail
          obtain ⟨u0, hu0, bb⟩ : ∃ u0, wr.drew = u0 ∧ Below wr.heap.size wr u0 := ⟨_, rfl, (Below.refl _ _).drew⟩
          replace O := O.below bb
          replace LG := LG.below bb
          replace R := R.below bb
          replace ht := ht.below bb
          replace bW := bW.trans (bb.mono bW.size)
          clear bb
          refine wp_region_held_drew (S := Sk go k (.slice (some ⟨g, 0, none⟩) N N)) (by kernel_rfl) (by rw [hu0]; exact sk_of O (by omega) hGk) (fun hHeld => ?_)
          rw [hu0] at hHeld ⊢
          clear hu0
          change wpAnyH _ _ _ _ _ 12 #[false, false, false, false, false, false, false, false, false, false, false, false] _ _
          refine wpAnyH_take (i := 0) (v := .slice (some ⟨go, 0, none⟩) N N) rfl (by kernel_rfl) (by kernel_rfl) (by kernel_rfl) (fun _ _ _ h => h) (Or.inl ⟨by kernel_rfl, ?_⟩) hHeld ?_
          · intro w' hSw; go_simp
          try simp only [Act.put, List.setIfInBounds_toArray, List.set_cons_zero, List.set_cons_succ, List.getElem_toArray, List.getElem_cons_zero]
          refine wpAnyH_take (i := 1) (v := .int .i64 (k : Int)) rfl (by kernel_rfl) (by kernel_rfl) (by kernel_rfl) (fun _ _ _ h => h) (Or.inl ⟨by kernel_rfl, ?_⟩) hHeld ?_
          · intro w' hSw; go_simp
          try simp only [Act.put, List.setIfInBounds_toArray, List.set_cons_zero, List.set_cons_succ, List.getElem_toArray, List.getElem_cons_succ, List.getElem_cons_zero]
          refine wpAnyH_take (i := 2) (v := .pointer (some ⟨go, k, none⟩)) rfl (by kernel_rfl) (by kernel_rfl) (by kernel_rfl) (fun _ _ _ h => h) (Or.inl ⟨by kernel_rfl, ?_⟩) hHeld ?_
          · intro w' hSw; go_simp
          try simp only [Act.put, List.setIfInBounds_toArray, List.set_cons_zero, List.set_cons_succ, List.getElem_toArray, List.getElem_cons_succ, List.getElem_cons_zero]
          refine wpAnyH_take (i := 3) (v := .slice (some ⟨g, 0, none⟩) N N) rfl (by kernel_rfl) (by kernel_rfl) (by kernel_rfl) (fun _ _ _ h => h) (Or.inl ⟨by kernel_rfl, ?_⟩) hHeld ?_
          · intro w' hSw; have z0 := hSw.out; go_simp
          try simp only [Act.put, List.setIfInBounds_toArray, List.set_cons_zero, List.set_cons_succ, List.getElem_toArray, List.getElem_cons_succ, List.getElem_cons_zero]
          refine wpAnyH_take (i := 4) (v := .int .i64 (j : Int)) rfl (by kernel_rfl) (by kernel_rfl) (by kernel_rfl) (fun _ _ _ h => h) (Or.inl ⟨by kernel_rfl, ?_⟩) hHeld ?_
          · intro w' hSw; go_simp
          try simp only [Act.put, List.setIfInBounds_toArray, List.set_cons_zero, List.set_cons_succ, List.getElem_toArray, List.getElem_cons_succ, List.getElem_cons_zero]
          refine wpAnyH_take (i := 5) (v := .int .i64 n) rfl (by kernel_rfl) (by kernel_rfl) (by kernel_rfl) (fun _ _ _ h => h) (Or.inl ⟨by kernel_rfl, ?_⟩) hHeld ?_
          · intro w' hSw; go_simp
          try simp only [Act.put, List.setIfInBounds_toArray, List.set_cons_zero, List.set_cons_succ, List.getElem_toArray, List.getElem_cons_succ, List.getElem_cons_zero]
          refine wpAnyH_take (i := 6) (v := .int .i64 (k : Int)) rfl (by kernel_rfl) (by kernel_rfl) (by kernel_rfl) (fun _ _ _ h => h) (Or.inl ⟨by kernel_rfl, ?_⟩) hHeld ?_
          · intro w' hSw; go_simp
          try simp only [Act.put, List.setIfInBounds_toArray, List.set_cons_zero, List.set_cons_succ, List.getElem_toArray, List.getElem_cons_succ, List.getElem_cons_zero]
          refine wpAnyH_take (i := 7) (v := .int .i64 (j : Int)) rfl (by kernel_rfl) (by kernel_rfl) (by kernel_rfl) (fun _ _ _ h => h) (Or.inl ⟨by kernel_rfl, ?_⟩) hHeld ?_
          · intro w' hSw; go_simp
          try simp only [Act.put, List.setIfInBounds_toArray, List.set_cons_zero, List.set_cons_succ, List.getElem_toArray, List.getElem_cons_succ, List.getElem_cons_zero]
          refine wpAnyH_ready (rs := [8]) (by kernel_rfl) (by simp) ?_
          refine AllReadyH.cons rfl (fun KK hK' => ?_) AllReadyH.nil
          go_simp
          refine (CH _).mono ?_
          rintro e u1 ⟨rfl, rfl⟩
          try go_wp2_with fail
          clear hHeld
          refine hK'.out _ _ (sk_of O (by omega) hGk) (fun hHeld => ?_)
          clear hK' KK
          try simp only [List.setIfInBounds_toArray, List.set_cons_zero, List.set_cons_succ]
          refine wpAnyH_ready (rs := [9]) (by kernel_rfl) (by simp) ?_
          refine AllReadyH.cons rfl (fun KK hK' => ?_) AllReadyH.nil
          go_simp
          refine (RC _ ht).mono ?_
          rintro e u2 ⟨rfl, bb⟩
          replace O := O.below bb
          replace LG := LG.below bb
          replace R := R.below bb
          replace ht := ht.below bb
          replace bW := bW.trans (bb.mono bW.size)
          clear bb
          try go_wp2_with fail
          clear hHeld
          refine hK'.out _ _ (sk_of O (by omega) hGk) (fun hHeld => ?_)
          clear hK' KK
          try simp only [List.setIfInBounds_toArray, List.set_cons_zero, List.set_cons_succ]
          refine wpAnyH_take (i := 10) (v := .pointer (some ⟨g, j * 4, none⟩)) rfl (by kernel_rfl) (by kernel_rfl) (by kernel_rfl) (fun _ _ _ h => h) (Or.inl ⟨by kernel_rfl, ?_⟩) hHeld ?_
          · intro w' hSw; go_simp
          try simp only [Act.put, List.setIfInBounds_toArray, List.set_cons_zero, List.set_cons_succ, List.getElem_toArray, List.getElem_cons_succ, List.getElem_cons_zero]
          obtain ⟨d0, f0⟩ := LG.cells (j := j * 4) (by omega)
          obtain ⟨d1, f1⟩ := LG.cells (j := j * 4 + 1) (by omega)
          obtain ⟨d2, f2⟩ := LG.cells (j := j * 4 + 2) (by omega)
          obtain ⟨d3, f3⟩ := LG.cells (j := j * 4 + 3) (by omega)
          refine wpAnyH_ready (rs := [11]) (by kernel_rfl) (by simp) ?_
          refine AllReadyH.cons rfl (fun KK hK' => ?_) AllReadyH.nil
          go_simp
          obtain ⟨u3, hu3⟩ : ∃ u3, (((u2.setCell ⟨g, j * 4, none⟩ (.int .i64 R0)).setCell ⟨g, j * 4 + 1, none⟩ (.int .i64 R1)).setCell ⟨g, j * 4 + 2, none⟩ (.int .i64 R2)).setCell ⟨g, j * 4 + 3, none⟩ (.int .i64 R3) = u3 := ⟨_, rfl⟩
          rw [hu3]
          have LG3 : Laid4 u3 g N (j + 1) (cf n k) := by have := LG.put.resolve_right (by omega); rw [hx.1, hx.2.1, hx.2.2.1, hx.2.2.2, hu3] at this; exact this
          have O3 : Outs u3 go N (k + 1) G' := hu3 ▸ (((O.set hne _ _).set hne _ _).set hne _ _).set hne _ _
          have R3' : Rows4 u3 w.heap.size N k G (fun _ => N) (cf n) := hu3 ▸ (((R.set hGne _ _).set hGne _ _).set hGne _ _).set hGne _ _
          have ht3 : Tab u3 := hu3 ▸ (((tab_set1 ht hg0 _ _).set1 hg0 _ _).set1 hg0 _ _).set1 hg0 _ _
          have bW3 : Below w.heap.size w u3 := hu3 ▸ ((((bW.setCell (show w.heap.size ≤ g by omega) _).setCell (show w.heap.size ≤ g by omega) _).setCell (show w.heap.size ≤ g by omega) _).setCell (show w.heap.size ≤ g by omega) _)
          clear hu3 d0 d1 d2 d3 f0 f1 f2 f3 O LG R ht bW
          clear hHeld
          refine hK'.out _ _ (sk_of O3 (by omega) hGk) (fun hHeld => ?_)
          clear hK' KK
          try simp only [List.setIfInBounds_toArray, List.set_cons_zero, List.set_cons_succ]
          refine wpAnyH_done (by kernel_rfl) ?_ _
          clear hHeld
          go_wp2
          exact ⟨⟨j + 1, by omega, by go_num, LG3, O3, R3', ht3, bW3⟩, by simp [intOf]; omega⟩
        · have hlj' : ¬ (j : Int) < n := by omega
          obtain rfl : j = N := by omega
          have R9 : Hid (Rows4 wr w.heap.size j (k + 1) G' (fun _ => j) (cf n)) := rows_next R hwg LG hGk hGi hGne
          go_wp2
          exact ⟨⟨k + 1, G', by omega, by go_num, O, R9.out, ht, bW⟩, by simp [intOf]; omega⟩
    · have hlt' : ¬ (k : Int) < n := by omega
      obtain rfl : k = N := by omega
      have hG : Hid (Grid wr w.heap.size wr.heap.size (.slice (some ⟨go, 0, none⟩) k k) k (cf n)) := grid_outs O hlo R
      go_wp2
      exact bodyPost_ret (v := .slice (some ⟨go, 0, none⟩) k k) (by simp [results, Tryd.results10, go_sem]) rfl ⟨_, rfl, hG.out, bW⟩
end Go.Proofs.YtbninbeccgdemaaDoor
