/-
  Texts, items and data marked, and the marks held: walked.
-/
import Derived.Test.YtdhfoekfejcceaaC16a
namespace Go.Proofs.Ytdhfoekfejcceaa
open Go.RowKit

/-- The text of a mark. -/
def mtL (k : Nat) (out : List UInt8) : List UInt8 := if h : k = 0 then out else mtL (k / 10) (UInt8.ofNat (48 + k % 10) :: out)
termination_by k
decreasing_by omega
theorem mtL_0 (out : List UInt8) : mtL 0 out = out := by rw [mtL]; simp
theorem mtL_s {k : Nat} (h : k ≠ 0) (out : List UInt8) : mtL k out = mtL (k / 10) (UInt8.ofNat (48 + k % 10) :: out) := by rw [mtL]; simp [h]
def mt (k : Nat) : ByteArray := ⟨(109 :: mtL k []).toArray⟩
theorem conv1 {w : World} {g : Nat} {x : UInt8} {y : Int} (h : At 5 w g #[.int .u8 y]) (hy : y = (x.toNat : Int)) : (convert 55 9 (.slice (some ⟨g, 0, none⟩) 1 1)).run Try.prog w = .ok (.string ⟨#[x]⟩) w := by
  subst hy
  have := run_convert_bytes_back (P := Try.prog) w 55 9 5 ⟨g, 0, none⟩ 1 [x] Try.underlying55 Try.underlying5 Try.underlying9 fun j hj => ?_
  · simpa using this
  · obtain rfl : j = 0 := by simp at hj; exact hj
    have := h.cell 0 rfl
    simpa [Addr.add] using this
theorem ba_app (x : UInt8) (L : List UInt8) : (⟨#[x]⟩ : ByteArray) ++ ⟨L.toArray⟩ = ⟨(x :: L).toArray⟩ := by
  refine ByteArray.ext ?_
  simp
set_option maxRecDepth 100000 in
set_option maxHeartbeats 1600000 in
theorem markText_any (k : Nat) (w : World) (h0 : 0 < k) (hk : k ≤ 100000000000000) : Calls Try.prog 37 #[.int .i64 (k : Int)] w fun e w' => e = .returned (.string (mt k)) ∧ Below w.heap.size w w' := by
  have h0' : ¬ (k : Int) ≤ 0 := by omega
  go_enter Try.func37, Try.ntmps37
  go_wp2
  go_loopw [0, 3] (fun t u wr => ∃ (m : Nat) (L : List UInt8), L.length + m ≤ k ∧ mtL m L = mtL k [] ∧ t = .int .i64 (m : Int) ∧ u = .string ⟨L.toArray⟩ ∧ Below w.heap.size w wr) (fun t _ _ => (intOf t).toNat)
  case atStart => exact ⟨k, [], by simp, rfl, rfl, rfl, Below.refl _ _⟩
  case round =>
    obtain ⟨m, L, hm, hL, rfl, rfl, B⟩ := hrel
    have HL : Hid (mtL m L = mtL k []) := hL
    clear hL
    have hov : ¬ 9223372036854775807 < 1 + L.length := by omega
    by_cases hm0 : 0 < m
    · have hm0' : (0 : Int) < (m : Int) := by omega
      obtain ⟨x, hx⟩ : ∃ x : UInt8, UInt8.ofNat (48 + m % 10) = x := ⟨_, rfl⟩
      have hxn : x.toNat = 48 + m % 10 := by rw [← hx, UInt8.toNat_ofNat']; omega
      obtain ⟨V1, hV1, A1, bb, -⟩ := boxed wr 5 #[.int .u8 (48 + (m : Int) % 10)]
      obtain ⟨q1, hq1⟩ : ∃ q, wr.heap.size = q := ⟨_, rfl⟩
      rw [hq1] at A1
      have cv := conv1 (x := x) A1 (by omega)
      have HL2 : Hid (mtL (m / 10) (x :: L) = mtL k []) := by show _ = _; rw [← HL.out, mtL_s (k := m) (by omega) L, hx]
      replace B := B.trans (bb.mono B.size)
      have hap := ba_app x L
      clear hx hxn HL A1 bb
      go_wp2
      refine ⟨⟨m / 10, x :: L, by simp; omega, HL2.out, by simp, rfl, B⟩, by simp [intOf]; omega⟩
    · have hm0' : ¬ (0 : Int) < (m : Int) := by omega
      obtain rfl : m = 0 := by omega
      have HM : Hid (mt k = ⟨(109 :: L).toArray⟩) := by show mt k = _; unfold mt; rw [← HL.out, mtL_0]
      have hap := ba_app 109 L
      clear HL
      go_wp2
      go_ret
      exact ⟨by rw [HM.out]; rfl, B⟩
theorem Turn.put {lo hi q i : Nat} {w w' : World} (h : Turn lo hi w w') (h1 : lo ≤ q) (h2 : q < hi) (v : Value) : Turn lo hi w (w'.setCell ⟨q, i, none⟩ v) :=
  ⟨h.os, h.tape, h.output, by simpa [World.setCell] using h.size, fun k hk hd => (Below.heap_setCell _ _ _ _ (by show k ≠ q; omega)).trans (h.block k hk hd)⟩
/-- Marks x, x + 1 .. -/
def mks (x : Nat) (i : Nat) : ByteArray := mt (x + i)
set_option maxRecDepth 100000 in
set_option maxHeartbeats 1600000 in
theorem markS_any {w : World} {g n c lo hi : Nat} {f : Nat → ByteArray} (hM : MadeS w g c 0 f) (hc : n ≤ c) (hn : n ≤ 1048576) (h1 : lo ≤ g) (h2 : g < hi) (x : Nat) (hx0 : 0 < x) (hx : x ≤ 10000000000000) :
    Calls Try.prog 17 #[.slice (some ⟨g, 0, none⟩) n c, .int .i64 (x : Int)] w fun e w' => e = .returned (.int .i64 ((x + n : Nat) : Int)) ∧ MadeS w' g c n (mks x) ∧ Turn lo hi w w' := by
  have hn' : (n : Int) ≤ 1048576 := by omega
  have M0 : MadeS w g c 0 (mks x) := by
    obtain ⟨cur, k1, k2, -⟩ := hM
    exact ⟨cur, k1, k2, fun i hi => by omega⟩
  clear hM
  go_enter Try.func17, Try.ntmps17
  go_wp2
  go_loopw [1, 5] (fun t u wr => ∃ k : Nat, k ≤ n ∧ t = .int .i64 ((x + k : Nat) : Int) ∧ u = .int .i64 (k : Int) ∧ MadeS wr g c k (mks x) ∧ Turn lo hi w wr) (fun _ u _ => n - (intOf u).toNat)
  case atStart => exact ⟨0, Nat.zero_le _, rfl, rfl, M0, Turn.of_below (Below.refl _ _)⟩
  case round =>
    clear M0
    obtain ⟨k, hk, rfl, rfl, M, T⟩ := hrel
    obtain ⟨X, hX⟩ : ∃ X, x + k = X := ⟨_, rfl⟩
    have HX : Hid (x + k = X) := hX
    rw [hX]
    by_cases hlt : k < n
    · have hlt' : (k : Int) < (n : Int) := by omega
      have MT := fun w => markText_any X w (by omega) (by omega)
      have hXb : (X : Int) ≤ 20000000000000 := by omega
      clear hX
      go_wp2_with fail
      refine (MT _).mono ?_
      rintro e w2 ⟨rfl, b2⟩
      replace M := M.below b2
      replace T := T.trans (Turn.of_below b2)
      obtain ⟨z0, y0⟩ := M.open (show k < c by omega)
      have M2 := M.set (show k < c by omega)
      rw [show mks x k = mt X by unfold mks; rw [HX.out]] at M2
      have T2 := T.put (i := k) h1 h2 (.string (mt X))
      have HE : Hid (((x + (k + 1) : Nat) : Int) = (X : Int) + 1) := by show _ = _; have := HX.out; omega
      clear M T MT b2
      go_wp2
      exact ⟨⟨k + 1, by omega, by rw [HE.out], by go_num, M2, T2⟩, by simp [intOf]; omega⟩
    · have hlt' : ¬ (k : Int) < (n : Int) := by omega
      obtain rfl : k = n := by omega
      go_wp2
      go_ret
      exact ⟨rfl, M, T⟩
set_option maxRecDepth 100000 in
set_option maxHeartbeats 1600000 in
theorem heldS_any {w : World} {g n c : Nat} (hM : Strs w g 0 n (mks 1)) (hg : g < w.heap.size) (hn : n ≤ 1048576) :
    Calls Try.prog 18 #[.slice (some ⟨g, 0, none⟩) n c, .int .i64 1] w fun e w' => e = .returned (.int .i64 ((1 + n : Nat) : Int)) ∧ Below w.heap.size w w' := by
  have hn' : (n : Int) ≤ 1048576 := by omega
  have HM : Hid (Strs w g 0 n (mks 1)) := hM
  clear hM
  go_enter Try.func18, Try.ntmps18
  go_wp2
  go_loopw [1, 5] (fun t u wr => ∃ k : Nat, k ≤ n ∧ t = .int .i64 ((1 + k : Nat) : Int) ∧ u = .int .i64 (k : Int) ∧ Below w.heap.size w wr) (fun _ u _ => n - (intOf u).toNat)
  case atStart => exact ⟨0, Nat.zero_le _, rfl, rfl, Below.refl _ _⟩
  case round =>
    obtain ⟨k, hk, rfl, rfl, B⟩ := hrel
    obtain ⟨X, hX⟩ : ∃ X, 1 + k = X := ⟨_, rfl⟩
    have HX : Hid (1 + k = X) := hX
    rw [hX]
    by_cases hlt : k < n
    · have hlt' : (k : Int) < (n : Int) := by omega
      have MT := fun w => markText_any X w (by omega) (by omega)
      have hXb : (X : Int) ≤ 20000000000000 := by omega
      have HE : Hid (((1 + (k + 1) : Nat) : Int) = (X : Int) + 1) := by show _ = _; omega
      clear hX
      go_wp2_with fail
      obtain ⟨u0, hu0, bb⟩ : ∃ uu, wr.drew = uu ∧ Below wr.heap.size wr uu := ⟨_, rfl, (Below.refl _ _).drew⟩
      replace B := B.trans (bb.mono B.size)
      have L1 : ∀ w', Kb u0 w' → w'.cell? ⟨g, k, none⟩ = some (.string (mt X)) := fun w' hh => by have z := ((B.trans (Below.mono hh B.size)).cell (p := ⟨g, 0 + k, none⟩) hg).trans (HM.out k hlt); rw [Nat.zero_add] at z; unfold mks at z; rw [HX.out] at z; exact z
      have hne := bne_self_eq_false (mt X).toList
      clear bb
      refine wp_region_held_drew (S := Kb u0) (by kernel_rfl) (by rw [hu0]; exact Below.refl _ _) (fun hHeld => ?_)
      rw [hu0] at hHeld ⊢
      clear hu0
      have bu : Kb u0 u0 := Below.refl _ _
      change wpAnyH _ _ _ _ _ 7 #[false, false, false, false, false, false, false] _ _
      refine wpAnyH_take (i := 0) (v := .slice ((some ⟨g, 0, none⟩)) n c) rfl (by kernel_rfl) (by kernel_rfl) (by kernel_rfl) (fun _ _ _ h => h) (Or.inl ⟨by kernel_rfl, ?_⟩) hHeld ?_
      · intro w' hSw; go_simp
      try simp only [Act.put, List.setIfInBounds_toArray, List.set_cons_zero, List.set_cons_succ, List.getElem_toArray, List.getElem_cons_zero]
      refine wpAnyH_take (i := 1) (v := .int .i64 ((k : Int))) rfl (by kernel_rfl) (by kernel_rfl) (by kernel_rfl) (fun _ _ _ h => h) (Or.inl ⟨by kernel_rfl, ?_⟩) hHeld ?_
      · intro w' hSw; go_simp
      try simp only [Act.put, List.setIfInBounds_toArray, List.set_cons_zero, List.set_cons_succ, List.getElem_toArray, List.getElem_cons_succ, List.getElem_cons_zero]
      refine wpAnyH_take (i := 2) (v := .pointer (some ⟨g, k, none⟩)) rfl (by kernel_rfl) (by kernel_rfl) (by kernel_rfl) (fun _ _ _ h => h) (Or.inl ⟨by kernel_rfl, ?_⟩) hHeld ?_
      · intro w' hSw; go_simp
      try simp only [Act.put, List.setIfInBounds_toArray, List.set_cons_zero, List.set_cons_succ, List.getElem_toArray, List.getElem_cons_succ, List.getElem_cons_zero]
      refine wpAnyH_take (i := 3) (v := .string (mt X)) rfl (by kernel_rfl) (by kernel_rfl) (by kernel_rfl) (fun _ _ _ h => h) (Or.inl ⟨by kernel_rfl, ?_⟩) hHeld ?_
      · intro w' hSw; have z0 := L1 _ hSw; go_simp
      try simp only [Act.put, List.setIfInBounds_toArray, List.set_cons_zero, List.set_cons_succ, List.getElem_toArray, List.getElem_cons_succ, List.getElem_cons_zero]
      refine wpAnyH_take (i := 4) (v := .int .i64 ((X : Int))) rfl (by kernel_rfl) (by kernel_rfl) (by kernel_rfl) (fun _ _ _ h => h) (Or.inl ⟨by kernel_rfl, ?_⟩) hHeld ?_
      · intro w' hSw; go_simp
      try simp only [Act.put, List.setIfInBounds_toArray, List.set_cons_zero, List.set_cons_succ, List.getElem_toArray, List.getElem_cons_succ, List.getElem_cons_zero]
      refine wpAnyH_ready (rs := [5]) (by kernel_rfl) (by simp) ?_
      refine AllReadyH.cons rfl (fun KK hK' => ?_) AllReadyH.nil
      go_simp
      refine (MT _).mono ?_
      rintro e u1 ⟨rfl, bb⟩
      replace B := B.trans (bb.mono B.size)
      replace bu : Kb u0 u1 := bu.trans (bb.mono bu.size)
      clear bb
      try go_wp2_with fail
      clear hHeld
      refine hK'.out _ _ (bu) (fun hHeld => ?_)
      clear hK' KK
      try simp only [List.setIfInBounds_toArray, List.set_cons_zero, List.set_cons_succ]
      refine wpAnyH_take (i := 6) (v := .bool false) rfl (by kernel_rfl) (by kernel_rfl) (by kernel_rfl) (fun _ _ _ h => h) (Or.inl ⟨by kernel_rfl, ?_⟩) hHeld ?_
      · intro w' hSw; go_simp
      try simp only [Act.put, List.setIfInBounds_toArray, List.set_cons_zero, List.set_cons_succ, List.getElem_toArray, List.getElem_cons_succ, List.getElem_cons_zero]
      refine wpAnyH_done (by kernel_rfl) ?_ _
      clear hHeld
      go_wp2
      exact ⟨⟨k + 1, by omega, by rw [HE.out], by go_num, B⟩, by simp [intOf]; omega⟩
    · have hlt' : ¬ (k : Int) < (n : Int) := by omega
      obtain rfl : k = n := by omega
      go_wp2
      go_ret
      exact ⟨rfl, B⟩
/-- The shape of a list of items: what its marks need. -/
structure ItH (w : World) (g N lo hi : Nat) (vb : Nat → Nat) (n : Nat → Nat) : Prop where
  blk : ∃ cur : Array Value, At 46 w g cur ∧ cur.size = N * 3 ∧ ∀ i, i < N → cur[i * 3 + 1]? = some (.slice (some ⟨vb i, 0, none⟩) (n i) (n i))
  own : ∀ i, i < N → (g ≠ vb i ∧ lo ≤ vb i ∧ vb i < hi) ∧ MadeS w (vb i) (n i) 0 (fun _ => ByteArray.empty)
theorem ItO.shape {w : World} {g N lo hi : Nat} {vb : Nat → Nat} {nm : Nat → ByteArray} {n : Nat → Nat} {rw : Nat → Int} {f : Nat → Nat → ByteArray} (h : ItO w g N N vb nm n rw f) (h1 : lo ≤ g) (h2 : w.heap.size ≤ hi) : ItH w g N lo hi vb n := by
  obtain ⟨⟨cur, a1, a2, a3⟩, b, -⟩ := h
  refine ⟨⟨cur, a1, a2, fun i hi => (a3 i hi).2.1⟩, fun i hi => ?_⟩
  obtain ⟨k1, k2⟩ := b i hi
  have k3 := k2.lt
  obtain ⟨cr, e1, e2, -⟩ := k2
  exact ⟨⟨by omega, by omega, by omega⟩, cr, e1, e2, fun i hi => by omega⟩
theorem ItH.below {w w' : World} {g N lo hi : Nat} {vb : Nat → Nat} {n : Nat → Nat} (h : ItH w g N lo hi vb n) (hb : Below w.heap.size w w') : ItH w' g N lo hi vb n := by
  obtain ⟨⟨cur, a1, a2⟩, b⟩ := h
  exact ⟨⟨cur, a1.below hb, a2⟩, fun i hi => ⟨(b i hi).1, (b i hi).2.below hb⟩⟩
theorem ItH.cell {w : World} {g N lo hi : Nat} {vb : Nat → Nat} {n : Nat → Nat} (h : ItH w g N lo hi vb n) {i : Nat} (hi : i < N) : w.cell? ⟨g, i * 3 + 1, none⟩ = some (.slice (some ⟨vb i, 0, none⟩) (n i) (n i)) := by
  obtain ⟨cur, h1, h2, h3⟩ := h.blk
  exact h1.cell _ (h3 i hi)
theorem ItH.any {w : World} {g N lo hi j : Nat} {vb : Nat → Nat} {n : Nat → Nat} (h : ItH w g N lo hi vb n) (hj : j < N * 3) : w.cell? ⟨g, j, none⟩ = some (cv w g j) ∧ w.frozen? ⟨g, j, none⟩ = false := by
  obtain ⟨cur, h1, h2, h3⟩ := h.blk
  have hl : j < cur.size := by omega
  have := h1.cell j (Array.getElem?_eq_getElem hl)
  exact ⟨by rw [cv, this]; rfl, h1.frozen j⟩
theorem ItH.put {w : World} {g N lo hi j : Nat} {vb : Nat → Nat} {n : Nat → Nat} (h : ItH w g N lo hi vb n) (hj : ∀ i, j ≠ i * 3 + 1) (v : Value) : ItH (w.setCell ⟨g, j, none⟩ v) g N lo hi vb n := by
  obtain ⟨⟨cur, a1, a2, a3⟩, b⟩ := h
  refine ⟨⟨_, a1.set j v, by simpa using a2, fun i hi => ?_⟩, fun i hi => ⟨(b i hi).1, (b i hi).2.setOther (fun e => (b i hi).1.1 e.symm) v⟩⟩
  rw [Array.getElem?_setIfInBounds, if_neg (hj i)]
  exact a3 i hi
/-- Where one list of values alone has turned, and keeps its shape. -/
theorem ItH.mark {w w' : World} {g N lo hi k : Nat} {vb : Nat → Nat} {n : Nat → Nat} {f : Nat → ByteArray} {m : Nat} (h : ItH w g N lo hi vb n) (hk : k < N) (ht : Turn (vb k) (vb k + 1) w w') (hM : MadeS w' (vb k) (n k) m f) : ItH w' g N lo hi vb n := by
  obtain ⟨⟨cur, a1, a2⟩, b⟩ := h
  refine ⟨⟨cur, (ht.block g a1.lt (by have := (b k hk).1.1; omega)).trans a1, a2⟩, fun i hi => ⟨(b i hi).1, ?_⟩⟩
  obtain ⟨cr, e1, e2, -⟩ := (b i hi).2
  by_cases e : vb i = vb k
  · obtain ⟨cr', d1, d2, -⟩ := hM
    obtain ⟨ck, g1, g2, -⟩ := (b k hk).2
    rw [e] at e1 ⊢
    have e3 : cr = ck := by
      have h5 := e1.symm.trans g1
      cases h5
      rfl
    exact ⟨cr', d1, by rw [d2, ← g2, ← e3, e2], fun i hi => by omega⟩
  · exact ⟨cr, (ht.block (vb i) e1.lt (by omega)).trans e1, e2, fun i hi => by omega⟩
theorem Turn.wide {lo hi lo' hi' : Nat} {w w' : World} (h : Turn lo hi w w') (h1 : lo' ≤ lo) (h2 : hi ≤ hi') : Turn lo' hi' w w' := ⟨h.os, h.tape, h.output, h.size, fun k hk hd => h.block k hk (by omega)⟩
set_option maxRecDepth 100000 in
set_option maxHeartbeats 3200000 in
theorem markI_any {w : World} {g N lo hi : Nat} {vb : Nat → Nat} {n : Nat → Nat} (H : ItH w g N lo hi vb n) (hN : N ≤ 1048576) (hn : ∀ i, i < N → n i ≤ 1048576) (h1 : lo ≤ g) (h2 : g < hi) :
    Calls Try.prog 35 #[.slice (some ⟨g, 0, none⟩) N N, .int .i64 1] w fun e w' => ∃ r : Nat, e = .returned (.int .i64 (r : Int)) ∧ 0 < r ∧ r ≤ 10000000000000 ∧ Turn lo hi w w' := by
  have hN' : (N : Int) ≤ 1048576 := by omega
  go_enter Try.func35, Try.ntmps35
  go_wp2
  go_loopw [1, 5] (fun t u wr => ∃ i r : Nat, i ≤ N ∧ t = .int .i64 (r : Int) ∧ u = .int .i64 (i : Int) ∧ 0 < r ∧ r ≤ 1 + i * 1048578 ∧ ItH wr g N lo hi vb n ∧ Turn lo hi w wr) (fun _ u _ => N - (intOf u).toNat)
  case atStart => exact ⟨0, 1, Nat.zero_le _, rfl, rfl, by omega, by omega, H, Turn.of_below (Below.refl _ _)⟩
  case round =>
    clear H
    obtain ⟨i, r, hi', rfl, rfl, hr0, hr1, H, T⟩ := hrel
    by_cases hlt : i < N
    · have hlt' : (i : Int) < (N : Int) := by omega
      have hni := hn i hlt
      have MT := fun w => markText_any r w hr0 (by omega)
      have hrb : (r : Int) ≤ 2000000000000 := by omega
      go_wp2_with fail
      refine (MT _).mono ?_
      rintro e w2 ⟨rfl, b2⟩
      replace H := H.below b2
      replace T := T.trans (Turn.of_below b2)
      clear b2 MT
      obtain ⟨z0, y0⟩ := H.any (j := i * 3) (by omega)
      replace H := H.put (j := i * 3) (by intro k; omega) (.string (mt r))
      replace T := T.put (i := i * 3) h1 h2 (.string (mt r))
      obtain ⟨W3, hW3⟩ : ∃ W, w2.setCell ⟨g, i * 3, none⟩ (.string (mt r)) = W := ⟨_, rfl⟩
      rw [hW3] at H T
      have c1 := H.cell hlt
      obtain ⟨R1, hR1⟩ : ∃ R1, r + 1 = R1 := ⟨_, rfl⟩
      have e1 : (r : Int) + 1 = (R1 : Int) := by omega
      have MS := markS_any (H.own i hlt).2 (Nat.le_refl _) hni (Nat.le_refl (vb i)) (Nat.lt_succ_self _) R1 (by omega) (by omega)
      have HR1 : Hid (r + 1 = R1) := hR1
      clear hR1
      go_wp2_with fail
      refine MS.mono ?_
      rintro e w4 ⟨rfl, M4, T4⟩
      replace H := H.mark hlt T4 M4
      replace T := T.trans (T4.wide (H.own i hlt).1.2.1 (H.own i hlt).1.2.2)
      clear T4 M4 MS c1 hW3 z0 y0
      obtain ⟨K, hK⟩ : ∃ K, R1 + n i = K := ⟨_, rfl⟩
      rw [hK]
      have hKb : (K : Int) ≤ 3000000000000 := by have := HR1.out; omega
      obtain ⟨z0, y0⟩ := H.any (j := i * 3 + 2) (by omega)
      replace H := H.put (j := i * 3 + 2) (by intro k; omega) (.int .i64 (K : Int))
      replace T := T.put (i := i * 3 + 2) h1 h2 (.int .i64 (K : Int))
      obtain ⟨W5, hW5⟩ : ∃ W, w4.setCell ⟨g, i * 3 + 2, none⟩ (.int .i64 (K : Int)) = W := ⟨_, rfl⟩
      rw [hW5] at H T
      have HK : Hid (K + 1 ≤ 1 + (i + 1) * 1048578) := by show _ ≤ _; have := HR1.out; omega
      clear hK e1 hrb hr1
      go_wp2
      exact ⟨⟨i + 1, K + 1, by omega, by go_num, by go_num, by omega, HK.out, H, T⟩, by simp [intOf]; omega⟩
    · have hlt' : ¬ (i : Int) < (N : Int) := by omega
      obtain rfl : i = N := by omega
      go_wp2
      go_ret
      exact ⟨r, rfl, hr0, by omega, T⟩
set_option maxRecDepth 100000 in
set_option maxHeartbeats 1600000 in
theorem markInts_any {w : World} {g n lo hi : Nat} {f : Nat → Int} (hM : Own w g n f) (hn : n ≤ 1048576) (h1 : lo ≤ g) (h2 : g < hi) (x : Nat) (hx : x ≤ 20000000000000) :
    Calls Try.prog 36 #[.slice (some ⟨g, 0, none⟩) n n, .int .i64 (x : Int)] w fun e w' => e = .returned (.int .i64 ((x + n : Nat) : Int)) ∧ Turn lo hi w w' := by
  have hn' : (n : Int) ≤ 1048576 := by omega
  have M0 : Made w g n 0 (fun i => ((x + i : Nat) : Int)) := by
    obtain ⟨cur, k1, k2, -⟩ := hM
    exact ⟨cur, k1, k2, fun i hi => by omega⟩
  clear hM
  go_enter Try.func36, Try.ntmps36
  go_wp2
  go_loopw [1, 5] (fun t u wr => ∃ k : Nat, k ≤ n ∧ t = .int .i64 ((x + k : Nat) : Int) ∧ u = .int .i64 (k : Int) ∧ Made wr g n k (fun i => ((x + i : Nat) : Int)) ∧ Turn lo hi w wr) (fun _ u _ => n - (intOf u).toNat)
  case atStart => exact ⟨0, Nat.zero_le _, rfl, rfl, M0, Turn.of_below (Below.refl _ _)⟩
  case round =>
    clear M0
    obtain ⟨k, hk, rfl, rfl, M, T⟩ := hrel
    by_cases hlt : k < n
    · have hlt' : (k : Int) < (n : Int) := by omega
      obtain ⟨z0, y0⟩ := M.open hlt
      have M2 := M.set hlt
      obtain ⟨X, hX⟩ : ∃ X, x + k = X := ⟨_, rfl⟩
      have HE : Hid (((x + (k + 1) : Nat) : Int) = (X : Int) + 1) := by show _ = _; omega
      have hXb : (X : Int) ≤ 30000000000000 := by omega
      rw [hX] at M2 ⊢
      have T2 := T.put (i := k) h1 h2 (.int .i64 (X : Int))
      obtain ⟨W3, hW3⟩ : ∃ W, wr.setCell ⟨g, k, none⟩ (.int .i64 (X : Int)) = W := ⟨_, rfl⟩
      rw [hW3] at M2 T2
      clear M T hX
      go_wp2
      exact ⟨⟨k + 1, by omega, by rw [HE.out], by go_num, M2, T2⟩, by simp [intOf]; omega⟩
    · have hlt' : ¬ (k : Int) < (n : Int) := by omega
      obtain rfl : k = n := by omega
      go_wp2
      go_ret
      exact ⟨rfl, T⟩
set_option maxRecDepth 100000 in
set_option maxHeartbeats 1600000 in
theorem markD_any {w : World} {g N h M lo hi : Nat} {s : ByteArray} {vb : Nat → Nat} {nm : Nat → ByteArray} {n : Nat → Nat} {rw : Nat → Int} {f : Nat → Nat → ByteArray} {lp : Nat → Int} (D : DaO w g N h M vb nm n rw f lp) (hN : N ≤ 1048576) (hn : ∀ i, i < N → n i ≤ 1048576) (hM : M ≤ 1048576) (h1 : lo ≤ g) (h2 : h < hi) :
    Calls Try.prog 16 #[dV s g N h M, .int .i64 1] w fun e w' => ∃ r : Int, e = .returned (.int .i64 r) ∧ 0 ≤ r ∧ Turn lo hi w w' := by
  unfold dV
  obtain ⟨W1, hW1, a1, b1, -⟩ := boxed w 30 #[.string s, .slice (some ⟨g, 0, none⟩) N N, .slice (some ⟨h, 0, none⟩) M M]
  obtain ⟨q1, hq1⟩ : ∃ q, w.heap.size = q := ⟨_, rfl⟩
  have hhq : h < q1 := by rw [← hq1]; exact Made.lt D.lo
  rw [hq1] at a1
  have gh := D.gh
  have H : ItH W1 g N lo h vb n := by
    refine ⟨((D.it.below b1).shape (lo := lo) (hi := W1.heap.size) h1 (Nat.le_refl _)).blk, fun i hi => ?_⟩
    have := ((D.it.below b1).shape (lo := lo) (hi := W1.heap.size) h1 (Nat.le_refl _)).own i hi
    exact ⟨⟨this.1.1, this.1.2.1, D.vh i hi⟩, this.2⟩
  replace D := D.below b1
  have T1 : Turn lo hi w W1 := Turn.of_below b1
  obtain ⟨c0, c1, c2, -⟩ := a1.open3
  go_enter Try.func16, Try.ntmps16
  go_wp2_with fail
  refine (markI_any H hN hn h1 gh).mono ?_
  rintro e w2 ⟨r, rfl, r0, r1, T2⟩
  have L2 : Own w2 h M lp := by
    obtain ⟨cur, k1, k2⟩ := D.lo
    exact ⟨cur, (T2.block h k1.lt (.inr (Nat.le_refl _))).trans k1, k2⟩
  replace a1 := a1.turn T2 (.inr (by omega))
  replace T1 := T1.trans (T2.wide (Nat.le_refl _) (by omega))
  clear c0 c1 c2 H D T2 hW1 hq1 b1
  obtain ⟨c0, c1, c2, -⟩ := a1.open3
  go_wp2_with fail
  refine (markInts_any L2 hM (Nat.le_trans h1 (Nat.le_of_lt gh)) h2 r (by omega)).mono ?_
  rintro e w3 ⟨rfl, T3⟩
  replace T1 := T1.trans T3
  clear c0 c1 c2 L2 T3 a1
  obtain ⟨K, hK⟩ : ∃ K, r + M = K := ⟨_, rfl⟩
  rw [hK]
  go_wp2
  go_ret
  exact ⟨_, rfl, by omega, T1⟩
end Go.Proofs.Ytdhfoekfejcceaa
