/-
  Lists of texts compared, marked, and the marks held: walked.
-/
import Derived.Test.YtnkmiljnilmicaaGu
namespace Go.Proofs.Ytnkmiljnilmicaa
open Go.RowKit

abbrev Kb (u w : World) : Prop := Below u.heap.size u w
def Strs (w : World) (b o n : Nat) (f : Nat → ByteArray) : Prop := ∀ i, i < n → w.cell? ⟨b, o + i, none⟩ = some (.string (f i))
/-- The list of texts that is being made. -/
def MadeS (w : World) (g n k : Nat) (f : Nat → ByteArray) : Prop :=
  ∃ cur : Array Value, At 9 w g cur ∧ cur.size = n ∧ ∀ i, i < k → cur[i]? = some (.string (f i))
theorem MadeS.open {w : World} {g n k : Nat} {f : Nat → ByteArray} (h : MadeS w g n k f) (hk : k < n) : w.cell? ⟨g, k, none⟩ = some (cv w g k) ∧ w.frozen? ⟨g, k, none⟩ = false := by
  obtain ⟨cur, h1, h2, h3⟩ := h
  have l0 : k < cur.size := by omega
  have := h1.cell k (Array.getElem?_eq_getElem l0)
  exact ⟨by simp [cv, this], h1.frozen k⟩
theorem MadeS.set {w : World} {g n k : Nat} {f : Nat → ByteArray} (h : MadeS w g n k f) (hk : k < n) : MadeS (w.setCell ⟨g, k, none⟩ (.string (f k))) g n (k + 1) f := by
  obtain ⟨cur, h1, h2, h3⟩ := h
  refine ⟨_, h1.set k _, by simpa using h2, fun i hi => ?_⟩
  by_cases e : i = k
  · subst e
    have l0 : i < cur.size := by omega
    simp [l0]
  · have := h3 i (by omega)
    rw [Array.getElem?_setIfInBounds, if_neg (by omega)]
    exact this
theorem MadeS.strs {w : World} {g n : Nat} {f : Nat → ByteArray} (h : MadeS w g n n f) : Strs w g 0 n f := by
  obtain ⟨cur, h1, h2, h3⟩ := h
  intro i hi
  rw [Nat.zero_add]
  exact h1.cell i (h3 i hi)
theorem MadeS.lt {w : World} {g n k : Nat} {f : Nat → ByteArray} (h : MadeS w g n k f) : g < w.heap.size := by
  obtain ⟨cur, h1, -⟩ := h
  exact h1.lt
theorem MadeS.below {w w' : World} {g n k : Nat} {f : Nat → ByteArray} (h : MadeS w g n k f) (hb : Below w.heap.size w w') : MadeS w' g n k f := by
  obtain ⟨cur, h1, h2⟩ := h
  exact ⟨cur, h1.below hb, h2⟩
theorem MadeS.setOther {w : World} {g n k q i : Nat} {f : Nat → ByteArray} (h : MadeS w g n k f) (hq : g ≠ q) (u : Value) : MadeS (w.setCell ⟨q, i, none⟩ u) g n k f := by
  obtain ⟨cur, h1, h2⟩ := h
  exact ⟨cur, h1.setOther hq u, h2⟩
/-- Blocks from lo up to hi alone may have turned. -/
structure Turn (lo hi : Nat) (w w' : World) : Prop where
  os : w'.os = w.os
  tape : w'.tape = w.tape
  output : w'.output = w.output
  size : w.heap.size ≤ w'.heap.size
  block : ∀ k, k < w.heap.size → (k < lo ∨ hi ≤ k) → w'.heap[k]? = w.heap[k]?
theorem Turn.trans {lo hi : Nat} {a b c : World} (h : Turn lo hi a b) (k : Turn lo hi b c) : Turn lo hi a c :=
  ⟨k.os.trans h.os, k.tape.trans h.tape, k.output.trans h.output, Nat.le_trans h.size k.size, fun i hi hp => (k.block i (Nat.lt_of_lt_of_le hi h.size) hp).trans (h.block i hi hp)⟩
theorem Turn.of_below {lo hi : Nat} {w w' : World} (h : Below w.heap.size w w') : Turn lo hi w w' := ⟨h.os, h.tape, h.output, h.size, fun k hk _ => h.block k hk⟩
theorem Turn.below {lo hi N : Nat} {w0 w w' : World} (h : Turn lo hi w w') (hb : Below N w0 w) (hN : N ≤ lo) (hs : N ≤ w.heap.size) : Below N w0 w' :=
  hb.trans ⟨h.os, h.tape, h.output, h.size, fun k hk => h.block k (by omega) (.inl (by omega))⟩
theorem eqStringS_true {w : World} {g1 g2 n c1 c2 : Nat} {f : Nat → ByteArray} (h1 : Strs w g1 0 n f) (h2 : Strs w g2 0 n f) (l1 : g1 < w.heap.size) (l2 : g2 < w.heap.size) (hn : n ≤ 1048576) :
    Calls Try.prog 11 #[.slice (some ⟨g1, 0, none⟩) n c1, .slice (some ⟨g2, 0, none⟩) n c2] w fun e w' => e = .returned (.bool true) ∧ Below w.heap.size w w' := by
  have hn' : (n : Int) ≤ 1048576 := by omega
  go_enter Try.func11, Try.ntmps11
  go_wp2
  go_loopw [5] (fun s wr => ∃ k : Nat, k ≤ n ∧ s = .int .i64 k ∧ Below w.heap.size w wr) (fun s _ => n - (intOf s).toNat)
  case atStart => exact ⟨0, Nat.zero_le _, rfl, Below.refl _ _⟩
  case round =>
    obtain ⟨k, hk, rfl, hbel⟩ := hrel
    by_cases hlt : k < n
    · have hlt' : (k : Int) < (n : Int) := by omega
      have hk0 : (0 : Int) ≤ (k : Int) := by omega
      have a0 := (hbel.cell (p := ⟨g1, 0 + k, none⟩) l1).trans (h1 k hlt)
      have a2 := (hbel.cell (p := ⟨g2, 0 + k, none⟩) l2).trans (h2 k hlt)
      rw [Nat.zero_add] at a0 a2
      have hne := bne_self_eq_false (f k).toList
      go_wp2
      go_quiet (fail)
      go_wp2
      go_roundw
      case rel => exact ⟨k + 1, by omega, by go_num, below_drewN hbel _⟩
      case measure => simp [intOf]; omega
    · have hlt' : ¬ (k : Int) < (n : Int) := by omega
      go_wp2
      go_ret
      exact ⟨rfl, hbel⟩
/-- A list of texts of its own memory, in a block from lo up to hi. -/
def SAr (w : World) (lo hi : Nat) (v : Value) (n : Nat) (f : Nat → ByteArray) : Prop := ∃ g c, v = .slice (some ⟨g, 0, none⟩) n c ∧ lo ≤ g ∧ g < hi ∧ n ≤ c ∧ MadeS w g c n f
theorem SAr.below {w w' : World} {lo hi : Nat} {v : Value} {n : Nat} {f : Nat → ByteArray} (h : SAr w lo hi v n f) (hb : Below w.heap.size w w') : SAr w' lo hi v n f := by
  obtain ⟨g, c, e, h1, h2, h3, h4⟩ := h
  exact ⟨g, c, e, h1, h2, h3, h4.below hb⟩
theorem SAr.turn {w w' : World} {lo hi a b : Nat} {v : Value} {n : Nat} {f : Nat → ByteArray} (h : SAr w a b v n f) (ht : Turn lo hi w w') (hd : b ≤ lo ∨ hi ≤ a) : SAr w' a b v n f := by
  obtain ⟨g, c, e, h1, h2, h3, cur, h4, h5⟩ := h
  exact ⟨g, c, e, h1, h2, h3, cur, (ht.block g h4.lt (by omega)).trans h4, h5⟩
theorem SAr.wide {w : World} {lo hi lo' hi' : Nat} {v : Value} {n : Nat} {f : Nat → ByteArray} (h : SAr w lo hi v n f) (h1 : lo' ≤ lo) (h2 : hi ≤ hi') : SAr w lo' hi' v n f := by
  obtain ⟨g, c, e, a1, a2, a3⟩ := h
  exact ⟨g, c, e, by omega, by omega, a3⟩
theorem MadeS.strsN {w : World} {g n k : Nat} {f : Nat → ByteArray} (h : MadeS w g n k f) : Strs w g 0 k f := by
  obtain ⟨cur, h1, h2, h3⟩ := h
  intro i hi
  rw [Nat.zero_add]
  exact h1.cell i (h3 i hi)
theorem eqSAr_true {w : World} {l1 h1 l2 h2 n : Nat} {v1 v2 : Value} {f : Nat → ByteArray} (k1 : SAr w l1 h1 v1 n f) (k2 : SAr w l2 h2 v2 n f) (hn : n ≤ 1048576) :
    Calls Try.prog 11 #[v1, v2] w fun e w' => e = .returned (.bool true) ∧ Below w.heap.size w w' := by
  obtain ⟨g1, c1, rfl, -, -, -, m1⟩ := k1
  obtain ⟨g2, c2, rfl, -, -, -, m2⟩ := k2
  exact eqStringS_true m1.strsN m2.strsN m1.lt m2.lt hn
/-- The text of a mark. -/
def mtL (k : Nat) (out : List UInt8) : List UInt8 := if h : k = 0 then out else mtL (k / 10) (UInt8.ofNat (48 + k % 10) :: out)
termination_by k
decreasing_by omega
theorem mtL_0 (out : List UInt8) : mtL 0 out = out := by rw [mtL]; simp
theorem mtL_s {k : Nat} (h : k ≠ 0) (out : List UInt8) : mtL k out = mtL (k / 10) (UInt8.ofNat (48 + k % 10) :: out) := by rw [mtL]; simp [h]
def mt (k : Nat) : ByteArray := ⟨(109 :: mtL k []).toArray⟩
theorem conv1 {w : World} {g : Nat} {x : UInt8} {y : Int} (h : At 5 w g #[.int .u8 y]) (hy : y = (x.toNat : Int)) : (convert 22 9 (.slice (some ⟨g, 0, none⟩) 1 1)).run Try.prog w = .ok (.string ⟨#[x]⟩) w := by
  subst hy
  have := run_convert_bytes_back (P := Try.prog) w 22 9 5 ⟨g, 0, none⟩ 1 [x] Try.underlying22 Try.underlying5 Try.underlying9 fun j hj => ?_
  · simpa using this
  · obtain rfl : j = 0 := by simp at hj; exact hj
    have := h.cell 0 rfl
    simpa [Addr.add] using this
theorem ba_app (x : UInt8) (L : List UInt8) : (⟨#[x]⟩ : ByteArray) ++ ⟨L.toArray⟩ = ⟨(x :: L).toArray⟩ := by
  refine ByteArray.ext ?_
  simp
set_option maxRecDepth 100000 in
set_option maxHeartbeats 1600000 in
theorem markText_any (k : Nat) (w : World) (h0 : 0 < k) (hk : k ≤ 100000000000000) : Calls Try.prog 26 #[.int .i64 (k : Int)] w fun e w' => e = .returned (.string (mt k)) ∧ Below w.heap.size w w' := by
  have h0' : ¬ (k : Int) ≤ 0 := by omega
  go_enter Try.func26, Try.ntmps26
  go_wp2
  go_loopw [0, 3] (fun t u wr => ∃ (m : Nat) (L : List UInt8), L.length + m ≤ k ∧ mtL m L = mtL k [] ∧ t = .int .i64 (m : Int) ∧ u = .string ⟨L.toArray⟩ ∧ Below w.heap.size w wr) (fun t _ _ => (intOf t).toNat)
  case atStart => exact ⟨k, [], by simp, rfl, rfl, rfl, Below.refl _ _⟩
  case round =>
    obtain ⟨m, L, hm, hL, rfl, rfl, B⟩ := hrel
    have HL : Hid (mtL m L = mtL k []) := hL
    clear hL
    have hov : ¬ 9223372036854775807 < 1 + L.length := by omega
    by_cases hm0 : 0 < m
    · have hm0' : (0 : Int) < (m : Int) := by omega
      obtain ⟨x, hx⟩ : ∃ x : UInt8, UInt8.ofNat (48 + m % 10) = x := ⟨_, rfl⟩
      have hxn : x.toNat = 48 + m % 10 := by rw [← hx, UInt8.toNat_ofNat']; omega
      obtain ⟨V1, hV1, A1, bb, -⟩ := boxed wr 5 #[.int .u8 (48 + (m : Int) % 10)]
      obtain ⟨q1, hq1⟩ : ∃ q, wr.heap.size = q := ⟨_, rfl⟩
      rw [hq1] at A1
      have cv := conv1 (x := x) A1 (by omega)
      have HL2 : Hid (mtL (m / 10) (x :: L) = mtL k []) := by show _ = _; rw [← HL.out, mtL_s (k := m) (by omega) L, hx]
      replace B := B.trans (bb.mono B.size)
      have hap := ba_app x L
      clear hx hxn HL A1 bb
      go_wp2
      refine ⟨⟨m / 10, x :: L, by simp; omega, HL2.out, by simp, rfl, B⟩, by simp [intOf]; omega⟩
    · have hm0' : ¬ (0 : Int) < (m : Int) := by omega
      obtain rfl : m = 0 := by omega
      have HM : Hid (mt k = ⟨(109 :: L).toArray⟩) := by show mt k = _; unfold mt; rw [← HL.out, mtL_0]
      have hap := ba_app 109 L
      clear HL
      go_wp2
      go_ret
      exact ⟨by rw [HM.out]; rfl, B⟩
theorem Turn.put {lo hi q i : Nat} {w w' : World} (h : Turn lo hi w w') (h1 : lo ≤ q) (h2 : q < hi) (v : Value) : Turn lo hi w (w'.setCell ⟨q, i, none⟩ v) :=
  ⟨h.os, h.tape, h.output, by simpa [World.setCell] using h.size, fun k hk hd => (Below.heap_setCell _ _ _ _ (by show k ≠ q; omega)).trans (h.block k hk hd)⟩
/-- Marks x, x + 1 .. -/
def mks (x : Nat) (i : Nat) : ByteArray := mt (x + i)
set_option maxRecDepth 100000 in
set_option maxHeartbeats 1600000 in
theorem markS_any {w : World} {g n c lo hi : Nat} {f : Nat → ByteArray} (hM : MadeS w g c 0 f) (hc : n ≤ c) (hn : n ≤ 1048576) (h1 : lo ≤ g) (h2 : g < hi) (x : Nat) (hx0 : 0 < x) (hx : x ≤ 10000000000000) :
    Calls Try.prog 12 #[.slice (some ⟨g, 0, none⟩) n c, .int .i64 (x : Int)] w fun e w' => e = .returned (.int .i64 ((x + n : Nat) : Int)) ∧ MadeS w' g c n (mks x) ∧ Turn lo hi w w' := by
  have hn' : (n : Int) ≤ 1048576 := by omega
  have M0 : MadeS w g c 0 (mks x) := by
    obtain ⟨cur, k1, k2, -⟩ := hM
    exact ⟨cur, k1, k2, fun i hi => by omega⟩
  clear hM
  go_enter Try.func12, Try.ntmps12
  go_wp2
  go_loopw [1, 5] (fun t u wr => ∃ k : Nat, k ≤ n ∧ t = .int .i64 ((x + k : Nat) : Int) ∧ u = .int .i64 (k : Int) ∧ MadeS wr g c k (mks x) ∧ Turn lo hi w wr) (fun _ u _ => n - (intOf u).toNat)
  case atStart => exact ⟨0, Nat.zero_le _, rfl, rfl, M0, Turn.of_below (Below.refl _ _)⟩
  case round =>
    clear M0
    obtain ⟨k, hk, rfl, rfl, M, T⟩ := hrel
    obtain ⟨X, hX⟩ : ∃ X, x + k = X := ⟨_, rfl⟩
    have HX : Hid (x + k = X) := hX
    rw [hX]
    by_cases hlt : k < n
    · have hlt' : (k : Int) < (n : Int) := by omega
      have MT := fun w => markText_any X w (by omega) (by omega)
      have hXb : (X : Int) ≤ 20000000000000 := by omega
      clear hX
      go_wp2_with fail
      refine (MT _).mono ?_
      rintro e w2 ⟨rfl, b2⟩
      replace M := M.below b2
      replace T := T.trans (Turn.of_below b2)
      obtain ⟨z0, y0⟩ := M.open (show k < c by omega)
      have M2 := M.set (show k < c by omega)
      rw [show mks x k = mt X by unfold mks; rw [HX.out]] at M2
      have T2 := T.put (i := k) h1 h2 (.string (mt X))
      have HE : Hid (((x + (k + 1) : Nat) : Int) = (X : Int) + 1) := by show _ = _; have := HX.out; omega
      clear M T MT b2
      go_wp2
      exact ⟨⟨k + 1, by omega, by rw [HE.out], by go_num, M2, T2⟩, by simp [intOf]; omega⟩
    · have hlt' : ¬ (k : Int) < (n : Int) := by omega
      obtain rfl : k = n := by omega
      go_wp2
      go_ret
      exact ⟨rfl, M, T⟩
set_option maxRecDepth 100000 in
set_option maxHeartbeats 1600000 in
theorem heldS_any {w : World} {g n c : Nat} (hM : Strs w g 0 n (mks 1)) (hg : g < w.heap.size) (hn : n ≤ 1048576) :
    Calls Try.prog 13 #[.slice (some ⟨g, 0, none⟩) n c, .int .i64 1] w fun e w' => e = .returned (.int .i64 ((1 + n : Nat) : Int)) ∧ Below w.heap.size w w' := by
  have hn' : (n : Int) ≤ 1048576 := by omega
  have HM : Hid (Strs w g 0 n (mks 1)) := hM
  clear hM
  go_enter Try.func13, Try.ntmps13
  go_wp2
  go_loopw [1, 5] (fun t u wr => ∃ k : Nat, k ≤ n ∧ t = .int .i64 ((1 + k : Nat) : Int) ∧ u = .int .i64 (k : Int) ∧ Below w.heap.size w wr) (fun _ u _ => n - (intOf u).toNat)
  case atStart => exact ⟨0, Nat.zero_le _, rfl, rfl, Below.refl _ _⟩
  case round =>
    obtain ⟨k, hk, rfl, rfl, B⟩ := hrel
    obtain ⟨X, hX⟩ : ∃ X, 1 + k = X := ⟨_, rfl⟩
    have HX : Hid (1 + k = X) := hX
    rw [hX]
    by_cases hlt : k < n
    · have hlt' : (k : Int) < (n : Int) := by omega
      have MT := fun w => markText_any X w (by omega) (by omega)
      have hXb : (X : Int) ≤ 20000000000000 := by omega
      have HE : Hid (((1 + (k + 1) : Nat) : Int) = (X : Int) + 1) := by show _ = _; omega
      clear hX
      go_wp2_with fail
      obtain ⟨u0, hu0, bb⟩ : ∃ uu, wr.drew = uu ∧ Below wr.heap.size wr uu := ⟨_, rfl, (Below.refl _ _).drew⟩
      replace B := B.trans (bb.mono B.size)
      have L1 : ∀ w', Kb u0 w' → w'.cell? ⟨g, k, none⟩ = some (.string (mt X)) := fun w' hh => by have z := ((B.trans (Below.mono hh B.size)).cell (p := ⟨g, 0 + k, none⟩) hg).trans (HM.out k hlt); rw [Nat.zero_add] at z; unfold mks at z; rw [HX.out] at z; exact z
      have hne := bne_self_eq_false (mt X).toList
      clear bb
      refine wp_region_held_drew (S := Kb u0) (by kernel_rfl) (by rw [hu0]; exact Below.refl _ _) (fun hHeld => ?_)
      rw [hu0] at hHeld ⊢
      clear hu0
      have bu : Kb u0 u0 := Below.refl _ _
      change wpAnyH _ _ _ _ _ 7 #[false, false, false, false, false, false, false] _ _
      refine wpAnyH_take (i := 0) (v := .slice ((some ⟨g, 0, none⟩)) n c) rfl (by kernel_rfl) (by kernel_rfl) (by kernel_rfl) (fun _ _ _ h => h) (Or.inl ⟨by kernel_rfl, ?_⟩) hHeld ?_
      · intro w' hSw; go_simp
      try simp only [Act.put, List.setIfInBounds_toArray, List.set_cons_zero, List.set_cons_succ, List.getElem_toArray, List.getElem_cons_zero]
      refine wpAnyH_take (i := 1) (v := .int .i64 ((k : Int))) rfl (by kernel_rfl) (by kernel_rfl) (by kernel_rfl) (fun _ _ _ h => h) (Or.inl ⟨by kernel_rfl, ?_⟩) hHeld ?_
      · intro w' hSw; go_simp
      try simp only [Act.put, List.setIfInBounds_toArray, List.set_cons_zero, List.set_cons_succ, List.getElem_toArray, List.getElem_cons_succ, List.getElem_cons_zero]
      refine wpAnyH_take (i := 2) (v := .pointer (some ⟨g, k, none⟩)) rfl (by kernel_rfl) (by kernel_rfl) (by kernel_rfl) (fun _ _ _ h => h) (Or.inl ⟨by kernel_rfl, ?_⟩) hHeld ?_
      · intro w' hSw; go_simp
      try simp only [Act.put, List.setIfInBounds_toArray, List.set_cons_zero, List.set_cons_succ, List.getElem_toArray, List.getElem_cons_succ, List.getElem_cons_zero]
      refine wpAnyH_take (i := 3) (v := .string (mt X)) rfl (by kernel_rfl) (by kernel_rfl) (by kernel_rfl) (fun _ _ _ h => h) (Or.inl ⟨by kernel_rfl, ?_⟩) hHeld ?_
      · intro w' hSw; have z0 := L1 _ hSw; go_simp
      try simp only [Act.put, List.setIfInBounds_toArray, List.set_cons_zero, List.set_cons_succ, List.getElem_toArray, List.getElem_cons_succ, List.getElem_cons_zero]
      refine wpAnyH_take (i := 4) (v := .int .i64 ((X : Int))) rfl (by kernel_rfl) (by kernel_rfl) (by kernel_rfl) (fun _ _ _ h => h) (Or.inl ⟨by kernel_rfl, ?_⟩) hHeld ?_
      · intro w' hSw; go_simp
      try simp only [Act.put, List.setIfInBounds_toArray, List.set_cons_zero, List.set_cons_succ, List.getElem_toArray, List.getElem_cons_succ, List.getElem_cons_zero]
      refine wpAnyH_ready (rs := [5]) (by kernel_rfl) (by simp) ?_
      refine AllReadyH.cons rfl (fun KK hK' => ?_) AllReadyH.nil
      go_simp
      refine (MT _).mono ?_
      rintro e u1 ⟨rfl, bb⟩
      replace B := B.trans (bb.mono B.size)
      replace bu : Kb u0 u1 := bu.trans (bb.mono bu.size)
      clear bb
      try go_wp2_with fail
      clear hHeld
      refine hK'.out _ _ (bu) (fun hHeld => ?_)
      clear hK' KK
      try simp only [List.setIfInBounds_toArray, List.set_cons_zero, List.set_cons_succ]
      refine wpAnyH_take (i := 6) (v := .bool false) rfl (by kernel_rfl) (by kernel_rfl) (by kernel_rfl) (fun _ _ _ h => h) (Or.inl ⟨by kernel_rfl, ?_⟩) hHeld ?_
      · intro w' hSw; go_simp
      try simp only [Act.put, List.setIfInBounds_toArray, List.set_cons_zero, List.set_cons_succ, List.getElem_toArray, List.getElem_cons_succ, List.getElem_cons_zero]
      refine wpAnyH_done (by kernel_rfl) ?_ _
      clear hHeld
      go_wp2
      exact ⟨⟨k + 1, by omega, by rw [HE.out], by go_num, B⟩, by simp [intOf]; omega⟩
    · have hlt' : ¬ (k : Int) < (n : Int) := by omega
      obtain rfl : k = n := by omega
      go_wp2
      go_ret
      exact ⟨rfl, B⟩
end Go.Proofs.Ytnkmiljnilmicaa
