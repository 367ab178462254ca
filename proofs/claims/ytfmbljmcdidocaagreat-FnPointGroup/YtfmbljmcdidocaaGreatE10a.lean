/-
  slices.Compact at operators: walked.
-/
import Derived.Test.YtfmbljmcdidocaaGreatNB
import Derived.Test.YtfmbljmcdidocaaGreatMN
import Derived.Test.YtfmbljmcdidocaaGreatE7a
import Derived.BigRegion
namespace Go.Proofs.YtfmbljmcdidocaaGreat
open Go.RowKit

theorem eqIn_k (x y : Nat → Int) (w : World) : (Op.equalIn 10000 62 (.agg (kc x).toArray) (.agg (kc y).toArray)).run Tryz.prog w = .ok (decide (lexC 12 x y = 0)) w := by
  have h := neq65.1 x y w
  rw [run_neq_struct] at h
  cases he : (Op.equalIn 10000 62 (.agg (kc x).toArray) (.agg (kc y).toArray)).run Tryz.prog w with
  | ok b w' =>
    rw [he] at h
    simp only [Result.andThen_ok, Result.ok.injEq, Value.bool.injEq] at h
    obtain ⟨h1, rfl⟩ := h
    have : b = decide (lexC 12 x y = 0) := by
      cases b <;> cases hd : decide (lexC 12 x y = 0) <;> rw [hd] at h1 <;> first | rfl | cases h1
    rw [this]
  | _ => rw [he] at h; simp [Result.andThen] at h
/-- This one is not as the one ahead of it. -/
def dup (F : Nat → Nat → Int) (i : Nat) : Bool := decide (i = 0 ∨ ¬ lexC 12 (F i) (F (i - 1)) = 0)
theorem kL_all {P : Nat → Bool} {k : Nat} (h : ∀ j, j < k → P j = true) : kL P k = List.range k := by
  unfold kL
  rw [List.filter_eq_self]
  exact fun a ha => h a (List.mem_range.1 ha)
theorem kN_all {P : Nat → Bool} {k : Nat} (h : ∀ j, j < k → P j = true) : kN P k = k := by unfold kN; rw [kL_all h]; simp
theorem kI_all {P : Nat → Bool} {k j : Nat} (h : ∀ j, j < k → P j = true) (hj : j < k) : kI P k j = j := by unfold kI; rw [kL_all h]; simp [hj]
/-- Place t holds the operator x. -/
def H12 (cur : Array Value) (t : Nat) (x : Nat → Int) : Prop := ∀ l, l < 12 → cur[t * 12 + l]? = some (.int .i64 (x l))
theorem Oprs.row {w : World} {base g n c : Nat} {F : Nat → Nat → Int} (h : Oprs w base (.slice (some ⟨g, 0, none⟩) n c) n F) : ∃ cur, At 62 w g cur ∧ cur.size = c * 12 ∧ n ≤ c ∧ c ≤ maxLen ∧ base ≤ g ∧ ∀ t, t < n → H12 cur t (F t) := by
  obtain ⟨e0, h1 | ⟨g', c', cur, e, hb, hh, h3, h4, h5, h6⟩⟩ := h.1
  · exact absurd h1.1 h.2
  · cases e
    refine ⟨cur, hh, h5, h3, h4, hb, fun t ht l hl => ?_⟩
    have := congrArg (fun L => L[t * 12 + l]?) h6
    simp only [List.getElem?_take] at this
    rw [if_pos (by omega), kCells_get F ht hl] at this
    simpa using this
theorem oprs_row {w : World} {base g k c : Nat} {G : Nat → Nat → Int} {cur : Array Value} (a : At 62 w g cur) (hs : cur.size = c * 12) (hk : k ≤ c) (hm : c ≤ maxLen) (hb : base ≤ g) (h : ∀ t, t < k → H12 cur t (G t)) : Oprs w base (.slice (some ⟨g, 0, none⟩) k c) k G := by
  refine ⟨⟨kCells_len G k, .inr ⟨g, c, cur, rfl, hb, a, hk, hm, hs, ?_⟩⟩, ne_nil _ _ _⟩
  refine List.ext_getElem? fun j => ?_
  by_cases hj : j < k * 12
  · obtain ⟨t, l, rfl, hl⟩ : ∃ t l, j = t * 12 + l ∧ l < 12 := ⟨j / 12, j % 12, by omega, by omega⟩
    have ht : t < k := by omega
    rw [List.getElem?_take, if_pos hj, kCells_get G ht hl]
    simpa using h t ht l hl
  · rw [List.getElem?_take, if_neg hj, List.getElem?_eq_none (by rw [kCells_len]; omega)]
/-- Twelve cells written. -/
def putO (w : World) (g o : Nat) (x : Nat → Int) : World := (((((((((((w.setCell ⟨g, o, none⟩ (.int .i64 (x 0))).setCell ⟨g, o + 1, none⟩ (.int .i64 (x 1))).setCell ⟨g, o + 2, none⟩ (.int .i64 (x 2))).setCell ⟨g, o + 3, none⟩ (.int .i64 (x 3))).setCell ⟨g, o + 4, none⟩ (.int .i64 (x 4))).setCell ⟨g, o + 5, none⟩ (.int .i64 (x 5))).setCell ⟨g, o + 6, none⟩ (.int .i64 (x 6))).setCell ⟨g, o + 7, none⟩ (.int .i64 (x 7))).setCell ⟨g, o + 8, none⟩ (.int .i64 (x 8))).setCell ⟨g, o + 9, none⟩ (.int .i64 (x 9))).setCell ⟨g, o + 10, none⟩ (.int .i64 (x 10))).setCell ⟨g, o + 11, none⟩ (.int .i64 (x 11))
theorem putO_at {w : World} {g o : Nat} {x : Nat → Int} {cur : Array Value} (a : At 62 w g cur) : ∃ cur', At 62 (putO w g o x) g cur' ∧ cur'.size = cur.size ∧ (∀ j, j < o ∨ o + 12 ≤ j → cur'[j]? = cur[j]?) ∧ (o + 12 ≤ cur.size → ∀ l, l < 12 → cur'[o + l]? = some (.int .i64 (x l))) := by
  refine ⟨_, ((((((((((((a.set o _).set (o + 1) _).set (o + 2) _).set (o + 3) _).set (o + 4) _).set (o + 5) _).set (o + 6) _).set (o + 7) _).set (o + 8) _).set (o + 9) _).set (o + 10) _).set (o + 11) _), by simp, fun j hj => ?_, fun hs l hl => ?_⟩
  · simp only [Array.getElem?_setIfInBounds]
    rw [if_neg (by omega), if_neg (by omega), if_neg (by omega), if_neg (by omega), if_neg (by omega), if_neg (by omega), if_neg (by omega), if_neg (by omega), if_neg (by omega), if_neg (by omega), if_neg (by omega), if_neg (by omega)]
  · rcases (by omega : l = 0 ∨ l = 1 ∨ l = 2 ∨ l = 3 ∨ l = 4 ∨ l = 5 ∨ l = 6 ∨ l = 7 ∨ l = 8 ∨ l = 9 ∨ l = 10 ∨ l = 11) with rfl | rfl | rfl | rfl | rfl | rfl | rfl | rfl | rfl | rfl | rfl | rfl <;> simp [Array.getElem?_setIfInBounds] <;> omega
theorem putO_kept (w : World) (g o : Nat) (x : Nat → Int) : Kept g w (putO w g o x) :=
  ((((((((((((Kept.refl g w).set _).set _).set _).set _).set _).set _).set _).set _).set _).set _).set _).set _
/-- In the middle: the first k places hold what stays of the first i; from i - 1 on all is as it was. -/
structure CpI (F : Nat → Nat → Int) (n c i k : Nat) (cur : Array Value) : Prop where
  size : cur.size = c * 12
  num : k = kN (dup F) i
  lt : k < i
  lo : ∀ t, t < k → H12 cur t (F (kI (dup F) i t))
  hi : ∀ t, i ≤ t + 1 → t < n → H12 cur t (F t)
theorem CpI.skip {F : Nat → Nat → Int} {n c i k : Nat} {cur : Array Value} (h : CpI F n c i k cur) (hd : dup F i = false) : CpI F n c (i + 1) k cur :=
  ⟨h.size, by rw [kN_no hd]; exact h.num, by have := h.lt; omega, fun t ht => by rw [kI_no hd]; exact h.lo t ht, fun t h1 h2 => h.hi t (by omega) h2⟩
theorem CpI.keep {F : Nat → Nat → Int} {n c i k : Nat} {cur cur' : Array Value} (h : CpI F n c i k cur) (hd : dup F i = true) (hs : cur'.size = cur.size) (h1 : ∀ j, j < k * 12 ∨ k * 12 + 12 ≤ j → cur'[j]? = cur[j]?) (h2 : ∀ l, l < 12 → cur'[k * 12 + l]? = some (.int .i64 (F i l))) : CpI F n c (i + 1) (k + 1) cur' := by
  have hl := h.lt
  refine ⟨hs.trans h.size, by rw [kN_yes hd, ← h.num], by omega, fun t ht l hl' => ?_, fun t h3 h4 l hl' => ?_⟩
  · by_cases e : t = k
    · subst e
      rw [h2 l hl', h.num, kI_new hd]
    · rw [h1 _ (.inl (by omega)), kI_old hd (by rw [← h.num]; omega)]
      exact h.lo t (by omega) l hl'
  · rw [h1 _ (.inr (by omega))]
    exact h.hi t (by omega) h4 l hl'
theorem dup_pos {F : Nat → Nat → Int} {i : Nat} (h : ¬ lexC 12 (F i) (F (i - 1)) = 0) : dup F i = true := decide_eq_true (.inr h)
theorem dup_neg {F : Nat → Nat → Int} {i : Nat} (hi : i ≠ 0) (h : lexC 12 (F i) (F (i - 1)) = 0) : dup F i = false := decide_eq_false (by rintro (h1 | h1); exact hi h1; exact h1 h)
/-- How Compact ends. -/
def CpE (w : World) (base g n c : Nat) (F : Nat → Nat → Int) (e : Ending) (w' : World) : Prop :=
  e = .returned (.slice (some ⟨g, 0, none⟩) (kN (dup F) n) c) ∧ Oprs w' base (.slice (some ⟨g, 0, none⟩) (kN (dup F) n) c) (kN (dup F) n) (fun j => F (kI (dup F) n j)) ∧ Kept g w w'
theorem At.open12k {w : World} {g t : Nat} {x : Nat → Int} {cur : Array Value} (a : At 62 w g cur) (h : H12 cur t x) {o : Nat} (ho : o = t * 12) : w.cell? ⟨g, o, none⟩ = some (.int .i64 (x 0)) ∧ w.cell? ⟨g, o + 1, none⟩ = some (.int .i64 (x 1)) ∧ w.cell? ⟨g, o + 2, none⟩ = some (.int .i64 (x 2)) ∧ w.cell? ⟨g, o + 3, none⟩ = some (.int .i64 (x 3)) ∧ w.cell? ⟨g, o + 4, none⟩ = some (.int .i64 (x 4)) ∧ w.cell? ⟨g, o + 5, none⟩ = some (.int .i64 (x 5)) ∧ w.cell? ⟨g, o + 6, none⟩ = some (.int .i64 (x 6)) ∧ w.cell? ⟨g, o + 7, none⟩ = some (.int .i64 (x 7)) ∧ w.cell? ⟨g, o + 8, none⟩ = some (.int .i64 (x 8)) ∧ w.cell? ⟨g, o + 9, none⟩ = some (.int .i64 (x 9)) ∧ w.cell? ⟨g, o + 10, none⟩ = some (.int .i64 (x 10)) ∧ w.cell? ⟨g, o + 11, none⟩ = some (.int .i64 (x 11)) := by
  subst ho
  exact ⟨a.cell _ (h 0 (by omega)), a.cell _ (h 1 (by omega)), a.cell _ (h 2 (by omega)), a.cell _ (h 3 (by omega)), a.cell _ (h 4 (by omega)), a.cell _ (h 5 (by omega)), a.cell _ (h 6 (by omega)), a.cell _ (h 7 (by omega)), a.cell _ (h 8 (by omega)), a.cell _ (h 9 (by omega)), a.cell _ (h 10 (by omega)), a.cell _ (h 11 (by omega))⟩
theorem At.some12 {w : World} {g o : Nat} {cur : Array Value} (a : At 62 w g cur) (h : o + 12 ≤ cur.size) : ∀ l, l < 12 → w.cell? ⟨g, o + l, none⟩ = some (cv w g (o + l)) ∧ w.frozen? ⟨g, o + l, none⟩ = false := fun l hl => by
  have hlt : o + l < cur.size := by omega
  have := a.cell (o + l) (Array.getElem?_eq_getElem hlt)
  exact ⟨by rw [cv, this]; rfl, a.frozen _⟩
theorem zero_one (m : Nat) : ∀ v ∈ (Builtin.zeroCells (Value.agg (opA (fun _ => 0) (fun _ => 0))).cells m).toList, v.oneCell' = true := by
  intro v hv
  simp only [Builtin.zeroCells, Array.toList_map, List.mem_map] at hv
  obtain ⟨i, -, rfl⟩ := hv
  have h12 : (Value.agg (opA (fun _ => 0) (fun _ => 0))).cells.size = 12 := rfl
  rw [h12]
  have hlt : i % 12 < 12 := Nat.mod_lt _ (by omega)
  generalize i % 12 = j at hlt
  rcases (by omega : j = 0 ∨ j = 1 ∨ j = 2 ∨ j = 3 ∨ j = 4 ∨ j = 5 ∨ j = 6 ∨ j = 7 ∨ j = 8 ∨ j = 9 ∨ j = 10 ∨ j = 11) with rfl | rfl | rfl | rfl | rfl | rfl | rfl | rfl | rfl | rfl | rfl | rfl <;> rfl
theorem clear_ops {w : World} {g k m cap : Nat} {cur : Array Value} (a : At 62 w g cur) (h : k * 12 + m * 12 ≤ cur.size) (hm : 0 < m) : ∃ w', (∀ ty, (Builtin.clear_ #[52] ty #[.slice (some ⟨g, k * 12, none⟩) m cap]).run Tryz.prog w = .ok (.tuple #[]) w') ∧ ∃ cur', At 62 w' g cur' ∧ cur'.size = cur.size ∧ (∀ j, j < k * 12 → cur'[j]? = cur[j]?) ∧ Kept g w w' := by
  have hv : ∀ w, (zeroValue 62).run Tryz.prog w = .ok (.agg (opA (fun _ => 0) (fun _ => 0))) w := fun _ => by kernel_rfl
  have hzl : (Builtin.zeroCells (Value.agg (opA (fun _ => 0) (fun _ => 0))).cells m).toList.length = m * 12 := by
    rw [Array.length_toList, size_zeroCells]
    have : (Value.agg (opA (fun _ => 0) (fun _ => 0))).cells.size = 12 := rfl
    rw [this]
  obtain ⟨m', rfl⟩ : ∃ m', m = m' + 1 := ⟨m - 1, by omega⟩
  obtain ⟨ZL, hZL⟩ : ∃ L, (Builtin.zeroCells (Value.agg (opA (fun _ => 0) (fun _ => 0))).cells (m' + 1)).toList = L := ⟨_, rfl⟩
  have h1 := zero_one (m' + 1)
  rw [hZL] at hzl h1
  have hst := run_storeCells_at Tryz.prog g (k * 12) 62 ZL 0 cur w a (by rw [hzl]; omega) h1
  simp only [Nat.add_zero] at hst
  obtain ⟨NL, hNL⟩ : ∃ L, (cur.toList.take (k * 12) ++ ZL ++ cur.toList.drop (k * 12 + ZL.length)).toArray = L := ⟨_, rfl⟩
  rw [hNL] at hst
  refine ⟨w.setRow g NL, fun ty => by simp [Builtin.clear_, run_underlying Tryz.underlying52, hv, hZL, hst], NL, setRow_heap w g cur _ 62 _ a, ?_, fun j hj => ?_, ⟨rfl, rfl, rfl, by simp, fun q _ hq => setRow_other w g q _ hq⟩⟩
  · rw [← hNL]
    simp only [List.size_toArray, List.length_append, List.length_take, List.length_drop, Array.length_toList, hzl]
    omega
  · rw [← hNL, List.getElem?_toArray, List.append_assoc, List.getElem?_append_left (by simp; omega), List.getElem?_take_of_lt hj]
    simp
set_option maxRecDepth 100000 in
set_option maxHeartbeats 6000000 in
theorem compact_any {w : World} {base g n c : Nat} {F : Nat → Nat → Int} (hF : Oprs w base (.slice (some ⟨g, 0, none⟩) n c) n F) (hn : n ≤ 1000) :
    Calls Tryz.prog 51 #[.slice (some ⟨g, 0, none⟩) n c] w fun e w' => CpE w base g n c F e w' := by
  have hn' : (n : Int) ≤ 1000 := by omega
  have HF := hid_of hF
  clear hF
  have ALLE : Hid (∀ wq, Kept g w wq → Oprs wq base (.slice (some ⟨g, 0, none⟩) n c) n F → (∀ j, j < n → dup F j = true) → CpE w base g n c F (.returned (.slice (some ⟨g, 0, none⟩) n c)) wq) := fun wq hk hO hall => by
    have hN := kN_all hall
    refine ⟨by rw [hN], ?_, hk⟩
    rw [hN]
    exact ⟨by rw [kCells_congr (G := F) (fun i hi l _ => by rw [kI_all hall hi])]; exact hO.1, ne_nil _ _ _⟩
  by_cases h2 : n < 2
  · have h2' : (n : Int) < 2 := by omega
    have FI := hid_of (ALLE.out w (Kept.refl _ _) HF.out (fun j hj => by
      obtain rfl : j = 0 := by omega
      exact decide_eq_true (.inl rfl)))
    clear ALLE
    go_enter Tryz.func51, Tryz.ntmps51
    go_wp2
    go_ret
    exact FI.out
  have h2' : ¬ (n : Int) < 2 := by omega
  go_enter Tryz.func51, Tryz.ntmps51
  go_wp2
  go_loopw [3] (fun s wr => ∃ k : Nat, 1 ≤ k ∧ k ≤ n ∧ s = .int .i64 (k : Int) ∧ Hid (∀ j, j < k → dup F j = true) ∧ Hid (Below w.heap.size w wr)) (fun s _ => n - (intOf s).toNat)
  case atStart => exact ⟨1, Nat.le_refl _, by omega, rfl, fun j hj => by
    obtain rfl : j = 0 := by omega
    exact decide_eq_true (.inl rfl), Below.refl _ _⟩
  case round =>
    obtain ⟨k, hk1, hk, rfl, hall, B⟩ := hrel
    have HFr := hid_of (HF.out.below B.out)
    by_cases hlt : k < n
    rotate_left
    · obtain rfl : k = n := by omega
      have hlt' : ¬ (k : Int) < (k : Int) := by omega
      have FI := hid_of (ALLE.out wr (Kept.of_below B.out) HFr.out hall.out)
      clear ALLE HFr hall
      go_wp2
      go_ret
      exact FI.out
    have hlt' : (k : Int) < (n : Int) := by omega
    obtain ⟨j, hj⟩ : ∃ j, k = j + 1 := ⟨k - 1, by omega⟩
    have hkj : (k : Int) - 1 = (j : Int) := by omega
    have hjn : (j : Int) < (n : Int) := by omega
    obtain ⟨e0, e1, e2, e3, e4, e5, e6, e7, e8, e9, e10, e11⟩ := HFr.out.open k hlt
    obtain ⟨f0, f1, f2, f3, f4, f5, f6, f7, f8, f9, f10, f11⟩ := HFr.out.open j (by omega)
    have HEQ := eqIn_k (F k) (F j)
    have HGD := fun op a b w => neq65.2 op a b (F k) (F j) w
    obtain ⟨R, hR⟩ : ∃ R, decide (lexC 12 (F k) (F j) = 0) = R := ⟨_, rfl⟩
    rw [hR] at HEQ
    simp only [kc] at HEQ HGD
    have HD : Hid (dup F k = !R) := by
      show decide (k = 0 ∨ ¬ lexC 12 (F k) (F (k - 1)) = 0) = !R
      rw [show k - 1 = j by omega, ← hR]
      by_cases e : lexC 12 (F k) (F j) = 0
      · rw [decide_eq_true e]; exact decide_eq_false (by rintro (h | h); omega; exact h e)
      · rw [decide_eq_false e]; exact decide_eq_true (.inr e)
    have hw1 : IntKind.i64.wrap ((k : Int) - 1) = (j : Int) := (IntWalk.i64_in _ (by omega)).trans hkj
    have HJ := hid_of hj
    clear hj hkj
    generalize F k = x at *
    generalize F j = y at *
    clear hR
    cases R
    · have hall2 : Hid (∀ j, j < k + 1 → dup F j = true) := fun i hi => by
        by_cases e : i = k
        · rw [e]; exact HD.out
        · exact hall.out i (by omega)
      clear hall HD HFr ALLE
      go_wp2_with fail
      go_region
      go_wp2
      go_roundw
      case rel => exact ⟨k + 1, by omega, by omega, by go_num, hall2, B.out.drew⟩
      case measure => simp [intOf]; omega
    obtain ⟨cur, a, hs, hnc, hcm, hb, hH⟩ := HFr.out.row
    have hnc' : (n : Int) ≤ (c : Int) := by omega
    have hcm' : (c : Int) ≤ 9223372036854775807 := by unfold maxLen at hcm; omega
    have C0 : Hid (CpI F n c (k + 1) k cur) := by
      refine ⟨hs, ?_, by omega, fun t ht => ?_, fun t _ ht => hH t ht⟩
      · rw [kN_no HD.out, kN_all hall.out]
      · rw [kI_no HD.out, kI_all hall.out ht]; exact hH t (by omega)
    have A0 := hid_of a
    have K0 := hid_of (Kept.of_below (p := g) B.out)
    clear a hs hH hall HD ALLE HFr
    go_wp2_with fail
    go_region
    clear e0 e1 e2 e3 e4 e5 e6 e7 e8 e9 e10 e11 f0 f1 f2 f3 f4 f5 f6 f7 f8 f9 f10 f11 HEQ HGD hw1
    have A1 : Hid (At 62 wr.drew g cur) := A0.out
    have K1 : Hid (Kept g w wr.drew) := ⟨K0.out.os, K0.out.tape, K0.out.output, K0.out.size, K0.out.block⟩
    obtain ⟨wd, hwd⟩ : ∃ u, wr.drew = u := ⟨_, rfl⟩
    rw [hwd] at A1 K1 ⊢
    clear hwd A0 K0
    go_wp2
    obtain ⟨ns, hns⟩ : ∃ m, n - k = m := ⟨_, rfl⟩
    obtain ⟨cs, hcs⟩ : ∃ m, c - k = m := ⟨_, rfl⟩
    rw [hns, hcs]
    have hnsn : ns ≤ 1000 := by omega
    have hcs1 : ns ≤ cs := by omega
    go_loopw [3, 5] (fun s3 s5 wr => ∃ (kk k2 : Nat) (cur : Array Value), s3 = .int .i64 (kk : Int) ∧ s5 = .int .i64 (k2 : Int) ∧ 1 ≤ k2 ∧ k + k2 ≤ n ∧ Hid (At 62 wr g cur) ∧ Hid (CpI F n c (k + k2) kk cur) ∧ Hid (Kept g w wr)) (fun _ s5 _ => n - (intOf s5).toNat)
    case atStart => exact ⟨k, 1, cur, rfl, rfl, Nat.le_refl _, by omega, A1, C0, K1⟩
    case round =>
      clear A1 C0 K1
      obtain ⟨kk, k2, cur, rfl, rfl, hk2, hkn, A1, C1, K1⟩ := hrel
      have hkk := C1.out.lt
      have hkk' : (kk : Int) < (n : Int) := by omega
      by_cases hl2 : k + k2 < n
      rotate_left
      · have hl2' : ¬ (k2 : Int) < (ns : Int) := by omega
        have hend : k + k2 = n := by omega
        rw [hend] at C1
        have hroom : kk * 12 + (n - kk) * 12 ≤ cur.size := by rw [C1.out.size]; omega
        obtain ⟨w9, hcl, cur9, a9, z9, s9, K9⟩ := clear_ops (cap := c - kk) A1.out hroom (by omega)
        have FI : Hid (CpE w base g n c F (.returned (.slice (some ⟨g, 0, none⟩) kk c)) w9) := by
          have hnum := C1.out.num
          refine ⟨by rw [hnum], ?_, K1.out.trans K9⟩
          rw [← hnum]
          exact oprs_row a9 (z9.trans C1.out.size) (by omega) hcm hb (fun t ht l hl => by rw [s9 _ (by omega)]; exact C1.out.lo t ht l hl)
        have hkk2 : (kk : Int) ≤ (n : Int) := by omega
        clear A1 C1 K1 a9 z9 s9 K9
        go_wp2
        go_ret
        exact FI.out
      have hl2' : (k2 : Int) < (ns : Int) := by omega
      obtain ⟨j2, hj2⟩ : ∃ j2, k2 = j2 + 1 := ⟨k2 - 1, by omega⟩
      have hw2 : IntKind.i64.wrap ((k2 : Int) - 1) = (j2 : Int) := (IntWalk.i64_in _ (by omega)).trans (by omega)
      have hj2n : (j2 : Int) < (ns : Int) := by omega
      obtain ⟨e0, e1, e2, e3, e4, e5, e6, e7, e8, e9, e10, e11⟩ := A1.out.open12k (C1.out.hi (k + k2) (by omega) hl2) (o := k * 12 + k2 * 12) (by omega)
      obtain ⟨f0, f1, f2, f3, f4, f5, f6, f7, f8, f9, f10, f11⟩ := A1.out.open12k (C1.out.hi (k + j2) (by omega) (by omega)) (o := k * 12 + j2 * 12) (by omega)
      have HEQ := eqIn_k (F (k + k2)) (F (k + j2))
      have HGD := fun op a b w => neq65.2 op a b (F (k + k2)) (F (k + j2)) w
      obtain ⟨R, hR⟩ : ∃ R, decide (lexC 12 (F (k + k2)) (F (k + j2)) = 0) = R := ⟨_, rfl⟩
      rw [hR] at HEQ
      simp only [kc] at HEQ HGD
      have HD : Hid (dup F (k + k2) = !R) := by
        show decide (k + k2 = 0 ∨ ¬ lexC 12 (F (k + k2)) (F (k + k2 - 1)) = 0) = !R
        rw [show k + k2 - 1 = k + j2 by omega, ← hR]
        by_cases e : lexC 12 (F (k + k2)) (F (k + j2)) = 0
        · rw [decide_eq_true e]; exact decide_eq_false (by rintro (h | h); omega; exact h e)
        · rw [decide_eq_false e]; exact decide_eq_true (.inr e)
      obtain ⟨x, hx⟩ : ∃ x, F (k + k2) = x := ⟨_, rfl⟩
      have HX := hid_of hx
      rw [hx] at HEQ HGD
      simp only [hx] at e0 e1 e2 e3 e4 e5 e6 e7 e8 e9 e10 e11
      generalize F (k + j2) = y at HEQ HGD f0 f1 f2 f3 f4 f5 f6 f7 f8 f9 f10 f11
      clear hR hx hj2
      cases R
      rotate_left
      · have C2 := hid_of (C1.out.skip HD.out)
        go_wp2_with fail
        go_region
        go_wp2
        go_roundw
        case rel => exact ⟨kk, k2 + 1, cur, rfl, by go_num, by omega, by omega, A1.out, by rw [← Nat.add_assoc]; exact C2.out, ⟨K1.out.os, K1.out.tape, K1.out.output, K1.out.size, K1.out.block⟩⟩
        case measure => simp [intOf]; omega
      go_wp2_with fail
      go_region
      have A2 : Hid (At 62 wr.drew g cur) := A1.out
      have K2 : Hid (Kept g w wr.drew) := ⟨K1.out.os, K1.out.tape, K1.out.output, K1.out.size, K1.out.block⟩
      clear HEQ HGD f0 f1 f2 f3 f4 f5 f6 f7 f8 f9 f10 f11 e0 e1 e2 e3 e4 e5 e6 e7 e8 e9 e10 e11 A1 K1
      obtain ⟨wd2, hwd⟩ : ∃ u, wr.drew = u := ⟨_, rfl⟩
      rw [hwd] at A2 K2 ⊢
      clear hwd
      obtain ⟨e0, e1, e2, e3, e4, e5, e6, e7, e8, e9, e10, e11⟩ := A2.out.open12k (HX.out ▸ C1.out.hi (k + k2) (by omega) hl2) (o := k * 12 + k2 * 12) (by omega)
      have hroom : kk * 12 + 12 ≤ cur.size := by rw [C1.out.size]; omega
      have OL := A2.out.some12 hroom
      obtain ⟨z0, y0⟩ := OL 0 (by omega)
      obtain ⟨z1, y1⟩ := OL 1 (by omega)
      obtain ⟨z2, y2⟩ := OL 2 (by omega)
      obtain ⟨z3, y3⟩ := OL 3 (by omega)
      obtain ⟨z4, y4⟩ := OL 4 (by omega)
      obtain ⟨z5, y5⟩ := OL 5 (by omega)
      obtain ⟨z6, y6⟩ := OL 6 (by omega)
      obtain ⟨z7, y7⟩ := OL 7 (by omega)
      obtain ⟨z8, y8⟩ := OL 8 (by omega)
      obtain ⟨z9, y9⟩ := OL 9 (by omega)
      obtain ⟨z10, y10⟩ := OL 10 (by omega)
      obtain ⟨z11, y11⟩ := OL 11 (by omega)
      rw [Nat.add_zero] at z0 y0
      obtain ⟨cur3, a3, s3, o3, n3⟩ := putO_at (o := kk * 12) (x := x) A2.out
      have C3 : Hid (CpI F n c (k + (k2 + 1)) (kk + 1) cur3) := by
        rw [← Nat.add_assoc]
        exact C1.out.keep HD.out s3 o3 (fun l hl => by rw [HX.out]; exact n3 hroom l hl)
      have A3 := hid_of a3
      have K3 := hid_of (K2.out.trans (putO_kept wd2 g (kk * 12) x))
      clear a3 s3 o3 n3 A2 K2 C1 OL hw2
      unfold putO at A3 K3
      go_wp2
      exact ⟨⟨kk + 1, k2 + 1, cur3, by go_num, by go_num, by omega, by omega, A3, C3, K3⟩, by simp [intOf]; omega⟩
end Go.Proofs.YtfmbljmcdidocaaGreat
