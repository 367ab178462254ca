/-
  Cores by the program and by the specification, walked.
-/
import Derived.Test.YtlmgdcoknpakcaaNg
import Derived.Test.YtlmgdcoknpakcaaNk
import Derived.Deep.CutRange
namespace Go.Proofs.Ytlmgdcoknpakcaa
open Go.RowKit

/-- The cores of a row up to k, and of the rows up to k, number by number. -/
def coR (W : Int) (r u : Nat → Int) (y : Int) : Nat → List Int
  | 0 => []
  | k + 1 => coR W r u y k ++ (if buT W r u k y = 0 then [] else [(k : Int), y, buT W r u k y])
def coA (W : Int) (r u : Nat → Int) : Nat → List Int
  | 0 => []
  | k + 1 => coA W r u k ++ coR W r u k (W - 1).toNat
theorem coR_len (W : Int) (r u : Nat → Int) (y : Int) : ∀ k, ∃ n, (coR W r u y k).length = n * 3 ∧ n ≤ k
  | 0 => ⟨0, rfl, Nat.le_refl _⟩
  | k + 1 => by
    obtain ⟨n, h1, h2⟩ := coR_len W r u y k
    simp only [coR]
    split
    · exact ⟨n, by simpa using h1, by omega⟩
    · exact ⟨n + 1, by simp [h1]; omega, by omega⟩
theorem coA_len (W : Int) (hW : W ≤ 30) (r u : Nat → Int) : ∀ k, ∃ n, (coA W r u k).length = n * 3 ∧ n ≤ k * 30
  | 0 => ⟨0, rfl, Nat.le_refl _⟩
  | k + 1 => by
    obtain ⟨n, h1, h2⟩ := coA_len W hW r u k
    obtain ⟨m, h3, h4⟩ := coR_len W r u k (W - 1).toNat
    exact ⟨n + m, by simp only [coA, List.length_append, h1, h3]; omega, by omega⟩
/-- A list of numbers as cells. -/
def lCells (l : List Int) : List Value := l.map (Value.int .i64)
theorem lCells_one (l : List Int) : ∀ u ∈ lCells l, u.oneCell' = true := by
  intro u hu
  obtain ⟨x, -, rfl⟩ := List.mem_map.1 hu
  rfl
theorem infoC : (Try.prog.info? 43).map (fun i => (i.zero, i.size, i.bytes)) = some (some (.agg #[.int .i64 0, .int .i64 0, .int .i64 0]), 3, 24) := by kernel_rfl
/-- What stands while cores are gathered. -/
structure CoW (w0 w : World) (q B : Nat) (p : Array Value) (v : Value) (n : Nat) (l : List Int) : Prop where
  a1 : At 32 w q p
  own : w.ownsRow B 43 3 v n (lCells l)
  nn : v ≠ .slice none 0 0
  b : Below w0.heap.size w0 w
  o1 : q < B
  o2 : w0.heap.size = q
  o3 : B ≤ w.heap.size
theorem CoW.below {w0 w w' : World} {q B : Nat} {p : Array Value} {v : Value} {n : Nat} {l : List Int} (s : CoW w0 w q B p v n l) (hb : Below w.heap.size w w') : CoW w0 w' q B p v n l :=
  ⟨s.a1.below hb, own_below s.own hb, s.nn, s.b.trans (hb.mono s.b.size), s.o1, s.o2, Nat.le_trans s.o3 hb.size⟩
theorem CoW.grow {w0 w w' : World} {q B : Nat} {p : Array Value} {v v' : Value} {n : Nat} {l l' : List Int} (s : CoW w0 w q B p v n l) (h1 : w'.ownsRow B 43 3 v' (n + 1) (lCells l ++ lCells l')) (hg : w.grownBy w' v.ownBlock) (hv : v' ≠ .slice none 0 0) : CoW w0 w' q B p v' (n + 1) (l ++ l') := by
  have Bg : Below B w w' := Below.grown (Below.refl _ _) hg s.o3 (fun x hx => ownBlock_ge s.own hx)
  have o1 := s.o1
  have o2 := s.o2
  refine ⟨s.a1.belowN Bg s.o1, by rw [lCells, List.map_append]; exact h1, hv, s.b.trans (Bg.mono (by omega)), o1, o2, Nat.le_trans s.o3 hg.size⟩
theorem news3 {w : World} {t : TypeId} {g : Nat} {x y b : Int} (h : At t w g #[.int .i64 x, .int .i64 y, .int .i64 b]) : ∀ j u, (lCells [x, y, b])[j]? = some u → w.cell? ((⟨g, 0, none⟩ : Addr).add j) = some u := by
  intro j u hu
  rcases j with _ | _ | _ | j
  · simp [lCells] at hu; subst hu; exact h.cell 0 rfl
  · simp [lCells] at hu; subst hu; exact h.cell 1 rfl
  · simp [lCells] at hu; subst hu; exact h.cell 2 rfl
  · simp [lCells] at hu
theorem own_mono {w : World} {B C : Nat} {e : TypeId} {k : Nat} {v : Value} {n : Nat} {xs : List Value} (h : w.ownsRow B e k v n xs) (hC : C ≤ B) : w.ownsRow C e k v n xs := by
  refine ⟨h.1, h.2.imp id ?_⟩
  rintro ⟨g, cap, cur, rfl, h1, h2⟩
  exact ⟨g, cap, cur, rfl, Nat.le_trans hC h1, h2⟩
/-- The answer: the cores, in memory of its own. -/
def CoreT (w : World) (lo : Nat) (v : Value) (l : List Int) : Prop := ∃ n, l.length = n * 3 ∧ w.ownsRow lo 43 3 v n (lCells l) ∧ v ≠ .slice none 0 0
set_option maxRecDepth 100000 in
set_option maxHeartbeats 3200000 in
theorem implCores_yes {w : World} {a a' : Option Addr} {lr lu cr cu : Nat} {r u : Nat → Int} (W H : Int) (hr : Src w a lr r) (hu : Src w a' lu u) (hlr : lr ≤ 1048576) (hlu : lu ≤ 1048576) (hok : netOk W H lr r lu u = true) :
    Calls Try.prog 19 #[nV W H (.slice a lr cr) (.slice a' lu cu)] w fun e w' => ∃ v, e = .returned v ∧ CoreT w' w.heap.size v (coA W r u (H - 1).toNat) ∧ Below w.heap.size w w' := by
  obtain ⟨V, hV, A1, B1, -⟩ := boxed w 32 #[.int .i64 W, .int .i64 H, .slice a lr cr, .slice a' lu cu]
  obtain ⟨V2, hV2, A2, B2, -⟩ := boxed V 43 #[]
  obtain ⟨hW, hH, -⟩ := netOk_of_true hok
  obtain ⟨i0, hi0, hz0, hz1, hz2⟩ := info_parts infoC
  obtain ⟨q, hq⟩ : ∃ q, w.heap.size = q := ⟨_, rfl⟩
  obtain ⟨B, hB⟩ : ∃ q, V.heap.size = q := ⟨_, rfl⟩
  have R : CoW w V2 q B #[.int .i64 W, .int .i64 H, .slice a lr cr, .slice a' lu cu] (.slice (some ⟨B, 0, none⟩) 0 0) 0 [] := by
    have s1 := A1.lt
    have s2 := A2.lt
    exact ⟨hq ▸ A1.below B2, ⟨rfl, .inr ⟨B, 0, #[], rfl, Nat.le_refl _, hB ▸ A2, Nat.le_refl _, Nat.zero_le _, rfl, rfl⟩⟩, ne_nil _ _ _, B1.trans (B2.mono B1.size), by omega, hq, by omega⟩
  clear A1 A2 B1 B2
  obtain ⟨c0, c1, c2, c3, -⟩ := R.a1.open4
  have hbs : ∀ w, (Instr.buildSlice 40 0 #[]).run Try.prog w = .ok (.slice (some ⟨w.heap.size, 0, none⟩) 0 0) (w.alloc (.cells #[] 43)) := fun _ => by kernel_rfl
  have lq := R.a1.lt
  go_enter Try.func19, Try.ntmps19
  go_wp2_with fail
  clear hV hV2
  refine (implNetOk_any W H (hr.below R.b) (hu.below R.b) hlr hlu).mono ?_
  rintro e w1 ⟨rfl, b1⟩
  rw [hok]
  clear c0 c1 c2 c3 lq
  replace R := R.below b1
  clear b1
  have lq := R.a1.lt
  obtain ⟨c0, c1, c2, c3, -⟩ := R.a1.open4
  go_wp2_with fail
  clear c0 c1 c2 c3 lq
  go_loopw [3, 15] (fun s t wr => ∃ (Y n : Nat) (l : List Int), (Y : Int) ≤ H - 1 ∧ coA W r u Y = l ∧ (l.length = n * 3 ∧ n ≤ Y * 30) ∧ t = .int .i64 (Y : Int) ∧ CoW w wr q B #[.int .i64 W, .int .i64 H, .slice a lr cr, .slice a' lu cu] s n l) (fun _ t _ => (H - intOf t).toNat)
  case atStart => exact ⟨0, 0, [], by omega, rfl, ⟨rfl, by omega⟩, rfl, R⟩
  case round =>
    clear R
    obtain ⟨Y, n, l, hY, hl, ⟨hn, hnY⟩, rfl, R⟩ := hrel
    have lq := R.a1.lt
    obtain ⟨c0, c1, c2, c3, -⟩ := R.a1.open4
    by_cases hlt : (Y : Int) < H - 1
    · go_wp2
      clear c0 c1 c2 c3 lq
      go_loopw [3, 21] (fun s t wr => ∃ (X n : Nat) (l : List Int), (X : Int) ≤ W - 1 ∧ coA W r u Y ++ coR W r u Y X = l ∧ (l.length = n * 3 ∧ n ≤ Y * 30 + X) ∧ t = .int .i64 (X : Int) ∧ CoW w wr q B #[.int .i64 W, .int .i64 H, .slice a lr cr, .slice a' lu cu] s n l) (fun _ t _ => (W - intOf t).toNat)
      case atStart => exact ⟨0, n, l, by omega, by rw [hl]; simp [coR], ⟨hn, by omega⟩, rfl, R⟩
      case round =>
        clear R hn hnY hl
        obtain ⟨X, n, l, hX, hl, ⟨hn, hnX⟩, rfl, R⟩ := hrel
        have lq := R.a1.lt
        obtain ⟨c0, c1, c2, c3, -⟩ := R.a1.open4
        by_cases hltX : (X : Int) < W - 1
        · have hnext : coR W r u Y (X + 1) = coR W r u Y X ++ (if buT W r u X Y = 0 then [] else [(X : Int), (Y : Int), buT W r u X Y]) := rfl
          obtain ⟨bb, hbb⟩ : ∃ b, buT W r u X Y = b := ⟨_, rfl⟩
          rw [hbb] at hnext
          go_wp2_with fail
          refine (around_any W H X Y (X + 1) (Y + 1) (hr.below R.b) (hu.below R.b) hok ⟨by omega, by omega, by omega⟩ ⟨by omega, by omega, by omega⟩).mono ?_
          rintro e w9 ⟨rfl, b9⟩
          rw [arT_square, hbb]
          clear c0 c1 c2 c3 lq
          replace R := R.below b9
          have lq := R.a1.lt
          obtain ⟨c0, c1, c2, c3, -⟩ := R.a1.open4
          by_cases hb0 : bb = 0
          · have hb0' : (bb != 0) = false := by simp [hb0]
            go_wp2
            refine ⟨⟨X + 1, n, l, by omega, ?_, ⟨hn, by omega⟩, by go_num, R⟩, by simp [intOf]; omega⟩
            rw [hnext, if_pos hb0, ← hl]; simp
          · have hb0' : (bb != 0) = true := by simp [hb0]
            have hb1 := hb0
            obtain ⟨V9, hV9, A9, b10, -⟩ := boxed w9 43 #[.int .i64 (X : Int), .int .i64 (Y : Int), .int .i64 bb]
            have R9 := R.below b10
            obtain ⟨g9, hg9⟩ : ∃ g, w9.heap.size = g := ⟨_, rfl⟩
            rw [hg9] at A9
            have hb2 : ∀ w, (Instr.buildSlice 40 1 #[(0, .agg #[.int .i64 (X : Int), .int .i64 (Y : Int), .int .i64 bb])]).run Try.prog w = .ok (.slice (some ⟨w.heap.size, 0, none⟩) 1 1) (w.alloc (.cells #[.int .i64 (X : Int), .int .i64 (Y : Int), .int .i64 bb] 43)) := fun _ => by kernel_rfl
            have hn3 : n ≤ 2000 := by omega
            clear b10 b9
            go_wp2_with (at_builtin; refine wpList_append_own _ rfl _ _ _ rfl B 43 i0 _ 3 24 Try.underlying40 hi0 hz0 hz1 hz2 rfl (by omega) u3 n (lCells l) rfl R9.own ⟨g9, 0, none⟩ 1 1 (lCells [(X : Int), (Y : Int), bb]) rfl rfl (news3 A9) (lCells_one _) (by unfold maxLen; omega) (by omega) R9.o3 ?_; intro v2 w2 hown2 hgrow2 hne2)
            have R2 := R9.grow hown2 hgrow2 (fun h => R9.nn (hne2.1 h).1)
            refine ⟨⟨X + 1, n + 1, l ++ [(X : Int), (Y : Int), bb], by omega, ?_, ⟨by simp [hn]; omega, by omega⟩, by go_num, R2⟩, by simp [intOf]; omega⟩
            rw [hnext, if_neg hb1, ← hl]; simp
        · have hXW : X = (W - 1).toNat := by omega
          go_wp2
          refine ⟨⟨Y + 1, n, l, by omega, ?_, ⟨hn, by omega⟩, by go_num, R⟩, by simp [intOf]; omega⟩
          rw [show coA W r u (Y + 1) = coA W r u Y ++ coR W r u Y (W - 1).toNat from rfl, ← hXW]
          exact hl
    · have hYH : Y = (H - 1).toNat := by omega
      go_wp2
      have hYe : H.toNat - 1 = Y := by omega
      refine bodyPost_ret (v := u3) (by simp [results, Try.results19, go_sem]) rfl ⟨_, rfl, ?_, by rw [← hq]; exact R.b⟩
      rw [hYe]
      exact ⟨n, by rw [hl]; exact hn, by rw [hl]; exact own_mono R.own (by have := R.o1; omega), R.nn⟩
set_option maxRecDepth 100000 in
set_option maxHeartbeats 3200000 in
theorem specCores_yes {w : World} {a a' : Option Addr} {lr lu cr cu : Nat} {r u : Nat → Int} (W H : Int) (hr : Src w a lr r) (hu : Src w a' lu u) (hlr : lr ≤ 1048576) (hlu : lu ≤ 1048576) (hok : netOk W H lr r lu u = true) :
    Calls Try.prog 28 #[nV W H (.slice a lr cr) (.slice a' lu cu)] w fun e w' => ∃ v, e = .returned v ∧ CoreT w' w.heap.size v (coA W r u (H - 1).toNat) ∧ Below w.heap.size w w' := by
  obtain ⟨V, hV, A1, B1, -⟩ := boxed w 32 #[.int .i64 W, .int .i64 H, .slice a lr cr, .slice a' lu cu]
  obtain ⟨V2, hV2, A2, B2, -⟩ := boxed V 43 #[]
  obtain ⟨hW, hH, -⟩ := netOk_of_true hok
  obtain ⟨i0, hi0, hz0, hz1, hz2⟩ := info_parts infoC
  obtain ⟨q, hq⟩ : ∃ q, w.heap.size = q := ⟨_, rfl⟩
  obtain ⟨B, hB⟩ : ∃ q, V.heap.size = q := ⟨_, rfl⟩
  have R : CoW w V2 q B #[.int .i64 W, .int .i64 H, .slice a lr cr, .slice a' lu cu] (.slice (some ⟨B, 0, none⟩) 0 0) 0 [] := by
    have s1 := A1.lt
    have s2 := A2.lt
    exact ⟨hq ▸ A1.below B2, ⟨rfl, .inr ⟨B, 0, #[], rfl, Nat.le_refl _, hB ▸ A2, Nat.le_refl _, Nat.zero_le _, rfl, rfl⟩⟩, ne_nil _ _ _, B1.trans (B2.mono B1.size), by omega, hq, by omega⟩
  clear A1 A2 B1 B2
  obtain ⟨c0, c1, c2, c3, -⟩ := R.a1.open4
  have hbs : ∀ w, (Instr.buildSlice 40 0 #[]).run Try.prog w = .ok (.slice (some ⟨w.heap.size, 0, none⟩) 0 0) (w.alloc (.cells #[] 43)) := fun _ => by kernel_rfl
  have lq := R.a1.lt
  go_enter Try.func28, Try.ntmps28
  go_wp2_with fail
  clear hV hV2
  refine (specNetOk_any W H (hr.below R.b) (hu.below R.b) hlr hlu).mono ?_
  rintro e w1 ⟨rfl, b1⟩
  rw [hok]
  clear c0 c1 c2 c3 lq
  replace R := R.below b1
  clear b1
  have lq := R.a1.lt
  obtain ⟨c0, c1, c2, c3, -⟩ := R.a1.open4
  go_wp2_with fail
  clear c0 c1 c2 c3 lq
  go_loopw [3, 4] (fun s t wr => ∃ (Y n : Nat) (l : List Int), (Y : Int) ≤ H - 1 ∧ coA W r u Y = l ∧ (l.length = n * 3 ∧ n ≤ Y * 30) ∧ t = .int .i64 (Y : Int) ∧ CoW w wr q B #[.int .i64 W, .int .i64 H, .slice a lr cr, .slice a' lu cu] s n l) (fun _ t _ => (H - intOf t).toNat)
  case atStart => exact ⟨0, 0, [], by omega, rfl, ⟨rfl, by omega⟩, rfl, R⟩
  case round =>
    clear R
    obtain ⟨Y, n, l, hY, hl, ⟨hn, hnY⟩, rfl, R⟩ := hrel
    have lq := R.a1.lt
    obtain ⟨c0, c1, c2, c3, -⟩ := R.a1.open4
    by_cases hlt : (Y : Int) < H - 1
    · have hltY' : (Y : Int) + 1 < H := by omega
      go_wp2
      clear c0 c1 c2 c3 lq
      go_loopw [3, 5] (fun s t wr => ∃ (X n : Nat) (l : List Int), (X : Int) ≤ W - 1 ∧ coA W r u Y ++ coR W r u Y X = l ∧ (l.length = n * 3 ∧ n ≤ Y * 30 + X) ∧ t = .int .i64 (X : Int) ∧ CoW w wr q B #[.int .i64 W, .int .i64 H, .slice a lr cr, .slice a' lu cu] s n l) (fun _ t _ => (W - intOf t).toNat)
      case atStart => exact ⟨0, n, l, by omega, by rw [hl]; simp [coR], ⟨hn, by omega⟩, rfl, R⟩
      case round =>
        clear R hn hnY hl
        obtain ⟨X, n, l, hX, hl, ⟨hn, hnX⟩, rfl, R⟩ := hrel
        have lq := R.a1.lt
        obtain ⟨c0, c1, c2, c3, -⟩ := R.a1.open4
        by_cases hltX : (X : Int) < W - 1
        · have hnext : coR W r u Y (X + 1) = coR W r u Y X ++ (if buT W r u X Y = 0 then [] else [(X : Int), (Y : Int), buT W r u X Y]) := rfl
          obtain ⟨bb, hbb⟩ : ∃ b, buT W r u X Y = b := ⟨_, rfl⟩
          rw [hbb] at hnext
          have hltX' : (X : Int) + 1 < W := by omega
          go_wp2_with fail
          refine (specBurgers_yes W H X Y (hr.below R.b) (hu.below R.b) hlr hlu hok (by simp only [sq, Bool.and_eq_true, decide_eq_true_eq]; omega)).mono ?_
          rintro e w9 ⟨rfl, b9⟩
          rw [hbb]
          clear c0 c1 c2 c3 lq
          replace R := R.below b9
          have lq := R.a1.lt
          obtain ⟨c0, c1, c2, c3, -⟩ := R.a1.open4
          by_cases hb0 : bb = 0
          · have hb0' : (bb != 0) = false := by simp [hb0]
            go_wp2
            refine ⟨⟨X + 1, n, l, by omega, ?_, ⟨hn, by omega⟩, by go_num, R⟩, by simp [intOf]; omega⟩
            rw [hnext, if_pos hb0, ← hl]; simp
          · have hb0' : (bb != 0) = true := by simp [hb0]
            have hb1 := hb0
            obtain ⟨V9, hV9, A9, b10, -⟩ := boxed w9 43 #[.int .i64 (X : Int), .int .i64 (Y : Int), .int .i64 bb]
            have R9 := R.below b10
            obtain ⟨g9, hg9⟩ : ∃ g, w9.heap.size = g := ⟨_, rfl⟩
            rw [hg9] at A9
            have hb2 : ∀ w, (Instr.buildSlice 40 1 #[(0, .agg #[.int .i64 (X : Int), .int .i64 (Y : Int), .int .i64 bb])]).run Try.prog w = .ok (.slice (some ⟨w.heap.size, 0, none⟩) 1 1) (w.alloc (.cells #[.int .i64 (X : Int), .int .i64 (Y : Int), .int .i64 bb] 43)) := fun _ => by kernel_rfl
            have hn3 : n ≤ 2000 := by omega
            clear b10 b9
            go_wp2_with (at_builtin; refine wpList_append_own _ rfl _ _ _ rfl B 43 i0 _ 3 24 Try.underlying40 hi0 hz0 hz1 hz2 rfl (by omega) u3 n (lCells l) rfl R9.own ⟨g9, 0, none⟩ 1 1 (lCells [(X : Int), (Y : Int), bb]) rfl rfl (news3 A9) (lCells_one _) (by unfold maxLen; omega) (by omega) R9.o3 ?_; intro v2 w2 hown2 hgrow2 hne2)
            have R2 := R9.grow hown2 hgrow2 (fun h => R9.nn (hne2.1 h).1)
            refine ⟨⟨X + 1, n + 1, l ++ [(X : Int), (Y : Int), bb], by omega, ?_, ⟨by simp [hn]; omega, by omega⟩, by go_num, R2⟩, by simp [intOf]; omega⟩
            rw [hnext, if_neg hb1, ← hl]; simp
        · have hXW : X = (W - 1).toNat := by omega
          have hltX' : ¬ (X : Int) + 1 < W := by omega
          go_wp2
          refine ⟨⟨Y + 1, n, l, by omega, ?_, ⟨hn, by omega⟩, by go_num, R⟩, by simp [intOf]; omega⟩
          rw [show coA W r u (Y + 1) = coA W r u Y ++ coR W r u Y (W - 1).toNat from rfl, ← hXW]
          exact hl
    · have hYH : Y = (H - 1).toNat := by omega
      have hltY' : ¬ (Y : Int) + 1 < H := by omega
      go_wp2
      have hYe : H.toNat - 1 = Y := by omega
      refine bodyPost_ret (v := u3) (by simp [results, Try.results28, go_sem]) rfl ⟨_, rfl, ?_, by rw [← hq]; exact R.b⟩
      rw [hYe]
      exact ⟨n, by rw [hl]; exact hn, by rw [hl]; exact own_mono R.own (by have := R.o1; omega), R.nn⟩
theorem implCores_no {w : World} {a a' : Option Addr} {lr lu cr cu : Nat} {r u : Nat → Int} (W H : Int) (hr : Src w a lr r) (hu : Src w a' lu u) (hlr : lr ≤ 1048576) (hlu : lu ≤ 1048576) (hok : netOk W H lr r lu u = false) :
    Calls Try.prog 19 #[nV W H (.slice a lr cr) (.slice a' lu cu)] w fun e w' => ∃ v, e = .returned v ∧ CoreT w' w.heap.size v [] ∧ Below w.heap.size w w' := by
  obtain ⟨V, hV, A1, B1, -⟩ := boxed w 32 #[.int .i64 W, .int .i64 H, .slice a lr cr, .slice a' lu cu]
  obtain ⟨V2, hV2, A2, B2, -⟩ := boxed V 43 #[]
  obtain ⟨q, hq⟩ : ∃ q, w.heap.size = q := ⟨_, rfl⟩
  obtain ⟨B, hB⟩ : ∃ q, V.heap.size = q := ⟨_, rfl⟩
  have R : CoW w V2 q B #[.int .i64 W, .int .i64 H, .slice a lr cr, .slice a' lu cu] (.slice (some ⟨B, 0, none⟩) 0 0) 0 [] := by
    have s1 := A1.lt
    have s2 := A2.lt
    exact ⟨hq ▸ A1.below B2, ⟨rfl, .inr ⟨B, 0, #[], rfl, Nat.le_refl _, hB ▸ A2, Nat.le_refl _, Nat.zero_le _, rfl, rfl⟩⟩, ne_nil _ _ _, B1.trans (B2.mono B1.size), by omega, hq, by omega⟩
  clear A1 A2 B1 B2
  obtain ⟨c0, c1, c2, c3, -⟩ := R.a1.open4
  have hbs : ∀ w, (Instr.buildSlice 40 0 #[]).run Try.prog w = .ok (.slice (some ⟨w.heap.size, 0, none⟩) 0 0) (w.alloc (.cells #[] 43)) := fun _ => by kernel_rfl
  have lq := R.a1.lt
  go_enter Try.func19, Try.ntmps19
  go_wp2_with fail
  clear hV hV2
  refine (implNetOk_any W H (hr.below R.b) (hu.below R.b) hlr hlu).mono ?_
  rintro e w1 ⟨rfl, b1⟩
  rw [hok]
  replace R := R.below b1
  go_wp2
  refine bodyPost_ret (v := .slice (some ⟨B, 0, none⟩) 0 0) (by simp [results, Try.results19, go_sem]) rfl ⟨_, rfl, ?_, R.b⟩
  exact ⟨0, rfl, own_mono R.own (by have := R.o1; omega), R.nn⟩
theorem specCores_no {w : World} {a a' : Option Addr} {lr lu cr cu : Nat} {r u : Nat → Int} (W H : Int) (hr : Src w a lr r) (hu : Src w a' lu u) (hlr : lr ≤ 1048576) (hlu : lu ≤ 1048576) (hok : netOk W H lr r lu u = false) :
    Calls Try.prog 28 #[nV W H (.slice a lr cr) (.slice a' lu cu)] w fun e w' => ∃ v, e = .returned v ∧ CoreT w' w.heap.size v [] ∧ Below w.heap.size w w' := by
  obtain ⟨V, hV, A1, B1, -⟩ := boxed w 32 #[.int .i64 W, .int .i64 H, .slice a lr cr, .slice a' lu cu]
  obtain ⟨V2, hV2, A2, B2, -⟩ := boxed V 43 #[]
  obtain ⟨q, hq⟩ : ∃ q, w.heap.size = q := ⟨_, rfl⟩
  obtain ⟨B, hB⟩ : ∃ q, V.heap.size = q := ⟨_, rfl⟩
  have R : CoW w V2 q B #[.int .i64 W, .int .i64 H, .slice a lr cr, .slice a' lu cu] (.slice (some ⟨B, 0, none⟩) 0 0) 0 [] := by
    have s1 := A1.lt
    have s2 := A2.lt
    exact ⟨hq ▸ A1.below B2, ⟨rfl, .inr ⟨B, 0, #[], rfl, Nat.le_refl _, hB ▸ A2, Nat.le_refl _, Nat.zero_le _, rfl, rfl⟩⟩, ne_nil _ _ _, B1.trans (B2.mono B1.size), by omega, hq, by omega⟩
  clear A1 A2 B1 B2
  obtain ⟨c0, c1, c2, c3, -⟩ := R.a1.open4
  have hbs : ∀ w, (Instr.buildSlice 40 0 #[]).run Try.prog w = .ok (.slice (some ⟨w.heap.size, 0, none⟩) 0 0) (w.alloc (.cells #[] 43)) := fun _ => by kernel_rfl
  have lq := R.a1.lt
  go_enter Try.func28, Try.ntmps28
  go_wp2_with fail
  clear hV hV2
  refine (specNetOk_any W H (hr.below R.b) (hu.below R.b) hlr hlu).mono ?_
  rintro e w1 ⟨rfl, b1⟩
  rw [hok]
  replace R := R.below b1
  go_wp2
  refine bodyPost_ret (v := .slice (some ⟨B, 0, none⟩) 0 0) (by simp [results, Try.results28, go_sem]) rfl ⟨_, rfl, ?_, R.b⟩
  exact ⟨0, rfl, own_mono R.own (by have := R.o1; omega), R.nn⟩
end Go.Proofs.Ytlmgdcoknpakcaa
