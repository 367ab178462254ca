/-
  Characters, by the specification: walked.
-/
import Derived.Test.YtbninbeccgdemaaDoorRg
namespace Go.Proofs.YtbninbeccgdemaaDoor
open Go.RowKit

/-- The power at row k, place j. -/
def cp (n : Int) (k j : Nat) : Nat := ((Int.tdiv 12 n * (j : Int) * (k : Int)) % 12).toNat
theorem cp_lt (n : Int) (k j : Nat) : cp n k j < 12 := by unfold cp; omega
theorem cp_is (n : Int) (k j : Nat) : (Int.tdiv 12 n * (j : Int) * (k : Int)) % 12 = (cp n k j : Int) := by unfold cp; omega
/-- Number i of row k. -/
def cf (n : Int) (k i : Nat) : Int := rp (cp n k (i / 4) * 4 + i % 4)
theorem cf_4 (n : Int) (k j : Nat) : cf n k (j * 4) = rp (cp n k j * 4) ∧ cf n k (j * 4 + 1) = rp (cp n k j * 4 + 1) ∧ cf n k (j * 4 + 2) = rp (cp n k j * 4 + 2) ∧ cf n k (j * 4 + 3) = rp (cp n k j * 4 + 3) := by
  unfold cf
  rw [show j * 4 / 4 = j by omega, show (j * 4 + 1) / 4 = j by omega, show (j * 4 + 2) / 4 = j by omega, show (j * 4 + 3) / 4 = j by omega, show j * 4 % 4 = 0 by omega, show (j * 4 + 1) % 4 = 1 by omega, show (j * 4 + 2) % 4 = 2 by omega, show (j * 4 + 3) % 4 = 3 by omega]
  exact ⟨rfl, rfl, rfl, rfl⟩
theorem iCells_4 (f : Nat → Int) (j : Nat) (a b c d : Int) (h : f (j * 4) = a ∧ f (j * 4 + 1) = b ∧ f (j * 4 + 2) = c ∧ f (j * 4 + 3) = d) : iCells f (j * 4) ++ [.int .i64 a, .int .i64 b, .int .i64 c, .int .i64 d] = iCells f ((j + 1) * 4) := by
  obtain ⟨rfl, rfl, rfl, rfl⟩ := h
  rw [show (j + 1) * 4 = j * 4 + 1 + 1 + 1 + 1 by omega]
  simp [iCells]
theorem laid_of_row {w : World} {base n : Nat} {v : Value} {f : Nat → Int} (h : w.ownsRow base 33 4 v n (iCells f (n * 4))) (hv : v ≠ .slice none 0 0) : ∃ g c, v = .slice (some ⟨g, 0, none⟩) n c ∧ base ≤ g ∧ n ≤ c ∧ Laid4 w g c n f := by
  rcases h.2 with ⟨h1, _⟩ | ⟨g, c, cur, rfl, hb, hh, hc1, hc2, hsz, ht⟩
  · exact absurd h1 hv
  · refine ⟨g, c, rfl, hb, hc1, cur, hh, hsz, fun i hi => ?_⟩
    have a1 := iCells_at f hi
    rw [← ht] at a1
    rw [List.getElem?_take_of_lt (by omega)] at a1
    simpa using a1
/-- The rows' places. -/
def sCells (G C : Nat → Nat) (n : Nat) : Nat → List Value
  | 0 => []
  | k + 1 => sCells G C n k ++ [.slice (some ⟨G k, 0, none⟩) n (C k)]
theorem sCells_len (G C : Nat → Nat) (n k : Nat) : (sCells G C n k).length = k := by
  induction k with
  | zero => rfl
  | succ k ih => simp [sCells, ih]
theorem sCells_at (G C : Nat → Nat) (n : Nat) {k i : Nat} (h : i < k) : (sCells G C n k)[i]? = some (.slice (some ⟨G i, 0, none⟩) n (C i)) := by
  induction k with
  | zero => omega
  | succ k ih =>
    unfold sCells
    have hl := sCells_len G C n k
    by_cases e : i = k
    · subst e
      rw [List.getElem?_append_right (by omega), hl]; simp
    · rw [List.getElem?_append_left (by omega)]; exact ih (by omega)
theorem sCells_congr {G C G' C' : Nat → Nat} {n k : Nat} (h : ∀ i, i < k → G i = G' i ∧ C i = C' i) : sCells G C n k = sCells G' C' n k := by
  induction k with
  | zero => rfl
  | succ k ih => unfold sCells; rw [ih (fun i hi => h i (by omega)), (h k (by omega)).1, (h k (by omega)).2]
/-- k rows that were told. -/
def Rows4 (w : World) (lo : Nat) (n k : Nat) (G C : Nat → Nat) (F : Nat → Nat → Int) : Prop := (∀ i, i < k → lo ≤ G i ∧ n ≤ C i ∧ Laid4 w (G i) (C i) n (F i)) ∧ ∀ i j, i < k → j < k → i ≠ j → G i ≠ G j
theorem Rows4.below {w w' : World} {lo n k : Nat} {G C : Nat → Nat} {F : Nat → Nat → Int} (h : Rows4 w lo n k G C F) (hb : Below w.heap.size w w') : Rows4 w' lo n k G C F :=
  ⟨fun i hi => ⟨(h.1 i hi).1, (h.1 i hi).2.1, (h.1 i hi).2.2.below hb⟩, h.2⟩
theorem Rows4.more {w : World} {lo n k g c : Nat} {G C : Nat → Nat} {F : Nat → Nat → Int} (h : Rows4 w lo n k G C F) (h1 : lo ≤ g) (h2 : n ≤ c) (h3 : Laid4 w g c n (F k)) (h4 : ∀ i, i < k → G i ≠ g) : Rows4 w lo n (k + 1) (fun i => if i = k then g else G i) (fun i => if i = k then c else C i) F := by
  refine ⟨fun i hi => ?_, fun i j hi hj hij => ?_⟩
  · by_cases e : i = k
    · subst e; simp only [if_pos]; exact ⟨h1, h2, h3⟩
    · simp only [if_neg e]; exact h.1 i (by omega)
  · by_cases e : i = k
    · subst e; simp only [if_pos]; rw [if_neg (by omega)]; exact Ne.symm (h4 j (by omega))
    · simp only [if_neg e]
      by_cases e2 : j = k
      · rw [if_pos e2]; exact h4 i (by omega)
      · rw [if_neg e2]; exact h.2 i j (by omega) (by omega) hij
theorem Rows4.grown {w w' : World} {lo n k : Nat} {G C : Nat → Nat} {F : Nat → Nat → Int} {row : Option Nat} (h : Rows4 w lo n k G C F) (hg : w.grownBy w' row) (hr : ∀ i, i < k → some (G i) ≠ row) : Rows4 w' lo n k G C F := by
  refine ⟨fun i hi => ⟨(h.1 i hi).1, (h.1 i hi).2.1, ?_⟩, h.2⟩
  obtain ⟨cur, h1, h2⟩ := (h.1 i hi).2.2
  exact ⟨cur, (hg.block (G i) h1.lt (hr i hi)).trans h1, h2⟩
/-- A row's block is not the list's. -/
theorem apart_of {w : World} {g c n : Nat} {f : Nat → Int} {go : Nat} {cur : Array Value} (h : Laid4 w g c n f) (ho : At 34 w go cur) : g ≠ go := by
  rintro rfl
  obtain ⟨cur', h1, -⟩ := h
  have e := (show _ = _ from h1).symm.trans ho
  injection e with e
  injection e with e1 e2
  exact absurd e2 (by decide)
theorem rows_apart {w : World} {base lo n k m : Nat} {G C : Nat → Nat} {F : Nat → Nat → Int} {v : Value} {xs : List Value} (h : Rows4 w lo n k G C F) (ho : w.ownsRow base 34 1 v m xs) : ∀ i, i < k → some (G i) ≠ v.ownBlock := by
  intro i hi e
  rcases ho.2 with ⟨rfl, _⟩ | ⟨g, c, cur, rfl, hb, hh, -⟩
  · cases e
  · cases e
    exact apart_of (h.1 i hi).2.2 (show At 34 w (G i) cur from hh) rfl
theorem grid_of {w : World} {base n : Nat} {G C : Nat → Nat} {F : Nat → Nat → Int} {v : Value} (ho : w.ownsRow base 34 1 v n (sCells G C n n)) (h : Rows4 w base n n G C F) (hv : v ≠ .slice none 0 0) : Grid w base w.heap.size v n F := by
  rcases ho.2 with ⟨h1, _⟩ | ⟨g, c, cur, rfl, hb, hh, hc1, hc2, hsz, ht⟩
  · exact absurd h1 hv
  · refine ⟨g, c, G, C, cur, rfl, ⟨hb, (Array.getElem?_eq_some_iff.1 hh).1⟩, hh, fun k hk => ?_, fun k hk => ?_, h.2⟩
    · have a1 := sCells_at G C n hk
      rw [← ht] at a1
      rw [List.getElem?_take_of_lt (by omega)] at a1
      simpa using a1
    · obtain ⟨p1, p2, p3⟩ := h.1 k hk
      exact ⟨p1, p3.lt, apart_of p3 (show At 34 w g cur from hh), p2, p3⟩
theorem build0c (w : World) : (Instr.buildSlice 34 0 #[]).run Tryd.prog w = .ok (.slice (some ⟨w.heap.size, 0, none⟩) 0 0) (w.alloc (.cells #[] 33)) := by kernel_rfl
theorem build0r (w : World) : (Instr.buildSlice 30 0 #[]).run Tryd.prog w = .ok (.slice (some ⟨w.heap.size, 0, none⟩) 0 0) (w.alloc (.cells #[] 34)) := by kernel_rfl
theorem infoC : (Tryd.prog.info? 33).map (fun i => (i.zero, i.size, i.bytes)) = some (some (.agg #[.int .i64 0, .int .i64 0, .int .i64 0, .int .i64 0]), 4, 32) := by kernel_rfl
theorem infoR : (Tryd.prog.info? 34).map (fun i => (i.zero, i.size, i.bytes)) = some (some (.slice none 0 0), 1, 24) := by kernel_rfl
set_option maxRecDepth 100000 in
set_option maxHeartbeats 3200000 in
theorem specChar_yes {w : World} (n : Int) (N : Nat) (hN : (N : Int) = n) (hside : side n) :
    Calls Tryd.prog 11 #[.int .i64 n] w fun e w' => ∃ v, e = .returned v ∧ Grid w' w.heap.size w'.heap.size v N (cf n) ∧ Below w.heap.size w w' := by
  have hd : decide (side n) = true := decide_eq_true hside
  obtain ⟨q0, -⟩ := side_by hside
  have hbc := build0c
  have hbr := build0r
  have hn0 : ¬ n = 0 := by omega
  have hT : 1 ≤ Int.tdiv 12 n ∧ Int.tdiv 12 n ≤ 12 := by rcases hside with rfl | rfl | rfl | rfl | rfl | rfl <;> decide
  have hcp := fun k j => cp_is n k j
  obtain ⟨T, hTT⟩ : ∃ T, Int.tdiv 12 n = T := ⟨_, rfl⟩
  rw [hTT] at hT hcp
  go_enter Tryd.func11, Tryd.ntmps11
  go_wp2_with (go_at_call 31; refine (order_any _ _).mono ?_; rintro e w2 ⟨rfl, rfl⟩; try rw [hd])
  have o0 : (w.alloc (.cells #[] 34)).ownsRow w.heap.size 34 1 (.slice (some ⟨w.heap.size, 0, none⟩) 0 0) 0 (sCells (fun _ => 0) (fun _ => 0) N 0) :=
    ⟨rfl, .inr ⟨w.heap.size, 0, #[], rfl, Nat.le_refl _, heap_alloc_new _ _, Nat.le_refl _, Nat.zero_le _, rfl, rfl⟩⟩
  have b0 : Below w.heap.size w (w.alloc (.cells #[] 34)) := below_alloc _ _
  go_loopw [3, 4] (fun v s wr => ∃ (k : Nat) (G C : Nat → Nat), k ≤ N ∧ s = .int .i64 k ∧ Hid (v ≠ .slice none 0 0) ∧ wr.ownsRow w.heap.size 34 1 v k (sCells G C N k) ∧ Rows4 wr w.heap.size N k G C (cf n) ∧ Below w.heap.size w wr) (fun _ s _ => N - (intOf s).toNat)
  case atStart => exact ⟨0, _, _, Nat.zero_le _, rfl, ne_nil _ _ _, o0, ⟨fun i hi => absurd hi (by omega), fun i j hi => absurd hi (by omega)⟩, b0⟩
  case round =>
    clear o0 b0
    obtain ⟨k, G, C, hk, rfl, hnn, own, R, bW⟩ := hrel
    by_cases hlt : k < N
    · have hlt' : (k : Int) < n := by omega
      go_wp2_with fail
      obtain ⟨wo, rfl⟩ : ∃ x, x = wr := ⟨_, rfl⟩
      have o1 : (wo.alloc (.cells #[] 33)).ownsRow wo.heap.size 33 4 (.slice (some ⟨wo.heap.size, 0, none⟩) 0 0) 0 (iCells (cf n k) (0 * 4)) :=
        ⟨rfl, .inr ⟨wo.heap.size, 0, #[], rfl, Nat.le_refl _, heap_alloc_new _ _, Nat.le_refl _, Nat.zero_le _, rfl, rfl⟩⟩
      have b1 : Below wo.heap.size wo (wo.alloc (.cells #[] 33)) := below_alloc _ _
      obtain ⟨B, hB⟩ : ∃ B, wo.heap.size = B := ⟨_, rfl⟩
      have hBr : Hid (wo.heap.size = B) := hB
      rw [hB] at o1 b1 ⊢
      clear hB
      go_loopw [5, 6] (fun u s wr => ∃ j : Nat, j ≤ N ∧ s = .int .i64 j ∧ Hid (u ≠ .slice none 0 0) ∧ wr.ownsRow B 33 4 u j (iCells (cf n k) (j * 4)) ∧ Below B wo wr ∧ B ≤ wr.heap.size) (fun _ s _ => N - (intOf s).toNat)
      case atStart => exact ⟨0, Nat.zero_le _, rfl, ne_nil _ _ _, o1, b1, by have := hBr.out; simp; omega⟩
      case round =>
        clear o1 b1
        obtain ⟨j, hj, rfl, hnu, ou, bq, hBs⟩ := hrel
        by_cases hlj : j < N
        · have hlj' : (j : Int) < n := by omega
          have t1 := prod_le (x := T) (y := (j : Int)) (M := 12) (N := 11) (by omega) (by omega)
          have t2 := prod_le (x := T * (j : Int)) (y := (k : Int)) (M := 132) (N := 11) (by omega) (by omega)
          obtain ⟨R0, R1, R2, R3, ⟨e0, e1, e2, e3⟩, -, RC⟩ := root_some (T * (j : Int) * (k : Int)) ⟨by omega, by omega⟩ (cp n k j) (cp_lt n k j) (hcp k j)
          obtain ⟨x0, x1, x2, x3⟩ := cf_4 n k j
          rw [show cp n k j * 4 + 0 = cp n k j * 4 by omega] at e0
          have hx : cf n k (j * 4) = R0 ∧ cf n k (j * 4 + 1) = R1 ∧ cf n k (j * 4 + 2) = R2 ∧ cf n k (j * 4 + 3) = R3 := ⟨x0.trans e0, x1.trans e1, x2.trans e2, x3.trans e3⟩
          clear e0 e1 e2 e3 x0 x1 x2 x3
          go_wp2_with fail
          refine (RC _).mono ?_
          rintro e w5 ⟨rfl, b5⟩
          replace ou := own_below ou b5
          replace bq := bq.trans (b5.mono hBs)
          replace hBs := Nat.le_trans hBs b5.size
          clear b5 RC
          have bA : Below B wo (w5.alloc (.cells #[.int .i64 R0, .int .i64 R1, .int .i64 R2, .int .i64 R3] 33)) := bq.alloc hBs _
          obtain ⟨i0, hi0, hz0, hz1, hz2⟩ := info_parts infoC
          go_wp2_with (at_builtin; refine wpList_append_lies _ rfl _ _ _ rfl B 33 i0 _ 4 32 Tryd.underlying34 hi0 hz0 hz1 hz2 rfl (by omega) u5 j (iCells (cf n k) (j * 4)) rfl (ou.alloc _) ⟨w5.heap.size, 0, none⟩ 1 1 [.int .i64 R0, .int .i64 R1, .int .i64 R2, .int .i64 R3] rfl rfl (World.news_of_block (cs := #[.int .i64 R0, .int .i64 R1, .int .i64 R2, .int .i64 R3]) (t := 33) (fr := (0, 0)) (heap_alloc_new w5 _)) (by simp [Value.oneCell']) (by omega) (by unfold maxLen; omega) (by omega) (by simp; omega) (w5.heap.size + 1) (by simp) ?_; intro g gcap w2 hown2 hgrow hat hlt3)
          rw [iCells_4 (cf n k) j R0 R1 R2 R3 hx] at hown2
          exact ⟨⟨j + 1, by omega, by go_num, ne_nil _ _ _, hown2, below_grown bA hgrow (fun b hb => ownBlock_ge ou hb) (by simp; omega), Nat.le_trans (by simp; omega) hgrow.size⟩, by simp [intOf]; omega⟩
        · have hlj' : ¬ (j : Int) < n := by omega
          obtain rfl : j = N := by omega
          obtain ⟨g, c, rfl, hg, hgc, L⟩ := laid_of_row ou hnu.out
          have hBr' := hBr.out
          have bq' : Below wo.heap.size wo wr := by rw [hBr']; exact bq
          have own2 := own_below own bq'
          have R2 := R.below bq'
          have bW2 := bW.trans (bq'.mono bW.size)
          have hgne : ∀ i, i < k → G i ≠ g := fun i hi e => by have := (R.1 i hi).2.2.lt; omega
          have hwB : w.heap.size ≤ B := hBr' ▸ bW.size
          have bA : Below w.heap.size w (wr.alloc (.cells #[.slice (some ⟨g, 0, none⟩) j c] 34)) := bW2.alloc bW2.size _
          have RA : Rows4 (wr.alloc (.cells #[.slice (some ⟨g, 0, none⟩) j c] 34)) w.heap.size j (k + 1) (fun i => if i = k then g else G i) (fun i => if i = k then c else C i) (cf n) := (R2.more (Nat.le_trans hwB hg) hgc L hgne).below (below_alloc _ _)
          have ownA := own2.alloc (.cells #[.slice (some ⟨g, 0, none⟩) j c] 34)
          have sw := bW2.size
          obtain ⟨i0, hi0, hz0, hz1, hz2⟩ := info_parts infoR
          go_wp2_with (at_builtin; refine wpList_append_lies _ rfl _ _ _ rfl w.heap.size 34 i0 _ 1 24 Tryd.underlying30 hi0 hz0 hz1 hz2 rfl (by omega) u3 k (sCells G C j k) rfl ownA ⟨wr.heap.size, 0, none⟩ 1 1 [.slice (some ⟨g, 0, none⟩) j c] rfl rfl (World.news_of_block (cs := #[.slice (some ⟨g, 0, none⟩) j c]) (t := 34) (fr := (0, 0)) (heap_alloc_new wr _)) (by simp [Value.oneCell']) (by omega) (by unfold maxLen; omega) (by omega) (by simp; omega) (wr.heap.size + 1) (by simp) ?_; intro g2 gcap w2 hown2 hgrow hat hlt3)
          have e9 : sCells G C j k ++ [.slice (some ⟨g, 0, none⟩) j c] = sCells (fun i => if i = k then g else G i) (fun i => if i = k then c else C i) j (k + 1) := by
            show _ = sCells _ _ j k ++ _
            rw [sCells_congr (G' := fun i => if i = k then g else G i) (C' := fun i => if i = k then c else C i) (fun i hi => ⟨by rw [if_neg (by omega)], by rw [if_neg (by omega)]⟩)]
            simp
          rw [e9] at hown2
          refine ⟨⟨k + 1, _, _, by omega, by go_num, ne_nil _ _ _, hown2, RA.grown hgrow ?_, below_grown bA hgrow (fun b hb => ownBlock_ge ownA hb) (by simp; omega)⟩, by simp [intOf]; omega⟩
          exact rows_apart RA ownA
    · have hlt' : ¬ (k : Int) < n := by omega
      obtain rfl : k = N := by omega
      have hG : Hid (Grid wr w.heap.size wr.heap.size u3 k (cf n)) := grid_of own R hnn.out
      go_wp2
      exact bodyPost_ret (v := u3) (by simp [results, Tryd.results11, go_sem]) rfl ⟨_, rfl, hG.out, bW⟩
end Go.Proofs.YtbninbeccgdemaaDoor
