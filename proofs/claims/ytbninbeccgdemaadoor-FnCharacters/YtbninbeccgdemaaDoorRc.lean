/-
  Traces reduced, by the program: walked.
-/
import Derived.Test.YtbninbeccgdemaaDoorRb
namespace Go.Proofs.YtbninbeccgdemaaDoor
open Go.RowKit

theorem tabR_set {w : World} {q m d : Nat} (h : Tab w) (hq : 0 < q) (v : Value) : Tab ((w.setCell ⟨q, m, none⟩ v).drewN d) := by
  have b : Below 1 w ((w.setCell ⟨q, m, none⟩ v).drewN d) := below_drewN (((Below.refl w.heap.size w).mono h.1).setCell (by show 1 ≤ q; omega) v) _
  exact ⟨Nat.lt_of_lt_of_le h.1 b.size, fun i hi => (b.cell (p := ⟨0, i, none⟩) (by show 0 < 1; omega)).trans (h.2 i hi)⟩
theorem Made.belowR {w w' : World} {g n k : Nat} {f : Nat → Int} (h : Made w g n k f) (hb : Below w.heap.size w w') : Made w' g n k f := by
  obtain ⟨cur, h1, h2⟩ := h
  exact ⟨cur, h1.below hb, h2⟩
theorem emptyArr2 {w : World} {o : Obj} {B : Nat} (h : B ≤ w.heap.size) : Arr ((w.alloc o).alloc (.cells #[] 2)) B ((w.alloc o).alloc (.cells #[] 2)).heap.size (.slice (some ⟨w.heap.size + 1, 0, none⟩) 0 0) 0 (fun _ => 0) := by
  have e : (w.alloc o).heap.size = w.heap.size + 1 := by simp
  have := emptyArr (w := w.alloc o) (B := B) (by omega)
  rw [e] at this
  exact this
theorem below_two {N : Nat} {w0 w : World} {o p : Obj} (h : Below N w0 w) (hN : N ≤ w.heap.size) : Below N w0 ((w.alloc o).alloc p) := (h.alloc hN _).alloc (by simp; omega) _
set_option maxRecDepth 100000 in
set_option maxHeartbeats 6400000 in
theorem implRed_yes {w : World} {a : Option Addr} {len cap : Nat} {f : Nat → Int} (n : Int) (hs : Src w a len f) (htr : trOk n len f) (ht : Tab w) :
    Calls Tryd.prog 8 #[.int .i64 n, .slice a len cap] w fun e w' => RedAt n f len w e w' := by
  have hdt : decide (trOk n len f) = true := decide_eq_true htr
  obtain ⟨hside, hl, hall⟩ := htr
  obtain ⟨q0, -⟩ := side_by hside
  have hll : (len : Int) ≤ 12 := by omega
  have hbs := build0
  obtain ⟨C, hC, hmk⟩ := make_ints len (by omega)
  rw [hl] at hmk
  have hn0 : ¬ n = 0 := by omega
  have h0w := ht.1
  go_enter Tryd.func8, Tryd.ntmps8
  go_wp2_with fail
  refine (traces_any n (by omega) hs (by omega)).mono ?_
  rintro e w1 ⟨rfl, bW⟩
  rw [hdt]
  replace ht := ht.below bW
  go_wp2_with fail
  obtain ⟨V1, hV1, bC, bb, -⟩ := boxed w1 2 C
  rw [hV1]
  have lg := bW.size
  obtain ⟨go, hgo⟩ : ∃ g, w1.heap.size = g := ⟨_, rfl⟩
  rw [hgo] at bC lg ⊢
  have M : Made V1 go len 0 (rd n f len) := ⟨C, bC, hC, fun i hi => by omega⟩
  replace ht := ht.below bb
  replace bW := bW.trans (bb.mono bW.size)
  clear hV1 bb bC hgo hmk hdt
  go_loopw [20] (fun s wr => ∃ r : Nat, r ≤ len ∧ s = .int .i64 r ∧ Made wr go len r (rd n f len) ∧ (∀ i, i < r → rOk n f len i) ∧ Tab wr ∧ Below w.heap.size w wr) (fun s _ => len - (intOf s).toNat)
  case atStart => exact ⟨0, Nat.zero_le _, rfl, M, fun i hi => absurd hi (by omega), ht, bW⟩
  case round =>
    clear M ht bW
    obtain ⟨r, hr, rfl, M, hok, ht, bW⟩ := hrel
    by_cases hlr : r < len
    · have hlr' : (r : Int) < n := by omega
      have lgo := M.lt
      go_wp2_with fail
      obtain ⟨V, hV, bq, bb, -⟩ := boxed wr 60 #[.int .i64 0, .int .i64 0, .int .i64 0, .int .i64 0, .int .i64 0, .int .i64 0, .int .i64 0, .int .i64 0, .int .i64 0, .int .i64 0, .int .i64 0, .int .i64 0]
      rw [hV]
      obtain ⟨q, hq⟩ : ∃ q, wr.heap.size = q := ⟨_, rfl⟩
      rw [hq] at bq lgo ⊢
      replace M := M.belowR bb
      replace ht := ht.below bb
      replace bW := bW.trans (bb.mono bW.size)
      clear hV bb hq
      go_loopw [25] (fun s wr => ∃ j : Nat, j ≤ len ∧ s = .int .i64 j ∧ At 60 wr q (a12 (cnt f (pk n r) j)) ∧ Made wr go len r (rd n f len) ∧ Tab wr ∧ Below w.heap.size w wr) (fun s _ => len - (intOf s).toNat)
      case atStart => exact ⟨0, Nat.zero_le _, rfl, bq, M, ht, bW⟩
      case round =>
        clear bq M ht bW
        obtain ⟨j, hj, rfl, bq, M, ht, bW⟩ := hrel
        by_cases hlj : j < len
        · have hlj' : (j : Int) < (len : Int) := by omega
          have hlj2 : (j : Int) < n := by omega
          rcases hs with h0 | ⟨b, off, rfl, hb, hrr⟩
          · omega
          have g0 := (bW.cell (p := ⟨b, off + j, none⟩) hb).trans (hrr j hlj)
          have hft := hall j hlj
          have hset := cnt_set f (pk n r) j (pk_lt n r j)
          have hcn := cnt_num (B := 1000) f (pk n r) j (fun i hi => hall i (by omega)) (pk n r j) (by decide)
          have hget := a12_get (cnt f (pk n r) j) (pk n r j) (pk_lt n r j)
          have hpm := pk_is n r j
          have hT : 1 ≤ Int.tdiv 12 n ∧ Int.tdiv 12 n ≤ 12 := by rcases hside with rfl | rfl | rfl | rfl | rfl | rfl <;> decide
          have CH := fun w => char_any n (r : Int) (j : Int) w hside (by omega) (by omega)
          obtain ⟨T, hTT⟩ : ∃ T, Int.tdiv 12 n = T := ⟨_, rfl⟩
          rw [hTT] at hT CH hpm
          have t1 := prod_le (x := T) (y := (j : Int)) (M := 12) (N := 11) (by omega) (by omega)
          have t2 := prod_le (x := T * (j : Int)) (y := (r : Int)) (M := 132) (N := 11) (by omega) (by omega)
          obtain ⟨U, hU⟩ : ∃ U, T * (j : Int) * (r : Int) = U := ⟨_, rfl⟩
          rw [hU] at t2 CH hpm
          obtain ⟨t, ht9⟩ : ∃ t, f j = t := ⟨_, rfl⟩
          rw [ht9] at g0 hft hset
          go_wp2_with fail
          refine (CH _).mono ?_
          rintro e w5 ⟨rfl, rfl⟩
          go_wp2_with fail
          refine (add_any (w := wr) (q := q) (pk n r j) (-U) t _ ⟨by omega, by omega⟩ (pk_lt n r j) hpm ⟨by omega, by omega⟩ bq hget).mono ?_
          rintro e w6 ⟨rfl, dd, rfl⟩
          obtain ⟨V6, hV6, B2, M2, T2, W2⟩ : ∃ V6, (wr.setCell ⟨q, pk n r j, none⟩ (.int .i64 (cnt f (pk n r) j (pk n r j) + t))).drewN dd = V6 ∧ At 60 V6 q (a12 (cnt f (pk n r) (j + 1))) ∧ Made V6 go len r (rd n f len) ∧ Tab V6 ∧ Below w.heap.size w V6 :=
            ⟨_, rfl, by have := bq.set (pk n r j) (.int .i64 (cnt f (pk n r) j (pk n r j) + t)); rw [hset] at this; exact this, Made.setOther M (by omega) _, tabR_set ht (by omega) _, below_drewN (bW.setCell (by show _ ≤ q; omega) _) _⟩
          rw [hV6]
          clear hV6 bq M ht bW hset hcn hget g0
          go_wp2
          exact ⟨⟨j + 1, by omega, by go_num, B2, M2, T2, W2⟩, by simp [intOf]; omega⟩
        · have hlj' : ¬ (j : Int) < (len : Int) := by omega
          obtain rfl : j = len := by omega
          obtain ⟨fn, fs⟩ := cnt_fits (B := 1000) f (pk n r) j (by omega) (by decide) (by decide) hall
          have CY := fun (w' : World) (h' : Tab w') => cyc_any (w := w') (cnt f (pk n r) j) h' fn fs
          have cs := fun i => cnt_sum f (pk n r) i j (fun i _ => pk_lt n r i)
          rw [cs 0, cs 1, cs 2, cs 3] at CY
          rw [show es f (pk n r) 0 j = rs n f j r 0 from rfl, show es f (pk n r) 1 j = rs n f j r 1 from rfl, show es f (pk n r) 2 j = rs n f j r 2 from rfl, show es f (pk n r) 3 j = rs n f j r 3 from rfl] at CY
          clear cs fn fs
          have g0 := bq.cell 0 (a12_get (cnt f (pk n r) j) 0 (by decide))
          have g1 := bq.cell 1 (a12_get (cnt f (pk n r) j) 1 (by decide))
          have g2 := bq.cell 2 (a12_get (cnt f (pk n r) j) 2 (by decide))
          have g3 := bq.cell 3 (a12_get (cnt f (pk n r) j) 3 (by decide))
          have g4 := bq.cell 4 (a12_get (cnt f (pk n r) j) 4 (by decide))
          have g5 := bq.cell 5 (a12_get (cnt f (pk n r) j) 5 (by decide))
          have g6 := bq.cell 6 (a12_get (cnt f (pk n r) j) 6 (by decide))
          have g7 := bq.cell 7 (a12_get (cnt f (pk n r) j) 7 (by decide))
          have g8 := bq.cell 8 (a12_get (cnt f (pk n r) j) 8 (by decide))
          have g9 := bq.cell 9 (a12_get (cnt f (pk n r) j) 9 (by decide))
          have g10 := bq.cell 10 (a12_get (cnt f (pk n r) j) 10 (by decide))
          have g11 := bq.cell 11 (a12_get (cnt f (pk n r) j) 11 (by decide))
          have c0 := rs_num (n := n) (f := f) (j := j) (k := r) (i := 0) (by omega) (by decide) (fun x hx => hall x (by omega))
          go_wp2_with fail
          refine (CY _ ht).mono ?_
          rintro e w5 ⟨rfl, hb5⟩
          replace M := M.belowR hb5
          replace ht := ht.below hb5
          replace bW := bW.trans (hb5.mono bW.size)
          clear hb5 CY g0 g1 g2 g3 g4 g5 g6 g7 g8 g9 g10 g11 bq
          have lgo6 := M.lt
          by_cases z : rs n f j r 1 = 0 ∧ rs n f j r 2 = 0 ∧ rs n f j r 3 = 0
          · obtain ⟨z1, z2, z3⟩ := z
            rw [z1, z2, z3]
            by_cases z0 : rs n f j r 0 < 0
            · have hno : ¬ ∀ i, i < j → rOk n f j i := fun h => by have := h r hlr; unfold rOk at this; omega
              go_wp2
              exact bodyPost_ret (v := .tuple #[.slice (some ⟨w5.heap.size + 1, 0, none⟩) 0 0, .bool false]) (by simp [results, Tryd.results8, go_sem]) rfl ⟨_, _, rfl, .inr ⟨rfl, hno, emptyArr2 bW.size⟩, below_two bW bW.size⟩
            · by_cases z4 : rs n f j r 0 % n = 0
              · have y4 : (rs n f j r 0 % n != 0) = false := by simp [z4]
                have hrok : rOk n f j r := ⟨z1, z2, z3, by omega, z4⟩
                have hrd : rs n f j r 0 / n = rd n f j r := rfl
                have hdv : (rs n f j r 0).tdiv n = rd n f j r := by rw [Int.tdiv_eq_ediv_of_nonneg (by omega)]; rfl
                have hdb : -12000 ≤ rd n f j r ∧ rd n f j r ≤ 12000 := by
                  have := tdiv_abs (rs n f j r 0) n
                  rw [hdv] at this
                  omega
                obtain ⟨x0, x1⟩ := M.open hlr
                have HM : Hid (Made w5 go j r (rd n f j)) := M
                clear z4 M
                go_wp2
                refine ⟨⟨r + 1, by omega, by go_num, (HM.out.set hlr).belowR (below_alloc _ _), ?_, ?_, ?_⟩, by simp [intOf]; omega⟩
                · intro i hi
                  by_cases e : i = r
                  · rw [e]; exact hrok
                  · exact hok i (by omega)
                · exact (tabR_set (d := 0) ht (by omega) _).below (below_alloc _ _)
                · exact (bW.setCell lg _).alloc (by simpa [World.setCell] using bW.size) _
              · have y4 : (rs n f j r 0 % n != 0) = true := by simp [z4]
                have hno : ¬ ∀ i, i < j → rOk n f j i := fun h => by have := h r hlr; unfold rOk at this; omega
                go_wp2
                exact bodyPost_ret (v := .tuple #[.slice (some ⟨w5.heap.size + 1, 0, none⟩) 0 0, .bool false]) (by simp [results, Tryd.results8, go_sem]) rfl ⟨_, _, rfl, .inr ⟨rfl, hno, emptyArr2 bW.size⟩, below_two bW bW.size⟩
          · by_cases z1 : rs n f j r 1 = 0
            · by_cases z2 : rs n f j r 2 = 0
              · have z3 : ¬ rs n f j r 3 = 0 := fun h => z ⟨z1, z2, h⟩
                clear z
                rw [z1, z2]
                have hno : ¬ ∀ i, i < j → rOk n f j i := fun h => by have := h r hlr; unfold rOk at this; omega
                go_wp2
                exact bodyPost_ret (v := .tuple #[.slice (some ⟨w5.heap.size + 1, 0, none⟩) 0 0, .bool false]) (by simp [results, Tryd.results8, go_sem]) rfl ⟨_, _, rfl, .inr ⟨rfl, hno, emptyArr2 bW.size⟩, below_two bW bW.size⟩
              · clear z
                rw [z1]
                have hno : ¬ ∀ i, i < j → rOk n f j i := fun h => by have := h r hlr; unfold rOk at this; omega
                go_wp2
                exact bodyPost_ret (v := .tuple #[.slice (some ⟨w5.heap.size + 1, 0, none⟩) 0 0, .bool false]) (by simp [results, Tryd.results8, go_sem]) rfl ⟨_, _, rfl, .inr ⟨rfl, hno, emptyArr2 bW.size⟩, below_two bW bW.size⟩
            · clear z
              have hno : ¬ ∀ i, i < j → rOk n f j i := fun h => by have := h r hlr; unfold rOk at this; omega
              go_wp2
              exact bodyPost_ret (v := .tuple #[.slice (some ⟨w5.heap.size + 1, 0, none⟩) 0 0, .bool false]) (by simp [results, Tryd.results8, go_sem]) rfl ⟨_, _, rfl, .inr ⟨rfl, hno, emptyArr2 bW.size⟩, below_two bW bW.size⟩
    · have hlr' : ¬ (r : Int) < n := by omega
      obtain rfl : r = len := by omega
      have hA : Hid (Arr wr w.heap.size wr.heap.size (.slice (some ⟨go, 0, none⟩) r r) r (rd n f r)) := arr_of_own M lg
      clear M
      go_wp2
      exact bodyPost_ret (v := .tuple #[.slice (some ⟨go, 0, none⟩) r r, .bool true]) (by simp [results, Tryd.results8, go_sem]) rfl ⟨_, _, rfl, .inl ⟨rfl, hok, hA.out⟩, bW⟩
end Go.Proofs.YtbninbeccgdemaaDoor
