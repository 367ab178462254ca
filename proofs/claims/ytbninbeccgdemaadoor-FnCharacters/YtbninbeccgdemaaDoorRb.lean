/-
  Traces reduced, by the specification: walked.
-/
import Derived.Test.YtbninbeccgdemaaDoorRa
import Derived.StillTailTactics
import Derived.Deep.AppendLies
namespace Go.Proofs.YtbninbeccgdemaaDoor
open Go.RowKit

/-- The cells of the first n numbers. -/
def iCells (f : Nat → Int) : Nat → List Value
  | 0 => []
  | n + 1 => iCells f n ++ [.int .i64 (f n)]
theorem iCells_len (f : Nat → Int) (n : Nat) : (iCells f n).length = n := by
  induction n with
  | zero => rfl
  | succ n ih => simp [iCells, ih]
theorem iCells_at (f : Nat → Int) {n i : Nat} (h : i < n) : (iCells f n)[i]? = some (.int .i64 (f i)) := by
  induction n with
  | zero => omega
  | succ n ih =>
    unfold iCells
    have hl := iCells_len f n
    by_cases e : i = n
    · subst e
      rw [List.getElem?_append_right (by omega), hl]; simp
    · rw [List.getElem?_append_left (by omega)]; exact ih (by omega)
theorem arr_of_row {w : World} {base n : Nat} {v : Value} {f : Nat → Int} (h : w.ownsRow base 2 1 v n (iCells f n)) : Arr w base w.heap.size v n f := by
  rcases h.2 with ⟨h1, h2⟩ | ⟨g, c, cur, rfl, hb, hh, hc1, hc2, hsz, ht⟩
  · exact .inl ⟨h1, h2⟩
  · refine .inr ⟨g, c, rfl, hb, (Array.getElem?_eq_some_iff.1 hh).1, hc1, cur, hh, by simpa using hsz, fun i hi => ?_⟩
    have a1 := iCells_at f hi
    rw [← ht] at a1
    rw [List.getElem?_take_of_lt (by omega)] at a1
    simpa using a1
theorem ownBlock_ge {w : World} {base : Nat} {e : TypeId} {size : Nat} {v : Value} {n : Nat} {xs : List Value} (h : w.ownsRow base e size v n xs) {j : Nat} (hj : v.ownBlock = some j) : base ≤ j := by
  rcases h.2 with ⟨rfl, _⟩ | ⟨g, cap, cur, rfl, hb, _⟩
  · cases hj
  · cases hj; exact hb
theorem ne_nil (a : Addr) (n c : Nat) : Value.slice (some a) n c ≠ .slice none 0 0 := by intro h; cases h
theorem own_below {w w' : World} {B : Nat} {e : TypeId} {k : Nat} {v : Value} {n : Nat} {xs : List Value} (h : w.ownsRow B e k v n xs) (hb : Below w.heap.size w w') : w'.ownsRow B e k v n xs := by
  refine ⟨h.1, h.2.imp id ?_⟩
  rintro ⟨g, cap, cur, rfl, h1, h2, h3⟩
  exact ⟨g, cap, cur, rfl, h1, (hb.block g (Array.getElem?_eq_some_iff.1 h2).1).trans h2, h3⟩
theorem own_other {w : World} {B q i : Nat} {e : TypeId} {k : Nat} {v : Value} {n : Nat} {xs : List Value} (h : w.ownsRow B e k v n xs) (hq : ∀ b, v.ownBlock = some b → b ≠ q) (u : Value) : (w.setCell ⟨q, i, none⟩ u).ownsRow B e k v n xs := by
  refine ⟨h.1, h.2.imp id ?_⟩
  rintro ⟨g, cap, cur, rfl, h1, h2, h3⟩
  exact ⟨g, cap, cur, rfl, h1, (Below.heap_setCell _ _ _ _ (hq g rfl)).trans h2, h3⟩
theorem below_grown {N : Nat} {w0 w w' : World} {row : Option Nat} (h : Below N w0 w) (hg : w.grownBy w' row) (hr : ∀ k, row = some k → N ≤ k) (hN : N ≤ w.heap.size) : Below N w0 w' :=
  h.trans ⟨hg.os, hg.tape, hg.output, hg.size, fun k hk => hg.block k (by omega) (fun e => by have := hr k e.symm; omega)⟩
theorem build0 (w : World) : (Instr.buildSlice 24 0 #[]).run Tryd.prog w = .ok (.slice (some ⟨w.heap.size, 0, none⟩) 0 0) (w.alloc (.cells #[] 2)) := by kernel_rfl
/-- The power at row k, place j. -/
def pk (n : Int) (k j : Nat) : Nat := ((-(Int.tdiv 12 n * (j : Int) * (k : Int))) % 12).toNat
theorem pk_lt (n : Int) (k j : Nat) : pk n k j < 12 := by unfold pk; omega
theorem pk_is (n : Int) (k j : Nat) : (-(Int.tdiv 12 n * (j : Int) * (k : Int))) % 12 = (pk n k j : Int) := by unfold pk; omega
theorem pk_spec (n : Int) (k j : Nat) : (Int.tdiv (-12) n * (j : Int) * (k : Int)) % 12 = (pk n k j : Int) := by
  rw [← pk_is, Int.neg_tdiv, Int.neg_mul, Int.neg_mul]
/-- Number i of the sum at row k. -/
def rs (n : Int) (f : Nat → Int) (len k i : Nat) : Int := es f (pk n k) i len
/-- Is row k as it should be? -/
def rOk (n : Int) (f : Nat → Int) (len k : Nat) : Prop := rs n f len k 1 = 0 ∧ rs n f len k 2 = 0 ∧ rs n f len k 3 = 0 ∧ 0 ≤ rs n f len k 0 ∧ rs n f len k 0 % n = 0
/-- How often row k stands. -/
def rd (n : Int) (f : Nat → Int) (len k : Nat) : Int := rs n f len k 0 / n
theorem emptyArr {w : World} {B : Nat} (h : B ≤ w.heap.size) : Arr (w.alloc (.cells #[] 2)) B (w.alloc (.cells #[] 2)).heap.size (.slice (some ⟨w.heap.size, 0, none⟩) 0 0) 0 (fun _ => 0) :=
  .inr ⟨w.heap.size, 0, rfl, h, by simp, Nat.le_refl _, #[], at_new _ _ _, rfl, fun i hi => by omega⟩
/-- A power of the root, its numbers as letters. -/
theorem root_some (k : Int) (hk : is64 k) (m : Nat) (hm : m < 12) (hkm : k % 12 = (m : Int)) : ∃ R0 R1 R2 R3 : Int, (rp (m * 4 + 0) = R0 ∧ rp (m * 4 + 1) = R1 ∧ rp (m * 4 + 2) = R2 ∧ rp (m * 4 + 3) = R3) ∧ ((-1 ≤ R0 ∧ R0 ≤ 1) ∧ (-1 ≤ R1 ∧ R1 ≤ 1) ∧ (-1 ≤ R2 ∧ R2 ≤ 1) ∧ (-1 ≤ R3 ∧ R3 ≤ 1)) ∧ ∀ w, Calls Tryd.prog 27 #[.int .i64 k] w fun e w' => e = .returned (cV R0 R1 R2 R3) ∧ Below w.heap.size w w' :=
  ⟨_, _, _, _, ⟨rfl, rfl, rfl, rfl⟩, ⟨rp_num _ (by omega), rp_num _ (by omega), rp_num _ (by omega), rp_num _ (by omega)⟩, fun w => specRoot_any k hk m hm hkm w⟩
theorem rs_step (n : Int) (f : Nat → Int) (j k i : Nat) : rs n f (j + 1) k i = rs n f j k i + f j * rp (pk n k j * 4 + i) := rfl
theorem rs_num {n : Int} {f : Nat → Int} {j k i : Nat} (hj : j ≤ 12) (hi : i < 4) (hf : ∀ x, x < j → -1000 ≤ f x ∧ f x ≤ 1000) : -12000 ≤ rs n f j k i ∧ rs n f j k i ≤ 12000 := by
  have := es_num (B := 1000) f (pk n k) i hi j (fun x _ => pk_lt n k x) hf
  unfold rs
  omega
/-- What is told of traces. -/
def RedAt (n : Int) (f : Nat → Int) (len : Nat) (w : World) (e : Ending) (w' : World) : Prop :=
  ∃ v b, e = .returned (.tuple #[v, .bool b]) ∧ ((b = true ∧ (∀ k, k < len → rOk n f len k) ∧ Arr w' w.heap.size w'.heap.size v len (rd n f len)) ∨ (b = false ∧ ¬ (∀ k, k < len → rOk n f len k) ∧ Arr w' w.heap.size w'.heap.size v 0 (fun _ => 0))) ∧ Below w.heap.size w w'
set_option maxRecDepth 100000 in
set_option maxHeartbeats 6400000 in
theorem specRed_yes {w : World} {a : Option Addr} {len cap : Nat} {f : Nat → Int} (n : Int) (hs : Src w a len f) (htr : trOk n len f) :
    Calls Tryd.prog 7 #[.int .i64 n, .slice a len cap] w fun e w' => RedAt n f len w e w' := by
  obtain ⟨hside, hl, hall⟩ := htr
  have hd : decide (side n) = true := decide_eq_true hside
  obtain ⟨q0, -⟩ := side_by hside
  have hll : (len : Int) ≤ 12 := by omega
  have hne : ((len : Int) != n) = false := by simp [hl]
  have hbs := build0
  have hn0 : ¬ n = 0 := by omega
  have ht12 : -12 ≤ Int.tdiv (-12) n ∧ Int.tdiv (-12) n ≤ -1 := by rcases hside with rfl | rfl | rfl | rfl | rfl | rfl <;> decide
  have hpk := fun k j => pk_spec n k j
  obtain ⟨T, hT⟩ : ∃ T, Int.tdiv (-12) n = T := ⟨_, rfl⟩
  rw [hT] at ht12 hpk
  go_enter Tryd.func7, Tryd.ntmps7
  go_wp2_with (go_at_call 31; refine (order_any _ _).mono ?_; rintro e w2 ⟨rfl, rfl⟩; try rw [hd])
  clear hne
  go_loopw [6] (fun s wr => ∃ k : Nat, k ≤ len ∧ s = .int .i64 k ∧ Below w.heap.size w wr) (fun s _ => len - (intOf s).toNat)
  case atStart => exact ⟨0, Nat.zero_le _, rfl, Below.refl _ _⟩
  case round =>
    obtain ⟨k, hk, rfl, bW⟩ := hrel
    by_cases hlt : k < len
    · have hlt' : (k : Int) < (len : Int) := by omega
      rcases hs with h0 | ⟨b, off, rfl, hb, hr⟩
      · omega
      have g0 := (bW.cell (p := ⟨b, off + k, none⟩) hb).trans (hr k hlt)
      have hi : decide (-1000 ≤ f k ∧ f k ≤ 1000) = true := decide_eq_true (hall k hlt)
      go_wp2_with (go_at_call 32; refine (in_any _ _ _ _).mono ?_; rintro e w2 ⟨rfl, rfl⟩; rw [hi])
      exact ⟨⟨k + 1, by omega, by go_num, bW⟩, by simp [intOf]; omega⟩
    · have hlt' : ¬ (k : Int) < (len : Int) := by omega
      obtain rfl : k = len := by omega
      rename_i len
      go_wp2_with fail
      have o0 : (wr.alloc (.cells #[] 2)).ownsRow w.heap.size 2 1 (.slice (some ⟨wr.heap.size, 0, none⟩) 0 0) 0 (iCells (rd n f k) 0) :=
        ⟨rfl, .inr ⟨wr.heap.size, 0, #[], rfl, bW.size, heap_alloc_new _ _, Nat.le_refl _, Nat.zero_le _, rfl, rfl⟩⟩
      have bA : Below w.heap.size w (wr.alloc (.cells #[] 2)) := bW.alloc bW.size _
      obtain ⟨L, hL⟩ : ∃ L, k = L := ⟨_, rfl⟩
      subst hL
      clear bW
      go_loopw [7, 8] (fun v s wr => ∃ r : Nat, r ≤ k ∧ s = .int .i64 r ∧ Hid (v ≠ .slice none 0 0) ∧ wr.ownsRow w.heap.size 2 1 v r (iCells (rd n f k) r) ∧ (∀ i, i < r → rOk n f k i) ∧ Below w.heap.size w wr) (fun _ s _ => k - (intOf s).toNat)
      case atStart => exact ⟨0, Nat.zero_le _, rfl, ne_nil _ _ _, o0, fun i hi => absurd hi (by omega), bA⟩
      case round =>
        clear o0 bA
        obtain ⟨r, hr, rfl, hnn, own, hok, bW⟩ := hrel
        by_cases hlr : r < k
        · have hlr' : (r : Int) < n := by omega
          have lq : ∀ b, u7.ownBlock = some b → b < wr.heap.size := fun b hb => (own.lt b hb).2
          have lw := bW.size
          go_wp2_with fail
          obtain ⟨V, hV, bs, bV, -⟩ := boxed wr 33 #[.int .i64 0, .int .i64 0, .int .i64 0, .int .i64 0]
          rw [hV]
          replace own := own_below own bV
          replace bW := bW.trans (bV.mono bW.size)
          obtain ⟨qs, hqs⟩ : ∃ q, wr.heap.size = q := ⟨_, rfl⟩
          rw [hqs] at bs lq lw ⊢
          clear hV bV hqs
          go_loopw [10] (fun s wr => ∃ j : Nat, j ≤ k ∧ s = .int .i64 j ∧ At 33 wr qs #[.int .i64 (rs n f j r 0), .int .i64 (rs n f j r 1), .int .i64 (rs n f j r 2), .int .i64 (rs n f j r 3)] ∧ wr.ownsRow w.heap.size 2 1 u7 r (iCells (rd n f k) r) ∧ Below w.heap.size w wr) (fun s _ => k - (intOf s).toNat)
          case atStart => exact ⟨0, Nat.zero_le _, rfl, bs, own, bW⟩
          case round =>
            clear bs own bW
            obtain ⟨j, hj, rfl, bs, own, bW⟩ := hrel
            by_cases hlj : j < k
            · have hlj' : (j : Int) < n := by omega
              rcases hs with h0 | ⟨b, off, rfl, hb, hrr⟩
              · omega
              have hab := Nat.lt_of_lt_of_le hb bW.size
              have t1 := prod_le (x := T) (y := (j : Int)) (M := 12) (N := 11) (by omega) (by omega)
              have t2 := prod_le (x := T * (j : Int)) (y := (r : Int)) (M := 132) (N := 11) (by omega) (by omega)
              have hm := hpk r j
              have hmlt := pk_lt n r j
              go_wp2_with fail
              obtain ⟨R0, R1, R2, R3, ⟨e0, e1, e2, e3⟩, ⟨B0, B1, B2, B3⟩, RC⟩ := root_some _ ⟨by omega, by omega⟩ (pk n r j) hmlt hm
              refine (RC _).mono ?_
              rintro e w5 ⟨rfl, b5⟩
              replace bs := bs.below b5
              replace own := own_below own b5
              replace bW := bW.trans (b5.mono bW.size)
              clear b5 RC
              obtain ⟨V5, hV5, br, bb, -⟩ := boxed w5 33 #[.int .i64 R0, .int .i64 R1, .int .i64 R2, .int .i64 R3]
              have lbs := bs.lt
              replace bs := bs.below bb
              replace own := own_below own bb
              replace bW := bW.trans (bb.mono bW.size)
              have g0 := (bW.cell (p := ⟨b, off + j, none⟩) hb).trans (hrr j hlj)
              have hft := hall j hlj
              have s0 := rs_step n f j r 0
              have s1 := rs_step n f j r 1
              have s2 := rs_step n f j r 2
              have s3 := rs_step n f j r 3
              rw [e0] at s0
              rw [e1] at s1
              rw [e2] at s2
              rw [e3] at s3
              have c0 := rs_num (n := n) (f := f) (j := j) (k := r) (i := 0) (by omega) (by decide) (fun x hx => hall x (by omega))
              have c1 := rs_num (n := n) (f := f) (j := j) (k := r) (i := 1) (by omega) (by decide) (fun x hx => hall x (by omega))
              have c2 := rs_num (n := n) (f := f) (j := j) (k := r) (i := 2) (by omega) (by decide) (fun x hx => hall x (by omega))
              have c3 := rs_num (n := n) (f := f) (j := j) (k := r) (i := 3) (by omega) (by decide) (fun x hx => hall x (by omega))
              generalize rs n f j r 0 = S0 at *
              generalize rs n f j r 1 = S1 at *
              generalize rs n f j r 2 = S2 at *
              generalize rs n f j r 3 = S3 at *
              obtain ⟨t, ht9⟩ : ∃ t, f j = t := ⟨_, rfl⟩
              rw [ht9] at g0 hft s0 s1 s2 s3
              have p0 := prod_le (M := 1000) (N := 1) hft B0
              have p1 := prod_le (M := 1000) (N := 1) hft B1
              have p2 := prod_le (M := 1000) (N := 1) hft B2
              have p3 := prod_le (M := 1000) (N := 1) hft B3
              have x0 : IntKind.i64.wrap (t * R0) = t * R0 := by rw [IntKind.wrap_i64]; omega
              have x1 : IntKind.i64.wrap (t * R1) = t * R1 := by rw [IntKind.wrap_i64]; omega
              have x2 : IntKind.i64.wrap (t * R2) = t * R2 := by rw [IntKind.wrap_i64]; omega
              have x3 : IntKind.i64.wrap (t * R3) = t * R3 := by rw [IntKind.wrap_i64]; omega
              have y0 : IntKind.i64.wrap (S0 + t * R0) = S0 + t * R0 := by rw [IntKind.wrap_i64]; omega
              have y1 : IntKind.i64.wrap (S1 + t * R1) = S1 + t * R1 := by rw [IntKind.wrap_i64]; omega
              have y2 : IntKind.i64.wrap (S2 + t * R2) = S2 + t * R2 := by rw [IntKind.wrap_i64]; omega
              have y3 : IntKind.i64.wrap (S3 + t * R3) = S3 + t * R3 := by rw [IntKind.wrap_i64]; omega
              obtain ⟨k0, k1, k2, k3, l0, l1, l2, l3⟩ := bs.open4
              obtain ⟨m0, m1, m2, m3, -⟩ := br.open4
              go_wp2_with fail
              obtain ⟨qr, hqr⟩ : ∃ q, w5.heap.size = q := ⟨_, rfl⟩
              rw [hqr] at lbs br m0 m1 m2 m3 ⊢
              clear hV5 bb hqr e0 e1 e2 e3 hm hmlt t1 t2 hpk
              have hmx : Tryd.prog.follows .mixedOrders = true := by kernel_rfl
              refine wp_region_still_tail 41 hmx (by kernel_rfl) ?_
              change wpStill _ _ V5.drew _ _ _
              simp only [List.take_succ_cons, List.take_zero, List.drop_succ_cons, List.drop_zero]
              obtain ⟨V6, hV6⟩ : ∃ V6, V5.drew = V6 := ⟨_, rfl⟩
              have b6 : Below V5.heap.size V5 V6 := hV6 ▸ (Below.refl _ _).drew
              rw [hV6]
              replace bs := bs.below b6
              replace own := own_below own b6
              replace bW := bW.trans (b6.mono bW.size)
              replace br := br.below b6
              have g0 := (bW.cell (p := ⟨b, off + j, none⟩) hb).trans (hrr j hlj)
              rw [ht9] at g0
              clear k0 k1 k2 k3 l0 l1 l2 l3 m0 m1 m2 m3 b6
              obtain ⟨k0, k1, k2, k3, l0, l1, l2, l3⟩ := bs.open4
              obtain ⟨m0, m1, m2, m3, -⟩ := br.open4
              repeat still_step
              refine wpStill_nil ?_
              change wpList _ _ _ _ _ V5.drew
              rw [hV6]
              clear hV6
              go_wp2
              refine ⟨⟨j + 1, by omega, by go_num, ?_, ?_, below_put4 bW lw _ _ _ _⟩, by simp [intOf]; omega⟩
              · rw [s0, s1, s2, s3]; exact put4_at bs _ _ _ _
              · exact own_other (own_other (own_other (own_other own (fun b hb => Nat.ne_of_lt (lq b hb)) _) (fun b hb => Nat.ne_of_lt (lq b hb)) _) (fun b hb => Nat.ne_of_lt (lq b hb)) _) (fun b hb => Nat.ne_of_lt (lq b hb)) _
            · have hlj' : ¬ (j : Int) < n := by omega
              obtain rfl : j = k := by omega
              obtain ⟨k0, k1, k2, k3, -⟩ := bs.open4
              have c0 := rs_num (n := n) (f := f) (j := j) (k := r) (i := 0) (by omega) (by decide) (fun x hx => hall x (by omega))
              have hnz : (n == 0) = false := by simp; omega
              by_cases z1 : rs n f j r 1 = 0
              · have y1 : (rs n f j r 1 != 0) = false := by simp [z1]
                by_cases z2 : rs n f j r 2 = 0
                · have y2 : (rs n f j r 2 != 0) = false := by simp [z2]
                  by_cases z3 : rs n f j r 3 = 0
                  · have y3 : (rs n f j r 3 != 0) = false := by simp [z3]
                    by_cases z0 : rs n f j r 0 < 0
                    · have hno : ¬ ∀ i, i < j → rOk n f j i := fun h => by have := h r hlr; unfold rOk at this; omega
                      go_wp2
                      exact bodyPost_ret (v := .tuple #[.slice (some ⟨wr.heap.size, 0, none⟩) 0 0, .bool false]) (by simp [results, Tryd.results7, go_sem]) rfl ⟨_, _, rfl, .inr ⟨rfl, hno, emptyArr bW.size⟩, bW.alloc bW.size _⟩
                    · by_cases z4 : rs n f j r 0 % n = 0
                      · have y4 : (rs n f j r 0 % n != 0) = false := by simp [z4]
                        have hrok : rOk n f j r := ⟨z1, z2, z3, by omega, z4⟩
                        have hrd : rs n f j r 0 / n = rd n f j r := rfl
                        have hdv : (rs n f j r 0).tdiv n = rd n f j r := by rw [Int.tdiv_eq_ediv_of_nonneg (by omega)]; rfl
                        have hdb : -12000 ≤ rd n f j r ∧ rd n f j r ≤ 12000 := by
                          have := tdiv_abs (rs n f j r 0) n
                          rw [hdv] at this
                          omega
                        clear z1 z2 z3 z4
                        obtain ⟨i0, hi0, hz0, hz1, hz2⟩ := info_parts infoI
                        have lw2 := bW.size
                        have bA : Below w.heap.size w (wr.alloc (.cells #[.int .i64 (rd n f j r)] 2)) := bW.alloc bW.size _
                        go_wp2_with (at_builtin; refine wpList_append_lies _ rfl _ _ _ rfl w.heap.size 2 i0 _ 1 8 Tryd.underlying24 hi0 hz0 hz1 hz2 rfl (by omega) u7 r (iCells (rd n f j) r) rfl (own.alloc _) ⟨wr.heap.size, 0, none⟩ 1 1 [.int .i64 (rd n f j r)] rfl rfl (World.news_of_block (cs := #[.int .i64 (rd n f j r)]) (t := 2) (fr := (0, 0)) (heap_alloc_new wr _)) (by simp [Value.oneCell']) (by omega) (by unfold maxLen; omega) (by omega) (by simp; omega) (wr.heap.size + 1) (by simp) ?_; intro g gcap w2 hown2 hgrow hat hlt3)
                        refine ⟨⟨r + 1, by omega, by go_num, ne_nil _ _ _, hown2, ?_, below_grown bA hgrow (fun b hb => ownBlock_ge own hb) bA.size⟩, by simp [intOf]; omega⟩
                        intro i hi
                        by_cases e : i = r
                        · rw [e]; exact hrok
                        · exact hok i (by omega)
                      · have y4 : (rs n f j r 0 % n != 0) = true := by simp [z4]
                        have hno : ¬ ∀ i, i < j → rOk n f j i := fun h => by have := h r hlr; unfold rOk at this; omega
                        go_wp2
                        exact bodyPost_ret (v := .tuple #[.slice (some ⟨wr.heap.size, 0, none⟩) 0 0, .bool false]) (by simp [results, Tryd.results7, go_sem]) rfl ⟨_, _, rfl, .inr ⟨rfl, hno, emptyArr bW.size⟩, bW.alloc bW.size _⟩
                  · have y3 : (rs n f j r 3 != 0) = true := by simp [z3]
                    have hno : ¬ ∀ i, i < j → rOk n f j i := fun h => by have := h r hlr; unfold rOk at this; omega
                    go_wp2
                    exact bodyPost_ret (v := .tuple #[.slice (some ⟨wr.heap.size, 0, none⟩) 0 0, .bool false]) (by simp [results, Tryd.results7, go_sem]) rfl ⟨_, _, rfl, .inr ⟨rfl, hno, emptyArr bW.size⟩, bW.alloc bW.size _⟩
                · have y2 : (rs n f j r 2 != 0) = true := by simp [z2]
                  have hno : ¬ ∀ i, i < j → rOk n f j i := fun h => by have := h r hlr; unfold rOk at this; omega
                  go_wp2
                  exact bodyPost_ret (v := .tuple #[.slice (some ⟨wr.heap.size, 0, none⟩) 0 0, .bool false]) (by simp [results, Tryd.results7, go_sem]) rfl ⟨_, _, rfl, .inr ⟨rfl, hno, emptyArr bW.size⟩, bW.alloc bW.size _⟩
              · have y1 : (rs n f j r 1 != 0) = true := by simp [z1]
                have hno : ¬ ∀ i, i < j → rOk n f j i := fun h => by have := h r hlr; unfold rOk at this; omega
                go_wp2
                exact bodyPost_ret (v := .tuple #[.slice (some ⟨wr.heap.size, 0, none⟩) 0 0, .bool false]) (by simp [results, Tryd.results7, go_sem]) rfl ⟨_, _, rfl, .inr ⟨rfl, hno, emptyArr bW.size⟩, bW.alloc bW.size _⟩
        · have hlr' : ¬ (r : Int) < n := by omega
          obtain rfl : r = k := by omega
          go_wp2
          exact bodyPost_ret (v := .tuple #[u7, .bool true]) (by simp [results, Tryd.results7, go_sem]) rfl ⟨_, _, rfl, .inl ⟨rfl, hok, arr_of_row own⟩, bW⟩
end Go.Proofs.YtbninbeccgdemaaDoor
