/-
  A drawn group's table: each number once in each row and each column: walked.
-/
import Derived.Test.YtpolnkjmojofoaaD17e
import Derived.Test.YtpolnkjmojofoaaD17d
import Derived.Test.YtpolnkjmojofoaaGrT
import Derived.Test.YtpolnkjmojofoaaE8c
namespace Go.Proofs.Ytpolnkjmojofoaa
open Go.RowKit

/-- A list of n yeses and noes. -/
def BlN (w : World) (g n : Nat) (P : Nat → Bool) : Prop := ∃ cur : Array Value, At 4 w g cur ∧ cur.size = n ∧ ∀ i, i < n → cur[i]? = some (.bool (P i))
theorem BlN.below {w w' : World} {g n : Nat} {P : Nat → Bool} (h : BlN w g n P) (hb : Below w.heap.size w w') : BlN w' g n P := by
  obtain ⟨cur, h1, h2, h3⟩ := h
  exact ⟨cur, h1.below hb, h2, h3⟩
theorem BlN.lt {w : World} {g n : Nat} {P : Nat → Bool} (h : BlN w g n P) : g < w.heap.size := by
  obtain ⟨cur, h1, -⟩ := h
  exact h1.lt
theorem BlN.cell {w : World} {g n i : Nat} {P : Nat → Bool} (h : BlN w g n P) (hi : i < n) : w.cell? ⟨g, i, none⟩ = some (.bool (P i)) ∧ w.frozen? ⟨g, i, none⟩ = false := by
  obtain ⟨cur, h1, h2, h3⟩ := h
  exact ⟨h1.cell i (h3 i hi), h1.frozen i⟩
theorem BlN.other {w : World} {g q i n : Nat} {P : Nat → Bool} (h : BlN w g n P) (hq : g ≠ q) (v : Value) : BlN (w.setCell ⟨q, i, none⟩ v) g n P := by
  obtain ⟨cur, h1, h2⟩ := h
  exact ⟨cur, h1.setOther hq v, h2⟩
theorem BlN.yes {w : World} {g n j : Nat} {P Q : Nat → Bool} (h : BlN w g n P) (hj : j < n) (e : ∀ i, i < n → Q i = (P i || decide (i = j))) : BlN (w.setCell ⟨g, j, none⟩ (.bool true)) g n Q := by
  obtain ⟨cur, h1, h2, h3⟩ := h
  refine ⟨_, h1.set j (.bool true), by simp [h2], fun i hi => ?_⟩
  rw [Array.getElem?_setIfInBounds, e i hi]
  by_cases c : j = i
  · subst c; rw [if_pos rfl, if_pos (by omega)]; simp
  · rw [if_neg c, h3 i hi]; simp [show ¬ i = j by omega]
theorem infoBo : (Try.prog.info? 4).map (fun i => (i.zero, i.size, i.bytes)) = some (some (.bool false), 1, 1) := by kernel_rfl
theorem make_bls (M : Nat) (hM : M ≤ 1048576) : ∃ C : Array Value, (C.size = M ∧ ∀ i, i < M → C[i]? = some (.bool false)) ∧ ∀ w, (Instr.makeSlice 41 (.int .i64 (M : Int)) (.int .i64 (M : Int))).run Try.prog w = .ok (.slice (some ⟨w.heap.size, 0, none⟩) M M) (w.alloc (.cells C 4)) := by
  obtain ⟨i0, hi0, hz0, hz1, hz2⟩ := info_parts infoBo
  refine ⟨madeCells (Value.bool false).cells M, ⟨by simp [madeCells], fun i hi => by simp [madeCells, hi, Value.cells, Nat.mod_one]⟩, fun w => ?_⟩
  have := run_make (P := Try.prog) w 41 4 i0 _ Try.underlying41 hi0 hz0 .i64 .i64 (M : Int) (M : Int) (by omega) (by omega) (by rw [hz2]; omega) (by omega)
  rw [this, hz1]
  simp
open Classical in
/-- The numbers of the first k places of a line have been seen. -/
noncomputable def sn (f : Nat → Int) (k j : Nat) : Bool := decide (∃ t, t < k ∧ f t = (j : Int))
theorem sn0 (f : Nat → Int) (j : Nat) : sn f 0 j = false := by
  unfold sn; rw [decide_eq_false]; rintro ⟨t, h, -⟩; omega
theorem sn_next {f : Nat → Int} {k x : Nat} (h : f k = (x : Int)) (j : Nat) : sn f (k + 1) j = (sn f k j || decide (j = x)) := by
  unfold sn
  rw [Bool.eq_iff_iff]
  simp only [Bool.or_eq_true, decide_eq_true_eq]
  constructor
  · rintro ⟨t, h1, h2⟩
    by_cases e : t = k
    · subst e; right; omega
    · exact .inl ⟨t, by omega, h2⟩
  · rintro (⟨t, h1, h2⟩ | rfl)
    · exact ⟨t, by omega, h2⟩
    · exact ⟨k, by omega, h⟩
theorem sn_no {f : Nat → Int} {k x n : Nat} (hk : k < n) (h : f k = (x : Int)) (hj : ∀ t t', t < n → t' < n → f t = f t' → t = t') : sn f k x = false := by
  unfold sn; rw [decide_eq_false]
  rintro ⟨t, h1, h2⟩
  have := hj t k (by omega) hk (h2.trans h.symm)
  omega
/-- How it stands in between. -/
structure TblI (w wr : World) (tg n : Nat) (A : Nat → OpD) : Prop where
  tab : Ints wr tg 0 (n * n) (tab n A)
  lt : tg < wr.heap.size
  bel : Below w.heap.size w wr
theorem TblI.up {w wr wq : World} {tg n : Nat} {A : Nat → OpD} (h : TblI w wr tg n A) (hb : Below wr.heap.size wr wq) : TblI w wq tg n A :=
  ⟨h.tab.below h.lt hb, Nat.lt_of_lt_of_le h.lt hb.size, h.bel.trans (hb.mono h.bel.size)⟩
theorem TblI.set {w wq : World} {tg n p1 x : Nat} {A : Nat → OpD} (h : TblI w wq tg n A) (hp : tg + 1 ≤ p1) (hw : w.heap.size ≤ p1) (v : Value) : TblI w (wq.setCell ⟨p1, x, none⟩ v) tg n A :=
  ⟨fun j hj => (((Below.refl (tg + 1) wq).setCell (p := ⟨p1, x, none⟩) hp v).cell (p := ⟨tg, 0 + j, none⟩) (by show tg < tg + 1; omega)).trans (h.tab j hj), by simpa [World.setCell] using h.lt, h.bel.setCell hw v⟩
theorem place_lt {n i k : Nat} (hi : i < n) (hk : k < n) : i * n + k < n * n := by
  have h := Nat.mul_le_mul_right n (show i + 1 ≤ n by omega)
  rw [Nat.add_mul, Nat.one_mul] at h
  omega
set_option maxRecDepth 100000 in
set_option maxHeartbeats 3000000 in
theorem table_walk {w : World} {a : Option Addr} {len cap : Nat} (hr : Row w w.heap.size a len) :
    Calls Try.prog 5 #[.slice a len cap] w fun e w' => e = .returned (.bool true) ∧ Below w.heap.size w w' := by
  go_enter Try.func5, Try.ntmps5
  go_wp2_with fail
  refine (big_any a len cap w hr.1).mono ?_
  rintro e w' ⟨rfl, rfl⟩
  by_cases hb : 1048576 < len
  · simp only [decide_eq_true hb]
    go_wp2
    go_ret
    exact ⟨rfl, Below.refl _ _⟩
  simp only [decide_eq_false hb]
  go_wp2_with fail
  refine (drawTable_any hr).mono ?_
  rintro e w1 ⟨g, n, c, A, rfl, hn, L, B⟩
  have hn' : (n : Int) ≤ 193 := by omega
  clear hr hb
  go_wp2_with fail
  refine (groupOk_any L (by omega)).mono ?_
  rintro e w2 ⟨⟨r, rfl, hrr⟩, b2⟩
  replace L := L.below b2
  replace B := B.trans (b2.mono B.size)
  clear b2
  cases r
  · have hno : ¬ isG n A := fun h => absurd (hrr.2 h) (by decide)
    go_wp2_with fail
    refine (implTable_any L (by omega)).mono ?_
    rintro e w3 ⟨⟨v, rfl, T⟩, b3⟩
    replace B := B.trans (b3.mono B.size)
    rcases T with ⟨h, -⟩ | ⟨-, T⟩
    · exact absurd h hno
    obtain ⟨tg, tc, rfl, -⟩ := T.arr
    clear T b3 L hrr hno
    go_wp2
    go_ret
    exact ⟨rfl, B⟩
  have HG : isG n A := hrr.1 rfl
  have hn2 := HG.1
  clear hrr
  go_wp2_with fail
  refine (copyOps_any L hn2 HG.2.1).mono ?_
  rintro e w3 ⟨⟨X, Y, v, rfl, P⟩, b3⟩
  replace B := B.trans (b3.mono B.size)
  obtain ⟨g3, c3, rfl, -, L3⟩ := P.opsL
  clear P L b3
  go_wp2_with fail
  refine (implTable_any L3 (by omega)).mono ?_
  rintro e w4 ⟨⟨v, rfl, T⟩, b4⟩
  replace B := B.trans (b4.mono B.size)
  rcases T with ⟨-, T⟩ | ⟨h, -⟩
  rotate_left
  · exact absurd HG h
  obtain ⟨tg, tc, rfl, -, TI, tl⟩ := T.arr
  have I : Hid (TblI w w4 tg n A) := ⟨TI, tl, B⟩
  have hsq : ((n * n : Nat) : Int) = (n : Int) * (n : Int) := by simp
  have hle : n * n ≤ 36864 := Nat.mul_le_mul hn2 hn2
  clear T b4 L3 TI tl B
  have HGh := hid_of HG
  clear HG
  go_wp2
  go_loopw [6] (fun s wr => ∃ i : Nat, i ≤ n ∧ s = .int .i64 (i : Int) ∧ Hid (TblI w wr tg n A)) (fun s _ => n - (intOf s).toNat)
  case atStart => exact ⟨0, Nat.zero_le _, rfl, I⟩
  case round =>
    clear I
    obtain ⟨i, hi, rfl, I⟩ := hrel
    by_cases hlt : i < n
    · have hlt' : (i : Int) < (n : Int) := by omega
      obtain ⟨C, ⟨hC, hC0⟩, hmk⟩ := make_bls n (by omega)
      obtain ⟨W5, hW5, a1, b1, -⟩ := boxed wr 4 C
      obtain ⟨W6, hW6, a2, b2, -⟩ := boxed W5 4 C
      obtain ⟨p1, hp1⟩ : ∃ q, wr.heap.size = q := ⟨_, rfl⟩
      obtain ⟨p2, hp2⟩ : ∃ q, W5.heap.size = q := ⟨_, rfl⟩
      rw [hp1] at a1
      rw [hp2] at a2
      have l1 := a1.lt
      have l0 := I.out.lt
      have lw := I.out.bel.size
      have HP : Hid (tg + 1 ≤ p1 ∧ tg + 1 ≤ p2 ∧ w.heap.size ≤ p1 ∧ w.heap.size ≤ p2 ∧ p1 ≠ p2) := ⟨by omega, by omega, by omega, by omega, by omega⟩
      have J0 : Hid (TblI w W6 tg n A ∧ BlN W6 p1 n (sn (fun t => tab n A (i * n + t)) 0) ∧ BlN W6 p2 n (sn (fun t => tab n A (t * n + i)) 0)) := by
        refine ⟨(I.out.up b1).up b2, BlN.below (w := W5) ⟨C, a1, hC, fun j hj => (hC0 j hj).trans (by rw [sn0])⟩ b2, C, a2, hC, fun j hj => (hC0 j hj).trans (by rw [sn0])⟩
      clear I a1 a2 b1 b2 l1 l0 lw hC hC0
      go_wp2
      clear hmk hW5 hW6 hp1 hp2
      go_loopw [9] (fun s wq => ∃ k : Nat, k ≤ n ∧ s = .int .i64 (k : Int) ∧ Hid (TblI w wq tg n A ∧ BlN wq p1 n (sn (fun t => tab n A (i * n + t)) k) ∧ BlN wq p2 n (sn (fun t => tab n A (t * n + i)) k))) (fun s _ => n - (intOf s).toNat)
      case atStart => exact ⟨0, Nat.zero_le _, rfl, J0⟩
      case round =>
        clear J0
        obtain ⟨k, hk, rfl, J⟩ := hrel
        by_cases hkl : k < n
        · have hkl' : (k : Int) < (n : Int) := by omega
          obtain ⟨T, L1, L2⟩ := J.out
          obtain ⟨z1, z2, z3, z4, ne⟩ := HP.out
          obtain ⟨x, hx, -, ex⟩ := tab_in HGh.out hlt hkl
          obtain ⟨y, hy, -, ey⟩ := tab_in HGh.out hkl hlt
          have s1 : sn (fun t => tab n A (i * n + t)) k x = false := sn_no hkl ex (fun t t' h1 h2 h3 => tab_row HGh.out hlt h1 h2 h3)
          have s2 : sn (fun t => tab n A (t * n + i)) k y = false := sn_no hkl ey (fun t t' h1 h2 h3 => tab_col HGh.out hlt h1 h2 h3)
          have o1 := place_lt hlt hkl
          have o2 := place_lt hkl hlt
          have f1 := T.tab (i * n + k) o1
          have f2 := T.tab (k * n + i) o2
          rw [Nat.zero_add, ex] at f1
          rw [Nat.zero_add, ey] at f2
          obtain ⟨q1, hq1⟩ : ∃ q, i * n + k = q := ⟨_, rfl⟩
          obtain ⟨q2, hq2⟩ : ∃ q, k * n + i = q := ⟨_, rfl⟩
          have e1 : (i : Int) * (n : Int) + (k : Int) = (q1 : Int) := by rw [← hq1]; simp
          have e2 : (k : Int) * (n : Int) + (i : Int) = (q2 : Int) := by rw [← hq2]; simp
          rw [hq1] at f1 o1
          rw [hq2] at f2 o2
          have g1 : (0 : Int) ≤ (i : Int) * (n : Int) := Int.mul_nonneg (by omega) (by omega)
          have g2 : (0 : Int) ≤ (k : Int) * (n : Int) := Int.mul_nonneg (by omega) (by omega)
          have w1 : IntKind.i64.wrap ((i : Int) * (n : Int)) = (i : Int) * (n : Int) := IntWalk.i64_in _ (by omega)
          have w2 : IntKind.i64.wrap ((k : Int) * (n : Int)) = (k : Int) * (n : Int) := IntWalk.i64_in _ (by omega)
          have x1 : ¬ (x : Int) < 0 := by omega
          have x2 : ¬ (n : Int) ≤ (x : Int) := by omega
          have y1 : ¬ (y : Int) < 0 := by omega
          have y2 : ¬ (n : Int) ≤ (y : Int) := by omega
          have o1' : (q1 : Int) < ((n * n : Nat) : Int) := by omega
          have o2' : (q2 : Int) < ((n * n : Nat) : Int) := by omega
          obtain ⟨c1, d1⟩ := L1.cell hx
          obtain ⟨c2, d2⟩ := L2.cell hy
          rw [s1] at c1
          rw [s2] at c2
          clear J
          go_wp2
          exact ⟨⟨k + 1, by omega, by go_num, (T.set z1 z3 _).set z2 z4 _, (L1.yes hx (fun j _ => sn_next (f := fun t => tab n A (i * n + t)) ex j)).other ne _, (L2.other ne.symm _).yes hy (fun j _ => sn_next (f := fun t => tab n A (t * n + i)) ey j)⟩, by simp [intOf]; omega⟩
        · have hkl' : ¬ (k : Int) < (n : Int) := by omega
          have I2 : Hid (TblI w _ tg n A) := J.out.1
          clear J
          go_wp2
          exact ⟨⟨i + 1, by omega, by go_num, I2⟩, by simp [intOf]; omega⟩
    · have hlt' : ¬ (i : Int) < (n : Int) := by omega
      have B := I.out.bel
      clear I
      go_wp2
      go_ret
      exact ⟨rfl, B⟩
end Go.Proofs.Ytpolnkjmojofoaa
