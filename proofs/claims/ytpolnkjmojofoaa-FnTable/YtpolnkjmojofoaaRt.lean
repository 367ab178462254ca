/-
  Terms of a text read by the specification, walked.
-/
import Derived.Test.YtpolnkjmojofoaaRd
import Derived.Test.YtpolnkjmojofoaaOpK
namespace Go.Proofs.Ytpolnkjmojofoaa
open Go.RowKit

/-- The axis that a byte names; 3: none. -/
def axis (c : Nat) : Nat := if c = 120 ∨ c = 88 then 0 else if c = 121 ∨ c = 89 then 1 else if c = 122 ∨ c = 90 then 2 else 3
/-- A sign stands there. -/
def isS (s : ByteArray) (i : Nat) : Prop := i < s.size ∧ (byt s i = 45 ∨ byt s i = 43)
instance (s : ByteArray) (i : Nat) : Decidable (isS s i) := by unfold isS; infer_instance
def putR (row : Nat → Int) (k : Nat) (x : Int) : Nat → Int := fun i => if i = k then x else row i
/-- What is told of a term from place i on, behind its sign. -/
def tailF (s : ByteArray) (next : Nat → (Nat → Int) → Int → Bool → (Nat → Int) × Int × Bool) (i : Nat) (sg : Int) (row : Nat → Int) (t : Int) (fr : Bool) : (Nat → Int) × Int × Bool :=
  if s.size ≤ i then (row, t, false)
  else if axis (byt s i) < 3 then
    (if row (axis (byt s i)) ≠ 0 then (row, t, false) else next (i + 1) (putR row (axis (byt s i)) sg) t fr)
  else if dK s i = 0 ∨ fr = true ∨ s.size ≤ i + dK s i ∨ byt s (i + dK s i) ≠ 47 then (row, t, false)
  else if dK s (i + dK s i + 1) = 0 ∨ dV s (i + dK s i + 1) (dK s (i + dK s i + 1)) = 0 ∨ (24 : Int).tmod (dV s (i + dK s i + 1) (dK s (i + dK s i + 1))) ≠ 0 then (row, t, false)
  else next (i + dK s i + 1 + dK s (i + dK s i + 1)) row ((sg * dV s i (dK s i) * (24 : Int).tdiv (dV s (i + dK s i + 1) (dK s (i + dK s i + 1)))) % 24) true
/-- What is told of a term from place i on. -/
def termF (s : ByteArray) : Nat → Nat → (Nat → Int) → Int → Bool → (Nat → Int) × Int × Bool
  | 0, _, row, t, _ => (row, t, false)
  | k + 1, i, row, t, fr =>
    if s.size ≤ i ∧ i ≠ 0 then (row, t, true)
    else if isS s i then tailF s (termF s k) (i + 1) (if byt s i = 45 then -1 else 1) row t fr
    else if i ≠ 0 then (row, t, false)
    else tailF s (termF s k) i 1 row t fr
theorem dK_in (s : ByteArray) (i : Nat) (hi : i ≤ s.size) : i + dK s i ≤ s.size := by
  have h2 := dK_le s i
  by_cases h0 : dK s i = 0
  · omega
  · have := (isD_iff _ _).1 (dK_is s i (dK s i - 1) (by omega))
    omega
theorem set_putR (row : Nat → Int) (k : Nat) (x : Int) (hk : k < 3) : (vA row).setIfInBounds k (.int .i64 x) = vA (putR row k x) := by
  rcases (by omega : k = 0 ∨ k = 1 ∨ k = 2) with rfl | rfl | rfl <;> simp [vA, putR]
/-- The state of the machine behind a sign. -/
def Sgn (w : World) (s : ByteArray) (g : Nat) (R : (Nat → Int) × Int × Bool) (row : Nat → Int) (t : Int) (fr : Bool) (fuel i0 : Nat) (s8 s9 : Value) (wc : World) : Prop :=
  ∃ (i : Nat) (sg : Int), s8 = .int .i64 i ∧ s9 = .int .i64 sg ∧ i0 ≤ i ∧ i ≤ s.size + 1 ∧ (sg = 1 ∨ sg = -1) ∧ Hid (tailF s (termF s fuel) i sg row t fr = R) ∧ At 2 wc g (vA row) ∧ Below w.heap.size w wc
set_option maxRecDepth 100000 in
set_option maxHeartbeats 1600000 in
theorem term_any (s : ByteArray) (w : World) (hs : s.size ≤ 500) :
    Calls Try.prog 79 #[.string s] w fun e w' => ∃ g, e = .returned (.tuple #[.slice (some ⟨g, 0, none⟩) 3 3, .int .i64 (termF s (s.size + 2) 0 (fun _ => 0) 0 false).2.1, .bool (termF s (s.size + 2) 0 (fun _ => 0) 0 false).2.2]) ∧ w.heap.size ≤ g ∧ At 2 w' g (vA (termF s (s.size + 2) 0 (fun _ => 0) 0 false).1) ∧ Below w.heap.size w w' := by
  have hs' : (s.size : Int) ≤ 500 := by omega
  obtain ⟨R, hR⟩ : ∃ R, termF s (s.size + 2) 0 (fun _ => 0) 0 false = R := ⟨_, rfl⟩
  rw [hR]
  have hmk := make3
  obtain ⟨W1, hW1, a1, B, -⟩ := boxed w 2 (vA fun _ => 0)
  unfold vA at hmk hW1
  have hR0 : termF s (s.size + 2) 0 (fun _ => 0) 0 false = R := hR
  clear hR
  go_enter Try.func79, Try.ntmps79
  go_wp2
  clear hmk hW1
  go_loopw [6, 7, 8] (fun t f n wr => ∃ (i : Nat) (row : Nat → Int) (T : Int) (fr : Bool) (fuel : Nat), (i ≤ s.size + 1 ∧ s.size + 2 ≤ fuel + i) ∧ n = .int .i64 i ∧ t = .int .i64 T ∧ f = .bool fr ∧ Hid (termF s fuel i row T fr = R) ∧ At 2 wr w.heap.size (vA row) ∧ Below w.heap.size w wr) (fun _ _ n _ => s.size + 2 - (intOf n).toNat)
  case atStart => exact ⟨0, _, 0, false, s.size + 2, by omega, rfl, rfl, rfl, hR0, a1, B⟩
  case round =>
    clear hR0 a1 B
    obtain ⟨i, row, T, fr, fuel, ⟨hi, hfu⟩, rfl, rfl, rfl, hR, a1, B⟩ := hrel
    obtain ⟨fu, rfl⟩ : ∃ fu, fuel = fu + 1 := ⟨fuel - 1, by omega⟩
    have hst := hR.out
    rw [termF] at hst
    by_cases hend : s.size ≤ i ∧ i ≠ 0
    · rw [if_pos hend] at hst
      subst hst
      have h1 : ¬ (i : Int) < (s.size : Int) := by omega
      have h2 : ¬ (i : Int) = 0 := by omega
      go_wp2
      refine bodyPost_ret (v := .tuple #[.slice (some ⟨w.heap.size, 0, none⟩) 3 3, .int .i64 T, .bool true]) (by simp [results, Try.results79, go_sem]) rfl ⟨_, rfl, Nat.le_refl _, a1, B⟩
    · rw [if_neg hend] at hst
      have HS : Hid ((if isS s i then tailF s (termF s fu) (i + 1) (if byt s i = 45 then -1 else 1) row T fr else if i ≠ 0 then (row, T, false) else tailF s (termF s fu) i 1 row T fr) = R) := hst
      clear hst hR
      have hi' : (i : Int) ≤ 501 := by omega
      by_cases hsz : i < s.size
      · have h1 : (i : Int) < (s.size : Int) := by omega
        have hbt := byt_at s i hsz
        obtain ⟨c, hc⟩ : ∃ c, byt s i = c := ⟨_, rfl⟩
        have hcl := byt_lt s i
        rw [hc] at hbt hcl
        have hisS : Hid (isS s i ↔ (c = 45 ∨ c = 43)) := by rw [← hc]; exact ⟨fun x => x.2, fun x => ⟨hsz, x⟩⟩
        rw [hc] at HS
        clear hc
        go_upto_region 7 with (fail)
        go_cut [39] from 24 to 146 (fun s39 wc => s39 = .bool (decide (isS s i)) ∧ wr = wc)
        case first =>
          by_cases e45 : c = 45
          · have hd : Hid (decide (isS s i) = true) := decide_eq_true (hisS.out.2 (.inl e45))
            subst e45
            go_wp2
            go_meet
            case rel => exact ⟨by rw [hd.out], rfl⟩
          · have e45' : ((c : Int) == 45) = false := by simp; omega
            by_cases e43 : c = 43
            · have hd : Hid (decide (isS s i) = true) := decide_eq_true (hisS.out.2 (.inr e43))
              subst e43
              go_wp2
              go_meet
              case rel => exact ⟨by rw [hd.out], rfl⟩
            · have e43' : ((c : Int) == 43) = false := by simp; omega
              have hd : Hid (decide (isS s i) = false) := decide_eq_false (fun x => (hisS.out.1 x).elim e45 e43)
              go_wp2
              go_meet
              case rel => exact ⟨by rw [hd.out], rfl⟩
        case rest =>
          obtain ⟨rfl, rfl⟩ := hcut
          go_upto_if 39 with (fail)
          go_cut [8, 9] from 16 to 146 (fun s8 s9 wc => Sgn w s w.heap.size R row T fr fu i s8 s9 wc)
          case first =>
            by_cases hS : isS s i
            · rw [decide_eq_true hS]
              have hst := HS.out
              rw [if_pos hS] at hst
              have H1 := hisS.out.1 hS
              by_cases e45 : c = 45
              · subst e45
                rw [if_pos rfl] at hst
                have HT : Hid (tailF s (termF s fu) (i + 1) (-1) row T fr = R) := hst
                clear hst H1 HS hisS
                go_wp2
                go_meet
                case rel => exact ⟨i + 1, -1, by go_num, rfl, by omega, by omega, .inr rfl, HT, a1, B⟩
              · have e45' : ((c : Int) == 45) = false := by simp; omega
                rw [if_neg e45] at hst
                have HT : Hid (tailF s (termF s fu) (i + 1) 1 row T fr = R) := hst
                clear hst H1 HS hisS
                go_wp2
                go_meet
                case rel => exact ⟨i + 1, 1, by go_num, rfl, by omega, by omega, .inl rfl, HT, a1, B⟩
            · rw [decide_eq_false hS]
              have hst := HS.out
              rw [if_neg hS] at hst
              by_cases hi0 : i = 0
              · subst hi0
                rw [if_neg (by simp)] at hst
                have HT : Hid (tailF s (termF s fu) 0 1 row T fr = R) := hst
                clear hst HS hisS
                go_wp2
                go_meet
                case rel => exact ⟨0, 1, rfl, rfl, Nat.le_refl _, by omega, .inl rfl, HT, a1, B⟩
              · rw [if_pos hi0] at hst
                subst hst
                have hp : (0 : Int) < (i : Int) := by omega
                go_wp2
                refine bodyPost_ret (v := .tuple #[.slice (some ⟨w.heap.size, 0, none⟩) 3 3, .int .i64 T, .bool false]) (by simp [results, Try.results79, go_sem]) rfl ⟨_, rfl, Nat.le_refl _, a1, B⟩
          case rest =>
            obtain ⟨j, sg, rfl, rfl, hij, hj, hsg, HT, a2, B2⟩ := hcut
            clear a1 B HS hisS hbt h1 hsz
            have hst := HT.out
            rw [tailF] at hst
            by_cases hje : s.size ≤ j
            · rw [if_pos hje] at hst
              subst hst
              have h1 : ¬ (j : Int) < (s.size : Int) := by omega
              have h2 : (s.size : Int) ≤ (j : Int) := by omega
              go_wp2
              refine bodyPost_ret (v := .tuple #[.slice (some ⟨w.heap.size, 0, none⟩) 3 3, .int .i64 T, .bool false]) (by simp [results, Try.results79, go_sem]) rfl ⟨_, rfl, Nat.le_refl _, a2, B2⟩
            · rw [if_neg hje] at hst
              have h1 : (j : Int) < (s.size : Int) := by omega
              have hbt := byt_at s j (by omega)
              obtain ⟨c, hc⟩ : ∃ c, byt s j = c := ⟨_, rfl⟩
              rw [hc] at hbt hst
              clear hc HT hcl hi'
              have h8 : (s.size : Int) ≤ 500 := by omega
              by_cases e120 : c = 120
              · subst e120
                rw [if_pos (show axis 120 < 3 by decide), show axis 120 = 0 from rfl] at hst
                have cR := a2.cell 0 (vA_get row 0 (by omega))
                have fR := a2.frozen 0
                by_cases hr : row 0 = 0
                · rw [if_neg (by simp [hr])] at hst
                  have HN : Hid (termF s fu (j + 1) (putR row 0 sg) T fr = R) := hst
                  have A3 : Hid (At 2 (wc.setCell ⟨w.heap.size, 0, none⟩ (.int .i64 sg)) w.heap.size (vA (putR row 0 sg))) := by have := a2.set 0 (.int .i64 sg); rwa [set_putR row 0 sg (by omega)] at this
                  have B3 : Hid (Below w.heap.size w (wc.setCell ⟨w.heap.size, 0, none⟩ (.int .i64 sg))) := B2.setCell (Nat.le_refl w.heap.size) _
                  clear hst
                  go_wp2
                  exact ⟨⟨j + 1, _, _, _, fu, ⟨by omega, by omega⟩, by go_num, rfl, rfl, HN, A3.out, B3.out⟩, by simp [intOf]; omega⟩
                · rw [if_pos hr] at hst
                  subst hst
                  go_wp2
                  refine bodyPost_ret (v := .tuple #[.slice (some ⟨w.heap.size, 0, none⟩) 3 3, .int .i64 T, .bool false]) (by simp [results, Try.results79, go_sem]) rfl ⟨_, rfl, Nat.le_refl _, a2, B2⟩
              have f120 : ((c : Int) == 120) = false := by simp; omega
              by_cases e88 : c = 88
              · subst e88
                rw [if_pos (show axis 88 < 3 by decide), show axis 88 = 0 from rfl] at hst
                have cR := a2.cell 0 (vA_get row 0 (by omega))
                have fR := a2.frozen 0
                by_cases hr : row 0 = 0
                · rw [if_neg (by simp [hr])] at hst
                  have HN : Hid (termF s fu (j + 1) (putR row 0 sg) T fr = R) := hst
                  have A3 : Hid (At 2 (wc.setCell ⟨w.heap.size, 0, none⟩ (.int .i64 sg)) w.heap.size (vA (putR row 0 sg))) := by have := a2.set 0 (.int .i64 sg); rwa [set_putR row 0 sg (by omega)] at this
                  have B3 : Hid (Below w.heap.size w (wc.setCell ⟨w.heap.size, 0, none⟩ (.int .i64 sg))) := B2.setCell (Nat.le_refl w.heap.size) _
                  clear hst
                  go_wp2
                  exact ⟨⟨j + 1, _, _, _, fu, ⟨by omega, by omega⟩, by go_num, rfl, rfl, HN, A3.out, B3.out⟩, by simp [intOf]; omega⟩
                · rw [if_pos hr] at hst
                  subst hst
                  go_wp2
                  refine bodyPost_ret (v := .tuple #[.slice (some ⟨w.heap.size, 0, none⟩) 3 3, .int .i64 T, .bool false]) (by simp [results, Try.results79, go_sem]) rfl ⟨_, rfl, Nat.le_refl _, a2, B2⟩
              have f88 : ((c : Int) == 88) = false := by simp; omega
              by_cases e121 : c = 121
              · subst e121
                rw [if_pos (show axis 121 < 3 by decide), show axis 121 = 1 from rfl] at hst
                have cR := a2.cell 1 (vA_get row 1 (by omega))
                have fR := a2.frozen 1
                by_cases hr : row 1 = 0
                · rw [if_neg (by simp [hr])] at hst
                  have HN : Hid (termF s fu (j + 1) (putR row 1 sg) T fr = R) := hst
                  have A3 : Hid (At 2 (wc.setCell ⟨w.heap.size, 1, none⟩ (.int .i64 sg)) w.heap.size (vA (putR row 1 sg))) := by have := a2.set 1 (.int .i64 sg); rwa [set_putR row 1 sg (by omega)] at this
                  have B3 : Hid (Below w.heap.size w (wc.setCell ⟨w.heap.size, 1, none⟩ (.int .i64 sg))) := B2.setCell (Nat.le_refl w.heap.size) _
                  clear hst
                  go_wp2
                  exact ⟨⟨j + 1, _, _, _, fu, ⟨by omega, by omega⟩, by go_num, rfl, rfl, HN, A3.out, B3.out⟩, by simp [intOf]; omega⟩
                · rw [if_pos hr] at hst
                  subst hst
                  go_wp2
                  refine bodyPost_ret (v := .tuple #[.slice (some ⟨w.heap.size, 0, none⟩) 3 3, .int .i64 T, .bool false]) (by simp [results, Try.results79, go_sem]) rfl ⟨_, rfl, Nat.le_refl _, a2, B2⟩
              have f121 : ((c : Int) == 121) = false := by simp; omega
              by_cases e89 : c = 89
              · subst e89
                rw [if_pos (show axis 89 < 3 by decide), show axis 89 = 1 from rfl] at hst
                have cR := a2.cell 1 (vA_get row 1 (by omega))
                have fR := a2.frozen 1
                by_cases hr : row 1 = 0
                · rw [if_neg (by simp [hr])] at hst
                  have HN : Hid (termF s fu (j + 1) (putR row 1 sg) T fr = R) := hst
                  have A3 : Hid (At 2 (wc.setCell ⟨w.heap.size, 1, none⟩ (.int .i64 sg)) w.heap.size (vA (putR row 1 sg))) := by have := a2.set 1 (.int .i64 sg); rwa [set_putR row 1 sg (by omega)] at this
                  have B3 : Hid (Below w.heap.size w (wc.setCell ⟨w.heap.size, 1, none⟩ (.int .i64 sg))) := B2.setCell (Nat.le_refl w.heap.size) _
                  clear hst
                  go_wp2
                  exact ⟨⟨j + 1, _, _, _, fu, ⟨by omega, by omega⟩, by go_num, rfl, rfl, HN, A3.out, B3.out⟩, by simp [intOf]; omega⟩
                · rw [if_pos hr] at hst
                  subst hst
                  go_wp2
                  refine bodyPost_ret (v := .tuple #[.slice (some ⟨w.heap.size, 0, none⟩) 3 3, .int .i64 T, .bool false]) (by simp [results, Try.results79, go_sem]) rfl ⟨_, rfl, Nat.le_refl _, a2, B2⟩
              have f89 : ((c : Int) == 89) = false := by simp; omega
              by_cases e122 : c = 122
              · subst e122
                rw [if_pos (show axis 122 < 3 by decide), show axis 122 = 2 from rfl] at hst
                have cR := a2.cell 2 (vA_get row 2 (by omega))
                have fR := a2.frozen 2
                by_cases hr : row 2 = 0
                · rw [if_neg (by simp [hr])] at hst
                  have HN : Hid (termF s fu (j + 1) (putR row 2 sg) T fr = R) := hst
                  have A3 : Hid (At 2 (wc.setCell ⟨w.heap.size, 2, none⟩ (.int .i64 sg)) w.heap.size (vA (putR row 2 sg))) := by have := a2.set 2 (.int .i64 sg); rwa [set_putR row 2 sg (by omega)] at this
                  have B3 : Hid (Below w.heap.size w (wc.setCell ⟨w.heap.size, 2, none⟩ (.int .i64 sg))) := B2.setCell (Nat.le_refl w.heap.size) _
                  clear hst
                  go_wp2
                  exact ⟨⟨j + 1, _, _, _, fu, ⟨by omega, by omega⟩, by go_num, rfl, rfl, HN, A3.out, B3.out⟩, by simp [intOf]; omega⟩
                · rw [if_pos hr] at hst
                  subst hst
                  go_wp2
                  refine bodyPost_ret (v := .tuple #[.slice (some ⟨w.heap.size, 0, none⟩) 3 3, .int .i64 T, .bool false]) (by simp [results, Try.results79, go_sem]) rfl ⟨_, rfl, Nat.le_refl _, a2, B2⟩
              have f122 : ((c : Int) == 122) = false := by simp; omega
              by_cases e90 : c = 90
              · subst e90
                rw [if_pos (show axis 90 < 3 by decide), show axis 90 = 2 from rfl] at hst
                have cR := a2.cell 2 (vA_get row 2 (by omega))
                have fR := a2.frozen 2
                by_cases hr : row 2 = 0
                · rw [if_neg (by simp [hr])] at hst
                  have HN : Hid (termF s fu (j + 1) (putR row 2 sg) T fr = R) := hst
                  have A3 : Hid (At 2 (wc.setCell ⟨w.heap.size, 2, none⟩ (.int .i64 sg)) w.heap.size (vA (putR row 2 sg))) := by have := a2.set 2 (.int .i64 sg); rwa [set_putR row 2 sg (by omega)] at this
                  have B3 : Hid (Below w.heap.size w (wc.setCell ⟨w.heap.size, 2, none⟩ (.int .i64 sg))) := B2.setCell (Nat.le_refl w.heap.size) _
                  clear hst
                  go_wp2
                  exact ⟨⟨j + 1, _, _, _, fu, ⟨by omega, by omega⟩, by go_num, rfl, rfl, HN, A3.out, B3.out⟩, by simp [intOf]; omega⟩
                · rw [if_pos hr] at hst
                  subst hst
                  go_wp2
                  refine bodyPost_ret (v := .tuple #[.slice (some ⟨w.heap.size, 0, none⟩) 3 3, .int .i64 T, .bool false]) (by simp [results, Try.results79, go_sem]) rfl ⟨_, rfl, Nat.le_refl _, a2, B2⟩
              have f90 : ((c : Int) == 90) = false := by simp; omega
              rw [if_neg (show ¬ axis c < 3 by unfold axis; simp [e120, e88, e121, e89, e122, e90])] at hst
              have hdi := dK_in s j (by omega)
              have hd2 := dK_le s j
              have hvb := dV_bound s j (dK s j) (Nat.le_refl _)
              obtain ⟨n, hn⟩ : ∃ n, dK s j = n := ⟨_, rfl⟩
              have hdg := digits_any s j wc (by omega) (by omega)
              rw [hn] at hdi hd2 hvb hst hdg
              obtain ⟨A, hA⟩ : ∃ A, dV s j n = A := ⟨_, rfl⟩
              rw [hA] at hvb hst hdg
              clear hn hA e120 e88 e121 e89 e122 e90
              go_wp2_with fail
              refine hdg.mono ?_
              rintro e w2 ⟨rfl, rfl⟩
              clear hdg f120 f88 f121 f89 f122 f90 hbt
              by_cases hn0 : n = 0
              · rw [if_pos (.inl hn0)] at hst
                subst hst
                subst hn0
                go_wp2
                refine bodyPost_ret (v := .tuple #[.slice (some ⟨w.heap.size, 0, none⟩) 3 3, .int .i64 T, .bool false]) (by simp [results, Try.results79, go_sem]) rfl ⟨_, rfl, Nat.le_refl _, a2, B2⟩
              have hn0' : ((n : Int) == 0) = false := by simp; omega
              by_cases hfr : fr = true
              · rw [if_pos (.inr (.inl hfr))] at hst
                subst hst
                subst hfr
                go_wp2
                refine bodyPost_ret (v := .tuple #[.slice (some ⟨w.heap.size, 0, none⟩) 3 3, .int .i64 T, .bool false]) (by simp [results, Try.results79, go_sem]) rfl ⟨_, rfl, Nat.le_refl _, a2, B2⟩
              obtain rfl : fr = false := by simpa using hfr
              have hnl : (n : Int) ≤ 2 := by omega
              by_cases hjn : s.size ≤ j + n
              · rw [if_pos (.inr (.inr (.inl hjn)))] at hst
                subst hst
                have h9 : (s.size : Int) ≤ (j : Int) + (n : Int) := by omega
                go_wp2
                refine bodyPost_ret (v := .tuple #[.slice (some ⟨w.heap.size, 0, none⟩) 3 3, .int .i64 T, .bool false]) (by simp [results, Try.results79, go_sem]) rfl ⟨_, rfl, Nat.le_refl _, a2, B2⟩
              have h9 : (j : Int) + (n : Int) < (s.size : Int) := by omega
              have hbt := byt_at s (j + n) (by omega)
              by_cases h47 : byt s (j + n) ≠ 47
              · rw [if_pos (.inr (.inr (.inr h47)))] at hst
                subst hst
                obtain ⟨d, hd⟩ : ∃ d, byt s (j + n) = d := ⟨_, rfl⟩
                rw [hd] at hbt h47
                have h47' : ((d : Int) == 47) = false := by simp; omega
                have h47n : ((d : Int) != 47) = true := by simp; omega
                clear hd
                go_wp2
                refine bodyPost_ret (v := .tuple #[.slice (some ⟨w.heap.size, 0, none⟩) 3 3, .int .i64 T, .bool false]) (by simp [results, Try.results79, go_sem]) rfl ⟨_, rfl, Nat.le_refl _, a2, B2⟩
              rw [if_neg (by simp only [not_or]; exact ⟨hn0, by simp, hjn, h47⟩)] at hst
              have h47e : byt s (j + n) = 47 := Classical.not_not.1 h47
              rw [h47e] at hbt
              clear h47 h47e hfr
              have hdi2 := dK_in s (j + n + 1) (by omega)
              have hd22 := dK_le s (j + n + 1)
              have hvb2 := dV_bound s (j + n + 1) (dK s (j + n + 1)) (Nat.le_refl _)
              have hdg := digits_any s (j + n + 1) wc (by omega) (by omega)
              obtain ⟨m, hm⟩ : ∃ m, dK s (j + n + 1) = m := ⟨_, rfl⟩
              rw [hm] at hdi2 hd22 hvb2 hst hdg
              obtain ⟨C, hC⟩ : ∃ C, dV s (j + n + 1) m = C := ⟨_, rfl⟩
              rw [hC] at hvb2 hst hdg
              clear hm hC
              have hcast : ((j + n + 1 : Nat) : Int) = (j : Int) + (n : Int) + 1 := by omega
              rw [hcast] at hdg
              clear hcast
              go_wp2_with fail
              refine hdg.mono ?_
              rintro e w2 ⟨rfl, rfl⟩
              clear hdg hbt
              by_cases hm0 : m = 0
              · rw [if_pos (.inl hm0)] at hst
                subst hst
                subst hm0
                go_wp2
                refine bodyPost_ret (v := .tuple #[.slice (some ⟨w.heap.size, 0, none⟩) 3 3, .int .i64 T, .bool false]) (by simp [results, Try.results79, go_sem]) rfl ⟨_, rfl, Nat.le_refl _, a2, B2⟩
              have hm0' : ((m : Int) == 0) = false := by simp; omega
              by_cases hC0 : C = 0
              · rw [if_pos (.inr (.inl hC0))] at hst
                subst hst
                subst hC0
                go_wp2
                refine bodyPost_ret (v := .tuple #[.slice (some ⟨w.heap.size, 0, none⟩) 3 3, .int .i64 T, .bool false]) (by simp [results, Try.results79, go_sem]) rfl ⟨_, rfl, Nat.le_refl _, a2, B2⟩
              have hC0' : (C == 0) = false := by simpa using hC0
              have hCp : 0 < C := by omega
              by_cases hmd : (24 : Int).tmod C ≠ 0
              · rw [if_pos (.inr (.inr hmd))] at hst
                subst hst
                rw [Int.tmod_eq_emod_of_nonneg (by decide)] at hmd
                have hmd' : ((24 : Int) % C == 0) = false := by simpa using hmd
                have hmdn : ((24 : Int) % C != 0) = true := by simpa using hmd
                go_wp2
                refine bodyPost_ret (v := .tuple #[.slice (some ⟨w.heap.size, 0, none⟩) 3 3, .int .i64 T, .bool false]) (by simp [results, Try.results79, go_sem]) rfl ⟨_, rfl, Nat.le_refl _, a2, B2⟩
              rw [if_neg (by simp only [not_or]; exact ⟨hm0, hC0, hmd⟩)] at hst
              have hmd0 : (24 : Int) % C = 0 := by rw [← Int.tmod_eq_emod_of_nonneg (by decide)]; exact Classical.not_not.1 hmd
              have hq : 0 ≤ (24 : Int).tdiv C ∧ (24 : Int).tdiv C ≤ 24 := by
                rw [Int.tdiv_eq_ediv_of_nonneg (by decide)]
                exact ⟨Int.ediv_nonneg (by decide) (by omega), Int.ediv_le_self _ (by decide)⟩
              obtain ⟨Q, hQ⟩ : ∃ Q, (24 : Int).tdiv C = Q := ⟨_, rfl⟩
              rw [hQ] at hq hst
              have p1 := mul_bound (M := 1) (N := 99) (show -1 ≤ sg ∧ sg ≤ 1 by omega) (show -99 ≤ A ∧ A ≤ 99 by omega)
              have p2 := mul_bound (M := 99) (N := 24) (show -99 ≤ sg * A ∧ sg * A ≤ 99 by omega) (show -24 ≤ Q ∧ Q ≤ 24 by omega)
              have HN : Hid (termF s fu (j + n + 1 + m) row (sg * A * Q % 24) true = R) := hst
              have hQ' : (24 : Int) / C = Q := by rw [← hQ, Int.tdiv_eq_ediv_of_nonneg (by decide)]
              have b1 : -99 ≤ sg * A ∧ sg * A ≤ 99 := by omega
              have b2 : -2376 ≤ sg * A * Q ∧ sg * A * Q ≤ 2376 := by omega
              have w1 : wrap64 (sg * A) = sg * A := by unfold wrap64; omega
              have w2 : wrap64 (sg * A * Q) = sg * A * Q := by unfold wrap64; omega
              have v1 : IntKind.i64.wrap (sg * A) = sg * A := IntWalk.i64_in _ (by omega)
              have v2 : IntKind.i64.wrap (sg * A * Q) = sg * A * Q := IntWalk.i64_in _ (by omega)
              clear p1 p2 hsg hQ
              have hml : (m : Int) ≤ 2 := by omega
              clear hst hmd
              go_wp2_with (go_at_call 61; refine (l1Mod_any _ _ (by omega)).mono ?_; rintro e w3 ⟨rfl, rfl⟩)
              exact ⟨⟨j + n + 1 + m, row, _, true, fu, ⟨by omega, by omega⟩, by go_num, rfl, rfl, HN, a2, B2⟩, by simp [intOf]; omega⟩
      · obtain rfl : i = 0 := by omega
        have hs0 : s.size = 0 := by omega
        have h1 : ¬ (0 : Int) < (s.size : Int) := by omega
        have hns : ¬ isS s 0 := fun x => by have := x.1; omega
        have hst := HS.out
        rw [if_neg hns, if_neg (by simp), tailF, if_pos (by omega)] at hst
        subst hst
        go_wp2
        refine bodyPost_ret (v := .tuple #[.slice (some ⟨w.heap.size, 0, none⟩) 3 3, .int .i64 T, .bool false]) (by simp [results, Try.results79, go_sem]) rfl ⟨_, rfl, Nat.le_refl _, a1, B⟩
end Go.Proofs.Ytpolnkjmojofoaa
