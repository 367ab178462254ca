/-
  Digits read by the specification, walked.
-/
import Derived.Test.YtiocneailhplkaaGreatMC
import Derived.Test.YtiocneailhplkaaGreatOpK
import Derived.Test.YtiocneailhplkaaGreatMG
namespace Go.Proofs.YtiocneailhplkaaGreat
open Go.RowKit

/-- A text's byte, 0 behind its end. -/
def byt (s : ByteArray) (i : Nat) : Nat := if h : i < s.size then (s[i]'h).toNat else 0
theorem byt_at (s : ByteArray) (i : Nat) (h : i < s.size) : (s[i]'h).toNat = byt s i := by simp [byt, h]
def isD (s : ByteArray) (i : Nat) : Bool := decide (i < s.size) && (decide (48 ≤ byt s i) && decide (byt s i ≤ 57))
/-- How many digits stand there, at most two; their number. -/
def dK (s : ByteArray) (i : Nat) : Nat := if isD s i then (if isD s (i + 1) then 2 else 1) else 0
def dVr (s : ByteArray) (i : Nat) : Nat → Int
  | 0 => 0
  | k + 1 => dVr s i k * 10 + ((byt s (i + k) : Int) - 48)
theorem dK_le (s : ByteArray) (i : Nat) : dK s i ≤ 2 := by unfold dK; split <;> (try split) <;> omega
theorem dK_is (s : ByteArray) (i k : Nat) (hk : k < dK s i) : isD s (i + k) = true := by
  unfold dK at hk
  by_cases h1 : isD s i = true
  · rw [if_pos h1] at hk
    by_cases h2 : isD s (i + 1) = true
    · rw [if_pos h2] at hk
      rcases (by omega : k = 0 ∨ k = 1) with rfl | rfl
      · exact h1
      · exact h2
    · rw [if_neg h2] at hk
      obtain rfl : k = 0 := by omega
      exact h1
  · rw [if_neg h1] at hk
    omega
theorem dK_end (s : ByteArray) (i : Nat) (hk : dK s i < 2) : isD s (i + dK s i) = false := by
  unfold dK at hk ⊢
  by_cases h1 : isD s i = true
  · rw [if_pos h1] at hk ⊢
    by_cases h2 : isD s (i + 1) = true
    · rw [if_pos h2] at hk; omega
    · rw [if_neg h2]; simpa using h2
  · rw [if_neg h1]; simpa using h1
theorem isD_iff (s : ByteArray) (i : Nat) : isD s i = true ↔ i < s.size ∧ 48 ≤ byt s i ∧ byt s i ≤ 57 := by
  simp [isD]
theorem byt_lt (s : ByteArray) (i : Nat) : byt s i < 256 := by
  unfold byt
  split
  · exact UInt8.toNat_lt _
  · omega
theorem dVr_bound (s : ByteArray) (i : Nat) : ∀ k, k ≤ dK s i → 0 ≤ dVr s i k ∧ dVr s i k ≤ 99 ∧ (k ≤ 1 → dVr s i k ≤ 9) := by
  intro k hk
  have h2 := dK_le s i
  rcases (by omega : k = 0 ∨ k = 1 ∨ k = 2) with rfl | rfl | rfl
  · simp [dVr]
  · have := (isD_iff _ _).1 (dK_is s i 0 (by omega))
    simp only [dVr, Nat.add_zero] at *
    omega
  · have a := (isD_iff _ _).1 (dK_is s i 0 (by omega))
    have b := (isD_iff _ _).1 (dK_is s i 1 (by omega))
    simp only [dVr, Nat.add_zero] at *
    omega
set_option maxHeartbeats 800000 in
theorem digits_any (s : ByteArray) (i : Nat) (w : World) (hs : s.size ≤ 1000) (hi : i ≤ s.size) :
    Calls Tryz.prog 116 #[.string s, .int .i64 (i : Int)] w fun e w' => e = .returned (.tuple #[.int .i64 (dVr s i (dK s i)), .int .i64 ((dK s i : Nat) : Int)]) ∧ w = w' := by
  have hs' : (s.size : Int) ≤ 1000 := by omega
  have hi' : (i : Int) ≤ 1000 := by omega
  have h2 := dK_le s i
  go_enter Tryz.func116, Tryz.ntmps116
  go_wp2
  go_loop [6, 7] (fun n t => ∃ k : Nat, k ≤ dK s i ∧ t = .int .i64 k ∧ n = .int .i64 (dVr s i k)) (fun _ t => 2 - (intOf t).toNat)
  case atStart => exact ⟨0, Nat.zero_le _, rfl, rfl⟩
  case round =>
    obtain ⟨k, hk, rfl, rfl⟩ := hrel
    have hb := dVr_bound s i k hk
    by_cases hlt : k < dK s i
    · obtain ⟨d1, d2, d3⟩ := (isD_iff _ _).1 (dK_is s i k hlt)
      have hk2 : (k : Int) < 2 := by omega
      have hd1 : (i : Int) + (k : Int) < (s.size : Int) := by omega
      have hbt := byt_at s (i + k) d1
      obtain ⟨c, hc⟩ : ∃ c, byt s (i + k) = c := ⟨_, rfl⟩
      rw [hc] at d2 d3 hbt
      have d2' : (48 : Int) ≤ (c : Int) := by omega
      have d3' : (c : Int) ≤ 57 := by omega
      have hst : Hid (dVr s i k * 10 + ((c : Int) - 48) = dVr s i (k + 1)) := by rw [← hc]; rfl
      obtain ⟨V, hV⟩ : ∃ V, dVr s i k = V := ⟨_, rfl⟩
      rw [hV] at hb hst ⊢
      clear hc hV
      go_wp2
      refine ⟨⟨k + 1, by omega, by go_num, ?_⟩, by simp [intOf]; omega⟩
      rw [← hst.out]
    · obtain rfl : k = dK s i := by omega
      by_cases hk2 : dK s i = 2
      · have hk2' : ¬ ((dK s i : Nat) : Int) < 2 := by omega
        go_wp2
        go_ret2
        exact ⟨rfl, rfl⟩
      · have hk2' : ((dK s i : Nat) : Int) < 2 := by omega
        have hend := dK_end s i (by omega)
        obtain ⟨D, hD⟩ : ∃ D, dK s i = D := ⟨_, rfl⟩
        rw [hD] at hend hk2' hb ⊢
        have hk3 : D ≤ 2 := by omega
        clear hlt hk hk2 h2
        by_cases hsz : i + D < s.size
        · have hd1 : (i : Int) + (D : Int) < (s.size : Int) := by omega
          have hbt := byt_at s (i + D) hsz
          have hnd : ¬ (48 ≤ byt s (i + D) ∧ byt s (i + D) ≤ 57) := fun x => by
            have := (isD_iff s (i + D)).2 ⟨hsz, x⟩
            rw [this] at hend
            cases hend
          obtain ⟨c, hc⟩ : ∃ c, byt s (i + D) = c := ⟨_, rfl⟩
          rw [hc] at hnd hbt
          clear hc hend
          by_cases h48 : 48 ≤ c
          · have d2' : (48 : Int) ≤ (c : Int) := by omega
            have d3' : ¬ (c : Int) ≤ 57 := by omega
            go_wp2
            go_ret2
            exact ⟨by first | rfl | (rw [hD]; rfl), rfl⟩
          · have d2' : ¬ (48 : Int) ≤ (c : Int) := by omega
            go_wp2
            go_ret2
            exact ⟨by first | rfl | (rw [hD]; rfl), rfl⟩
        · have hd1 : ¬ (i : Int) + (D : Int) < (s.size : Int) := by omega
          go_wp2
          go_ret2
          exact ⟨by first | rfl | (rw [hD]; rfl), rfl⟩
end Go.Proofs.YtiocneailhplkaaGreat
/-
  Terms of a text read by the specification, walked.
-/
namespace Go.Proofs.YtiocneailhplkaaGreat
open Go.RowKit

/-- The axis that a byte names; 3: none. -/
def axis (c : Nat) : Nat := if c = 120 ∨ c = 88 then 0 else if c = 121 ∨ c = 89 then 1 else if c = 122 ∨ c = 90 then 2 else 3
/-- A sign stands there. -/
def isS (s : ByteArray) (i : Nat) : Prop := i < s.size ∧ (byt s i = 45 ∨ byt s i = 43)
instance (s : ByteArray) (i : Nat) : Decidable (isS s i) := by unfold isS; infer_instance
def putR (row : Nat → Int) (k : Nat) (x : Int) : Nat → Int := fun i => if i = k then x else row i
/-- What is told of a term from place i on, behind its sign. -/
def tailF (s : ByteArray) (next : Nat → (Nat → Int) → Int → Bool → (Nat → Int) × Int × Bool) (i : Nat) (sg : Int) (row : Nat → Int) (t : Int) (fr : Bool) : (Nat → Int) × Int × Bool :=
  if s.size ≤ i then (row, t, false)
  else if axis (byt s i) < 3 then
    (if row (axis (byt s i)) ≠ 0 then (row, t, false) else next (i + 1) (putR row (axis (byt s i)) sg) t fr)
  else if dK s i = 0 ∨ fr = true ∨ s.size ≤ i + dK s i ∨ byt s (i + dK s i) ≠ 47 then (row, t, false)
  else if dK s (i + dK s i + 1) = 0 ∨ dVr s (i + dK s i + 1) (dK s (i + dK s i + 1)) = 0 ∨ (24 : Int).tmod (dVr s (i + dK s i + 1) (dK s (i + dK s i + 1))) ≠ 0 then (row, t, false)
  else next (i + dK s i + 1 + dK s (i + dK s i + 1)) row ((sg * dVr s i (dK s i) * (24 : Int).tdiv (dVr s (i + dK s i + 1) (dK s (i + dK s i + 1)))) % 24) true
/-- What is told of a term from place i on. -/
def termF (s : ByteArray) : Nat → Nat → (Nat → Int) → Int → Bool → (Nat → Int) × Int × Bool
  | 0, _, row, t, _ => (row, t, false)
  | k + 1, i, row, t, fr =>
    if s.size ≤ i ∧ i ≠ 0 then (row, t, true)
    else if isS s i then tailF s (termF s k) (i + 1) (if byt s i = 45 then -1 else 1) row t fr
    else if i ≠ 0 then (row, t, false)
    else tailF s (termF s k) i 1 row t fr
theorem dK_in (s : ByteArray) (i : Nat) (hi : i ≤ s.size) : i + dK s i ≤ s.size := by
  have h2 := dK_le s i
  by_cases h0 : dK s i = 0
  · omega
  · have := (isD_iff _ _).1 (dK_is s i (dK s i - 1) (by omega))
    omega
theorem set_putR (row : Nat → Int) (k : Nat) (x : Int) (hk : k < 3) : (vA row).setIfInBounds k (.int .i64 x) = vA (putR row k x) := by
  rcases (by omega : k = 0 ∨ k = 1 ∨ k = 2) with rfl | rfl | rfl <;> simp [vA, putR]
/-- The state of the machine behind a sign. -/
def Sgn (w : World) (s : ByteArray) (g : Nat) (R : (Nat → Int) × Int × Bool) (row : Nat → Int) (t : Int) (fr : Bool) (fuel i0 : Nat) (s8 s9 : Value) (wc : World) : Prop :=
  ∃ (i : Nat) (sg : Int), s8 = .int .i64 i ∧ s9 = .int .i64 sg ∧ i0 ≤ i ∧ i ≤ s.size + 1 ∧ (sg = 1 ∨ sg = -1) ∧ Hid (tailF s (termF s fuel) i sg row t fr = R) ∧ At 2 wc g (vA row) ∧ Below w.heap.size w wc
set_option maxRecDepth 100000 in
set_option maxHeartbeats 1600000 in
theorem term_any (s : ByteArray) (w : World) (hs : s.size ≤ 500) :
    Calls Tryz.prog 110 #[.string s] w fun e w' => ∃ g, e = .returned (.tuple #[.slice (some ⟨g, 0, none⟩) 3 3, .int .i64 (termF s (s.size + 2) 0 (fun _ => 0) 0 false).2.1, .bool (termF s (s.size + 2) 0 (fun _ => 0) 0 false).2.2]) ∧ w.heap.size ≤ g ∧ At 2 w' g (vA (termF s (s.size + 2) 0 (fun _ => 0) 0 false).1) ∧ Below w.heap.size w w' := by
  have hs' : (s.size : Int) ≤ 500 := by omega
  obtain ⟨R, hR⟩ : ∃ R, termF s (s.size + 2) 0 (fun _ => 0) 0 false = R := ⟨_, rfl⟩
  rw [hR]
  have hmk := make3
  obtain ⟨W1, hW1, a1, B, -⟩ := boxed w 2 (vA fun _ => 0)
  unfold vA at hmk hW1
  have hR0 : termF s (s.size + 2) 0 (fun _ => 0) 0 false = R := hR
  clear hR
  go_enter Tryz.func110, Tryz.ntmps110
  go_wp2
  clear hmk hW1
  go_loopw [6, 7, 8] (fun t f n wr => ∃ (i : Nat) (row : Nat → Int) (T : Int) (fr : Bool) (fuel : Nat), (i ≤ s.size + 1 ∧ s.size + 2 ≤ fuel + i) ∧ n = .int .i64 i ∧ t = .int .i64 T ∧ f = .bool fr ∧ Hid (termF s fuel i row T fr = R) ∧ At 2 wr w.heap.size (vA row) ∧ Below w.heap.size w wr) (fun _ _ n _ => s.size + 2 - (intOf n).toNat)
  case atStart => exact ⟨0, _, 0, false, s.size + 2, by omega, rfl, rfl, rfl, hR0, a1, B⟩
  case round =>
    clear hR0 a1 B
    obtain ⟨i, row, T, fr, fuel, ⟨hi, hfu⟩, rfl, rfl, rfl, hR, a1, B⟩ := hrel
    obtain ⟨fu, rfl⟩ : ∃ fu, fuel = fu + 1 := ⟨fuel - 1, by omega⟩
    have hst := hR.out
    rw [termF] at hst
    by_cases hend : s.size ≤ i ∧ i ≠ 0
    · rw [if_pos hend] at hst
      subst hst
      have h1 : ¬ (i : Int) < (s.size : Int) := by omega
      have h2 : ¬ (i : Int) = 0 := by omega
      go_wp2
      refine bodyPost_ret (v := .tuple #[.slice (some ⟨w.heap.size, 0, none⟩) 3 3, .int .i64 T, .bool true]) (by simp [results, Tryz.results110, go_sem]) rfl ⟨_, rfl, Nat.le_refl _, a1, B⟩
    · rw [if_neg hend] at hst
      have HS : Hid ((if isS s i then tailF s (termF s fu) (i + 1) (if byt s i = 45 then -1 else 1) row T fr else if i ≠ 0 then (row, T, false) else tailF s (termF s fu) i 1 row T fr) = R) := hst
      clear hst hR
      have hi' : (i : Int) ≤ 501 := by omega
      by_cases hsz : i < s.size
      · have h1 : (i : Int) < (s.size : Int) := by omega
        have hbt := byt_at s i hsz
        obtain ⟨c, hc⟩ : ∃ c, byt s i = c := ⟨_, rfl⟩
        have hcl := byt_lt s i
        rw [hc] at hbt hcl
        have hisS : Hid (isS s i ↔ (c = 45 ∨ c = 43)) := by rw [← hc]; exact ⟨fun x => x.2, fun x => ⟨hsz, x⟩⟩
        rw [hc] at HS
        clear hc
        go_upto_region 7 with (fail)
        go_cut [39] from 24 to 146 (fun s39 wc => s39 = .bool (decide (isS s i)) ∧ wr = wc)
        case first =>
          by_cases e45 : c = 45
          · have hd : Hid (decide (isS s i) = true) := decide_eq_true (hisS.out.2 (.inl e45))
            subst e45
            go_wp2
            go_meet
            case rel => exact ⟨by rw [hd.out], rfl⟩
          · have e45' : ((c : Int) == 45) = false := by simp; omega
            by_cases e43 : c = 43
            · have hd : Hid (decide (isS s i) = true) := decide_eq_true (hisS.out.2 (.inr e43))
              subst e43
              go_wp2
              go_meet
              case rel => exact ⟨by rw [hd.out], rfl⟩
            · have e43' : ((c : Int) == 43) = false := by simp; omega
              have hd : Hid (decide (isS s i) = false) := decide_eq_false (fun x => (hisS.out.1 x).elim e45 e43)
              go_wp2
              go_meet
              case rel => exact ⟨by rw [hd.out], rfl⟩
        case rest =>
          obtain ⟨rfl, rfl⟩ := hcut
          go_upto_if 39 with (fail)
          go_cut [8, 9] from 16 to 146 (fun s8 s9 wc => Sgn w s w.heap.size R row T fr fu i s8 s9 wc)
          case first =>
            by_cases hS : isS s i
            · rw [decide_eq_true hS]
              have hst := HS.out
              rw [if_pos hS] at hst
              have H1 := hisS.out.1 hS
              by_cases e45 : c = 45
              · subst e45
                rw [if_pos rfl] at hst
                have HT : Hid (tailF s (termF s fu) (i + 1) (-1) row T fr = R) := hst
                clear hst H1 HS hisS
                go_wp2
                go_meet
                case rel => exact ⟨i + 1, -1, by go_num, rfl, by omega, by omega, .inr rfl, HT, a1, B⟩
              · have e45' : ((c : Int) == 45) = false := by simp; omega
                rw [if_neg e45] at hst
                have HT : Hid (tailF s (termF s fu) (i + 1) 1 row T fr = R) := hst
                clear hst H1 HS hisS
                go_wp2
                go_meet
                case rel => exact ⟨i + 1, 1, by go_num, rfl, by omega, by omega, .inl rfl, HT, a1, B⟩
            · rw [decide_eq_false hS]
              have hst := HS.out
              rw [if_neg hS] at hst
              by_cases hi0 : i = 0
              · subst hi0
                rw [if_neg (by simp)] at hst
                have HT : Hid (tailF s (termF s fu) 0 1 row T fr = R) := hst
                clear hst HS hisS
                go_wp2
                go_meet
                case rel => exact ⟨0, 1, rfl, rfl, Nat.le_refl _, by omega, .inl rfl, HT, a1, B⟩
              · rw [if_pos hi0] at hst
                subst hst
                have hp : (0 : Int) < (i : Int) := by omega
                go_wp2
                refine bodyPost_ret (v := .tuple #[.slice (some ⟨w.heap.size, 0, none⟩) 3 3, .int .i64 T, .bool false]) (by simp [results, Tryz.results110, go_sem]) rfl ⟨_, rfl, Nat.le_refl _, a1, B⟩
          case rest =>
            obtain ⟨j, sg, rfl, rfl, hij, hj, hsg, HT, a2, B2⟩ := hcut
            clear a1 B HS hisS hbt h1 hsz
            have hst := HT.out
            rw [tailF] at hst
            by_cases hje : s.size ≤ j
            · rw [if_pos hje] at hst
              subst hst
              have h1 : ¬ (j : Int) < (s.size : Int) := by omega
              have h2 : (s.size : Int) ≤ (j : Int) := by omega
              go_wp2
              refine bodyPost_ret (v := .tuple #[.slice (some ⟨w.heap.size, 0, none⟩) 3 3, .int .i64 T, .bool false]) (by simp [results, Tryz.results110, go_sem]) rfl ⟨_, rfl, Nat.le_refl _, a2, B2⟩
            · rw [if_neg hje] at hst
              have h1 : (j : Int) < (s.size : Int) := by omega
              have hbt := byt_at s j (by omega)
              obtain ⟨c, hc⟩ : ∃ c, byt s j = c := ⟨_, rfl⟩
              rw [hc] at hbt hst
              clear hc HT hcl hi'
              have h8 : (s.size : Int) ≤ 500 := by omega
              by_cases e120 : c = 120
              · subst e120
                rw [if_pos (show axis 120 < 3 by decide), show axis 120 = 0 from rfl] at hst
                have cR := a2.cell 0 (vA_get row 0 (by omega))
                have fR := a2.frozen 0
                by_cases hr : row 0 = 0
                · rw [if_neg (by simp [hr])] at hst
                  have HN : Hid (termF s fu (j + 1) (putR row 0 sg) T fr = R) := hst
                  have A3 : Hid (At 2 (wc.setCell ⟨w.heap.size, 0, none⟩ (.int .i64 sg)) w.heap.size (vA (putR row 0 sg))) := by have := a2.set 0 (.int .i64 sg); rwa [set_putR row 0 sg (by omega)] at this
                  have B3 : Hid (Below w.heap.size w (wc.setCell ⟨w.heap.size, 0, none⟩ (.int .i64 sg))) := B2.setCell (Nat.le_refl w.heap.size) _
                  clear hst
                  go_wp2
                  exact ⟨⟨j + 1, _, _, _, fu, ⟨by omega, by omega⟩, by go_num, rfl, rfl, HN, A3.out, B3.out⟩, by simp [intOf]; omega⟩
                · rw [if_pos hr] at hst
                  subst hst
                  go_wp2
                  refine bodyPost_ret (v := .tuple #[.slice (some ⟨w.heap.size, 0, none⟩) 3 3, .int .i64 T, .bool false]) (by simp [results, Tryz.results110, go_sem]) rfl ⟨_, rfl, Nat.le_refl _, a2, B2⟩
              have f120 : ((c : Int) == 120) = false := by simp; omega
              by_cases e88 : c = 88
              · subst e88
                rw [if_pos (show axis 88 < 3 by decide), show axis 88 = 0 from rfl] at hst
                have cR := a2.cell 0 (vA_get row 0 (by omega))
                have fR := a2.frozen 0
                by_cases hr : row 0 = 0
                · rw [if_neg (by simp [hr])] at hst
                  have HN : Hid (termF s fu (j + 1) (putR row 0 sg) T fr = R) := hst
                  have A3 : Hid (At 2 (wc.setCell ⟨w.heap.size, 0, none⟩ (.int .i64 sg)) w.heap.size (vA (putR row 0 sg))) := by have := a2.set 0 (.int .i64 sg); rwa [set_putR row 0 sg (by omega)] at this
                  have B3 : Hid (Below w.heap.size w (wc.setCell ⟨w.heap.size, 0, none⟩ (.int .i64 sg))) := B2.setCell (Nat.le_refl w.heap.size) _
                  clear hst
                  go_wp2
                  exact ⟨⟨j + 1, _, _, _, fu, ⟨by omega, by omega⟩, by go_num, rfl, rfl, HN, A3.out, B3.out⟩, by simp [intOf]; omega⟩
                · rw [if_pos hr] at hst
                  subst hst
                  go_wp2
                  refine bodyPost_ret (v := .tuple #[.slice (some ⟨w.heap.size, 0, none⟩) 3 3, .int .i64 T, .bool false]) (by simp [results, Tryz.results110, go_sem]) rfl ⟨_, rfl, Nat.le_refl _, a2, B2⟩
              have f88 : ((c : Int) == 88) = false := by simp; omega
              by_cases e121 : c = 121
              · subst e121
                rw [if_pos (show axis 121 < 3 by decide), show axis 121 = 1 from rfl] at hst
                have cR := a2.cell 1 (vA_get row 1 (by omega))
                have fR := a2.frozen 1
                by_cases hr : row 1 = 0
                · rw [if_neg (by simp [hr])] at hst
                  have HN : Hid (termF s fu (j + 1) (putR row 1 sg) T fr = R) := hst
                  have A3 : Hid (At 2 (wc.setCell ⟨w.heap.size, 1, none⟩ (.int .i64 sg)) w.heap.size (vA (putR row 1 sg))) := by have := a2.set 1 (.int .i64 sg); rwa [set_putR row 1 sg (by omega)] at this
                  have B3 : Hid (Below w.heap.size w (wc.setCell ⟨w.heap.size, 1, none⟩ (.int .i64 sg))) := B2.setCell (Nat.le_refl w.heap.size) _
                  clear hst
                  go_wp2
                  exact ⟨⟨j + 1, _, _, _, fu, ⟨by omega, by omega⟩, by go_num, rfl, rfl, HN, A3.out, B3.out⟩, by simp [intOf]; omega⟩
                · rw [if_pos hr] at hst
                  subst hst
                  go_wp2
                  refine bodyPost_ret (v := .tuple #[.slice (some ⟨w.heap.size, 0, none⟩) 3 3, .int .i64 T, .bool false]) (by simp [results, Tryz.results110, go_sem]) rfl ⟨_, rfl, Nat.le_refl _, a2, B2⟩
              have f121 : ((c : Int) == 121) = false := by simp; omega
              by_cases e89 : c = 89
              · subst e89
                rw [if_pos (show axis 89 < 3 by decide), show axis 89 = 1 from rfl] at hst
                have cR := a2.cell 1 (vA_get row 1 (by omega))
                have fR := a2.frozen 1
                by_cases hr : row 1 = 0
                · rw [if_neg (by simp [hr])] at hst
                  have HN : Hid (termF s fu (j + 1) (putR row 1 sg) T fr = R) := hst
                  have A3 : Hid (At 2 (wc.setCell ⟨w.heap.size, 1, none⟩ (.int .i64 sg)) w.heap.size (vA (putR row 1 sg))) := by have := a2.set 1 (.int .i64 sg); rwa [set_putR row 1 sg (by omega)] at this
                  have B3 : Hid (Below w.heap.size w (wc.setCell ⟨w.heap.size, 1, none⟩ (.int .i64 sg))) := B2.setCell (Nat.le_refl w.heap.size) _
                  clear hst
                  go_wp2
                  exact ⟨⟨j + 1, _, _, _, fu, ⟨by omega, by omega⟩, by go_num, rfl, rfl, HN, A3.out, B3.out⟩, by simp [intOf]; omega⟩
                · rw [if_pos hr] at hst
                  subst hst
                  go_wp2
                  refine bodyPost_ret (v := .tuple #[.slice (some ⟨w.heap.size, 0, none⟩) 3 3, .int .i64 T, .bool false]) (by simp [results, Tryz.results110, go_sem]) rfl ⟨_, rfl, Nat.le_refl _, a2, B2⟩
              have f89 : ((c : Int) == 89) = false := by simp; omega
              by_cases e122 : c = 122
              · subst e122
                rw [if_pos (show axis 122 < 3 by decide), show axis 122 = 2 from rfl] at hst
                have cR := a2.cell 2 (vA_get row 2 (by omega))
                have fR := a2.frozen 2
                by_cases hr : row 2 = 0
                · rw [if_neg (by simp [hr])] at hst
                  have HN : Hid (termF s fu (j + 1) (putR row 2 sg) T fr = R) := hst
                  have A3 : Hid (At 2 (wc.setCell ⟨w.heap.size, 2, none⟩ (.int .i64 sg)) w.heap.size (vA (putR row 2 sg))) := by have := a2.set 2 (.int .i64 sg); rwa [set_putR row 2 sg (by omega)] at this
                  have B3 : Hid (Below w.heap.size w (wc.setCell ⟨w.heap.size, 2, none⟩ (.int .i64 sg))) := B2.setCell (Nat.le_refl w.heap.size) _
                  clear hst
                  go_wp2
                  exact ⟨⟨j + 1, _, _, _, fu, ⟨by omega, by omega⟩, by go_num, rfl, rfl, HN, A3.out, B3.out⟩, by simp [intOf]; omega⟩
                · rw [if_pos hr] at hst
                  subst hst
                  go_wp2
                  refine bodyPost_ret (v := .tuple #[.slice (some ⟨w.heap.size, 0, none⟩) 3 3, .int .i64 T, .bool false]) (by simp [results, Tryz.results110, go_sem]) rfl ⟨_, rfl, Nat.le_refl _, a2, B2⟩
              have f122 : ((c : Int) == 122) = false := by simp; omega
              by_cases e90 : c = 90
              · subst e90
                rw [if_pos (show axis 90 < 3 by decide), show axis 90 = 2 from rfl] at hst
                have cR := a2.cell 2 (vA_get row 2 (by omega))
                have fR := a2.frozen 2
                by_cases hr : row 2 = 0
                · rw [if_neg (by simp [hr])] at hst
                  have HN : Hid (termF s fu (j + 1) (putR row 2 sg) T fr = R) := hst
                  have A3 : Hid (At 2 (wc.setCell ⟨w.heap.size, 2, none⟩ (.int .i64 sg)) w.heap.size (vA (putR row 2 sg))) := by have := a2.set 2 (.int .i64 sg); rwa [set_putR row 2 sg (by omega)] at this
                  have B3 : Hid (Below w.heap.size w (wc.setCell ⟨w.heap.size, 2, none⟩ (.int .i64 sg))) := B2.setCell (Nat.le_refl w.heap.size) _
                  clear hst
                  go_wp2
                  exact ⟨⟨j + 1, _, _, _, fu, ⟨by omega, by omega⟩, by go_num, rfl, rfl, HN, A3.out, B3.out⟩, by simp [intOf]; omega⟩
                · rw [if_pos hr] at hst
                  subst hst
                  go_wp2
                  refine bodyPost_ret (v := .tuple #[.slice (some ⟨w.heap.size, 0, none⟩) 3 3, .int .i64 T, .bool false]) (by simp [results, Tryz.results110, go_sem]) rfl ⟨_, rfl, Nat.le_refl _, a2, B2⟩
              have f90 : ((c : Int) == 90) = false := by simp; omega
              rw [if_neg (show ¬ axis c < 3 by unfold axis; simp [e120, e88, e121, e89, e122, e90])] at hst
              have hdi := dK_in s j (by omega)
              have hd2 := dK_le s j
              have hvb := dVr_bound s j (dK s j) (Nat.le_refl _)
              obtain ⟨n, hn⟩ : ∃ n, dK s j = n := ⟨_, rfl⟩
              have hdg := digits_any s j wc (by omega) (by omega)
              rw [hn] at hdi hd2 hvb hst hdg
              obtain ⟨A, hA⟩ : ∃ A, dVr s j n = A := ⟨_, rfl⟩
              rw [hA] at hvb hst hdg
              clear hn hA e120 e88 e121 e89 e122 e90
              go_wp2_with fail
              refine hdg.mono ?_
              rintro e w2 ⟨rfl, rfl⟩
              clear hdg f120 f88 f121 f89 f122 f90 hbt
              by_cases hn0 : n = 0
              · rw [if_pos (.inl hn0)] at hst
                subst hst
                subst hn0
                go_wp2
                refine bodyPost_ret (v := .tuple #[.slice (some ⟨w.heap.size, 0, none⟩) 3 3, .int .i64 T, .bool false]) (by simp [results, Tryz.results110, go_sem]) rfl ⟨_, rfl, Nat.le_refl _, a2, B2⟩
              have hn0' : ((n : Int) == 0) = false := by simp; omega
              by_cases hfr : fr = true
              · rw [if_pos (.inr (.inl hfr))] at hst
                subst hst
                subst hfr
                go_wp2
                refine bodyPost_ret (v := .tuple #[.slice (some ⟨w.heap.size, 0, none⟩) 3 3, .int .i64 T, .bool false]) (by simp [results, Tryz.results110, go_sem]) rfl ⟨_, rfl, Nat.le_refl _, a2, B2⟩
              obtain rfl : fr = false := by simpa using hfr
              have hnl : (n : Int) ≤ 2 := by omega
              by_cases hjn : s.size ≤ j + n
              · rw [if_pos (.inr (.inr (.inl hjn)))] at hst
                subst hst
                have h9 : (s.size : Int) ≤ (j : Int) + (n : Int) := by omega
                go_wp2
                refine bodyPost_ret (v := .tuple #[.slice (some ⟨w.heap.size, 0, none⟩) 3 3, .int .i64 T, .bool false]) (by simp [results, Tryz.results110, go_sem]) rfl ⟨_, rfl, Nat.le_refl _, a2, B2⟩
              have h9 : (j : Int) + (n : Int) < (s.size : Int) := by omega
              have hbt := byt_at s (j + n) (by omega)
              by_cases h47 : byt s (j + n) ≠ 47
              · rw [if_pos (.inr (.inr (.inr h47)))] at hst
                subst hst
                obtain ⟨d, hd⟩ : ∃ d, byt s (j + n) = d := ⟨_, rfl⟩
                rw [hd] at hbt h47
                have h47' : ((d : Int) == 47) = false := by simp; omega
                have h47n : ((d : Int) != 47) = true := by simp; omega
                clear hd
                go_wp2
                refine bodyPost_ret (v := .tuple #[.slice (some ⟨w.heap.size, 0, none⟩) 3 3, .int .i64 T, .bool false]) (by simp [results, Tryz.results110, go_sem]) rfl ⟨_, rfl, Nat.le_refl _, a2, B2⟩
              rw [if_neg (by simp only [not_or]; exact ⟨hn0, by simp, hjn, h47⟩)] at hst
              have h47e : byt s (j + n) = 47 := Classical.not_not.1 h47
              rw [h47e] at hbt
              clear h47 h47e hfr
              have hdi2 := dK_in s (j + n + 1) (by omega)
              have hd22 := dK_le s (j + n + 1)
              have hvb2 := dVr_bound s (j + n + 1) (dK s (j + n + 1)) (Nat.le_refl _)
              have hdg := digits_any s (j + n + 1) wc (by omega) (by omega)
              obtain ⟨m, hm⟩ : ∃ m, dK s (j + n + 1) = m := ⟨_, rfl⟩
              rw [hm] at hdi2 hd22 hvb2 hst hdg
              obtain ⟨C, hC⟩ : ∃ C, dVr s (j + n + 1) m = C := ⟨_, rfl⟩
              rw [hC] at hvb2 hst hdg
              clear hm hC
              have hcast : ((j + n + 1 : Nat) : Int) = (j : Int) + (n : Int) + 1 := by omega
              rw [hcast] at hdg
              clear hcast
              go_wp2_with fail
              refine hdg.mono ?_
              rintro e w2 ⟨rfl, rfl⟩
              clear hdg hbt
              by_cases hm0 : m = 0
              · rw [if_pos (.inl hm0)] at hst
                subst hst
                subst hm0
                go_wp2
                refine bodyPost_ret (v := .tuple #[.slice (some ⟨w.heap.size, 0, none⟩) 3 3, .int .i64 T, .bool false]) (by simp [results, Tryz.results110, go_sem]) rfl ⟨_, rfl, Nat.le_refl _, a2, B2⟩
              have hm0' : ((m : Int) == 0) = false := by simp; omega
              by_cases hC0 : C = 0
              · rw [if_pos (.inr (.inl hC0))] at hst
                subst hst
                subst hC0
                go_wp2
                refine bodyPost_ret (v := .tuple #[.slice (some ⟨w.heap.size, 0, none⟩) 3 3, .int .i64 T, .bool false]) (by simp [results, Tryz.results110, go_sem]) rfl ⟨_, rfl, Nat.le_refl _, a2, B2⟩
              have hC0' : (C == 0) = false := by simpa using hC0
              have hCp : 0 < C := by omega
              by_cases hmd : (24 : Int).tmod C ≠ 0
              · rw [if_pos (.inr (.inr hmd))] at hst
                subst hst
                rw [Int.tmod_eq_emod_of_nonneg (by decide)] at hmd
                have hmd' : ((24 : Int) % C == 0) = false := by simpa using hmd
                have hmdn : ((24 : Int) % C != 0) = true := by simpa using hmd
                go_wp2
                refine bodyPost_ret (v := .tuple #[.slice (some ⟨w.heap.size, 0, none⟩) 3 3, .int .i64 T, .bool false]) (by simp [results, Tryz.results110, go_sem]) rfl ⟨_, rfl, Nat.le_refl _, a2, B2⟩
              rw [if_neg (by simp only [not_or]; exact ⟨hm0, hC0, hmd⟩)] at hst
              have hmd0 : (24 : Int) % C = 0 := by rw [← Int.tmod_eq_emod_of_nonneg (by decide)]; exact Classical.not_not.1 hmd
              have hq : 0 ≤ (24 : Int).tdiv C ∧ (24 : Int).tdiv C ≤ 24 := by
                rw [Int.tdiv_eq_ediv_of_nonneg (by decide)]
                exact ⟨Int.ediv_nonneg (by decide) (by omega), Int.ediv_le_self _ (by decide)⟩
              obtain ⟨Q, hQ⟩ : ∃ Q, (24 : Int).tdiv C = Q := ⟨_, rfl⟩
              rw [hQ] at hq hst
              have p1 := mul_bound (M := 1) (N := 99) (show -1 ≤ sg ∧ sg ≤ 1 by omega) (show -99 ≤ A ∧ A ≤ 99 by omega)
              have p2 := mul_bound (M := 99) (N := 24) (show -99 ≤ sg * A ∧ sg * A ≤ 99 by omega) (show -24 ≤ Q ∧ Q ≤ 24 by omega)
              have HN : Hid (termF s fu (j + n + 1 + m) row (sg * A * Q % 24) true = R) := hst
              have hQ' : (24 : Int) / C = Q := by rw [← hQ, Int.tdiv_eq_ediv_of_nonneg (by decide)]
              have b1 : -99 ≤ sg * A ∧ sg * A ≤ 99 := by omega
              have b2 : -2376 ≤ sg * A * Q ∧ sg * A * Q ≤ 2376 := by omega
              have w1 : wrap64 (sg * A) = sg * A := by unfold wrap64; omega
              have w2 : wrap64 (sg * A * Q) = sg * A * Q := by unfold wrap64; omega
              have v1 : IntKind.i64.wrap (sg * A) = sg * A := IntWalk.i64_in _ (by omega)
              have v2 : IntKind.i64.wrap (sg * A * Q) = sg * A * Q := IntWalk.i64_in _ (by omega)
              clear p1 p2 hsg hQ
              have hml : (m : Int) ≤ 2 := by omega
              clear hst hmd
              go_wp2_with (go_at_call 60; refine (l1Mod_any _ _ (by omega)).mono ?_; rintro e w3 ⟨rfl, rfl⟩)
              exact ⟨⟨j + n + 1 + m, row, _, true, fu, ⟨by omega, by omega⟩, by go_num, rfl, rfl, HN, a2, B2⟩, by simp [intOf]; omega⟩
      · obtain rfl : i = 0 := by omega
        have hs0 : s.size = 0 := by omega
        have h1 : ¬ (0 : Int) < (s.size : Int) := by omega
        have hns : ¬ isS s 0 := fun x => by have := x.1; omega
        have hst := HS.out
        rw [if_neg hns, if_neg (by simp), tailF, if_pos (by omega)] at hst
        subst hst
        go_wp2
        refine bodyPost_ret (v := .tuple #[.slice (some ⟨w.heap.size, 0, none⟩) 3 3, .int .i64 T, .bool false]) (by simp [results, Tryz.results110, go_sem]) rfl ⟨_, rfl, Nat.le_refl _, a1, B⟩
end Go.Proofs.YtiocneailhplkaaGreat
/-
  A text without its blanks, as the specification makes it. No function of the program.
-/
namespace Go.Proofs.YtiocneailhplkaaGreat
open Go.RowKit

/-- The stretch of d bytes from place k on, without its blanks. -/
def unb (s : ByteArray) (k : Nat) : Nat → ByteArray
  | 0 => ByteArray.empty
  | d + 1 => if byt s (k + d) = 32 then unb s k d else unb s k d ++ s.extract (k + d) (k + d + 1)
theorem unb_size (s : ByteArray) (k d : Nat) : (unb s k d).size ≤ d := by
  induction d with
  | zero => simp [unb]
  | succ d ih =>
    unfold unb
    split
    · omega
    · rw [ByteArray.size_append, ByteArray.size_extract]
      omega
/-- A number more at the list's end. -/
def snoc (T : Nat → Int) (n : Nat) (x : Int) : Nat → Int := fun i => if i = n then x else T i
/-- Three numbers more at the list's end. -/
def cat3 (M : Nat → Int) (n : Nat) (row : Nat → Int) : Nat → Int := fun i => if i < n then M i else row (i - n)
/-- What is told of a text from place i on, its stretch begun at k. -/
def readF (s : ByteArray) : Nat → Nat → Nat → Nat → (Nat → Int) → (Nat → Int) → Bool × Int × (Nat → Int) × (Nat → Int)
  | 0, _, _, _, M, T => (false, 0, M, T)
  | f + 1, i, k, c, M, T =>
    if s.size < i then (if c = 3 ∧ isOp 9 M 3 T then (true, -1, M, T) else (false, s.size, M, T))
    else if i < s.size ∧ byt s i ≠ 44 then readF s f (i + 1) k c M T
    else
      let u := unb s k (i - k)
      let r := termF u (u.size + 2) 0 (fun _ => 0) 0 false
      if r.2.2 = true then readF s f (i + 1) (i + 1) (c + 1) (cat3 M (3 * c) r.1) (snoc T c r.2.1) else (false, k, M, T)
/-- Tried at a text: it is read. -/
def asText (l : List UInt8) : ByteArray := ⟨l.toArray⟩
example : (readF (asText [45, 120, 44, 45, 121, 44, 45, 122]) 20 0 0 0 (fun _ => 0) (fun _ => 0)).1 = true := by decide +kernel
end Go.Proofs.YtiocneailhplkaaGreat
/-
  Texts read by the specification, walked.
-/
namespace Go.Proofs.YtiocneailhplkaaGreat
open Go.RowKit

theorem iCells_cat3 (M row : Nat → Int) (n : Nat) : iCells (cat3 M n row) (n + 3) = iCells M n ++ [.int .i64 (row 0), .int .i64 (row 1), .int .i64 (row 2)] := by
  have h := iCells_cat n M row 3
  have e : cat n M row = cat3 M n row := rfl
  rw [e] at h
  rw [h]
  rfl
theorem iCells_snoc' (T : Nat → Int) (n : Nat) (x : Int) : iCells (snoc T n x) (n + 1) = iCells T n ++ [.int .i64 x] := (iCells_snoc T n x).symm
theorem own_src {w : World} {base n c : Nat} {a : Option Addr} {f : Nat → Int} (h : w.ownsRow base 2 1 (.slice a n c) n (iCells f n)) : Src w a n f := by
  obtain ⟨a', c', e, hs⟩ := (arr_of_owns h).src
  cases e
  exact hs
theorem own_told {w : World} {B lo q : Nat} {va ua : Option Addr} {vc uc : Nat} {M T : Nat → Int} (oM : w.ownsRow B 2 1 (.slice va 9 vc) 9 (iCells M 9)) (oT : w.ownsRow B 2 1 (.slice ua 3 uc) 3 (iCells T 3)) (hap : ∀ x, (Value.slice va 9 vc).ownBlock = some x → (Value.slice ua 3 uc).ownBlock ≠ some x) (hq : q < B) (hl : lo ≤ B) (v1 v2 : Value) :
    Told ((w.setCell ⟨q, 0, none⟩ v1).setCell ⟨q, 1, none⟩ v2) lo ((w.setCell ⟨q, 0, none⟩ v1).setCell ⟨q, 1, none⟩ v2).heap.size (.agg #[.slice va 9 vc, .slice ua 3 uc]) true M T := by
  have t0 : OpAt w B w.heap.size (.agg #[.slice va 9 vc, .slice ua 3 uc]) 9 M 3 T := ⟨_, _, rfl, arr_of_owns oM, arr_of_owns oT, hap⟩
  obtain ⟨u1, u2, e, h1, h2, h3⟩ := t0.store hq v1 v2
  have hs : w.heap.size ≤ ((w.setCell ⟨q, 0, none⟩ v1).setCell ⟨q, 1, none⟩ v2).heap.size := by simp [World.setCell]
  exact ⟨u1, u2, e, h1.wide hl hs, h2.wide hl hs, h3⟩
theorem own_far' {w w' : World} {B : Nat} {e : TypeId} {k : Nat} {v : Value} {n : Nat} {xs : List Value} {row : Option Nat} (h : w.ownsRow B e k v n xs) (hg : w.grownBy w' row) (hne : ∀ x, row = some x → v.ownBlock ≠ some x) : w'.ownsRow B e k v n xs := by
  refine ⟨h.1, h.2.imp id ?_⟩
  rintro ⟨g, cap, cur, rfl, h1, h2, h3⟩
  exact ⟨g, cap, cur, rfl, h1, (hg.block g (Array.getElem?_eq_some_iff.1 h2).1 (fun e => hne g e.symm rfl)).trans h2, h3⟩
theorem own_set {w : World} {B q i : Nat} {e : TypeId} {k : Nat} {v : Value} {n : Nat} {xs : List Value} (h : w.ownsRow B e k v n xs) (hq : q < B) (u : Value) : (w.setCell ⟨q, i, none⟩ u).ownsRow B e k v n xs := by
  refine ⟨h.1, h.2.imp id ?_⟩
  rintro ⟨g, cap, cur, rfl, h1, h2, h3⟩
  exact ⟨g, cap, cur, rfl, h1, (Below.heap_setCell _ _ _ _ (show g ≠ q by omega)).trans h2, h3⟩
theorem ownBlock_lt {w : World} {base : Nat} {e : TypeId} {size : Nat} {v : Value} {n : Nat} {xs : List Value} (h : w.ownsRow base e size v n xs) {j : Nat} (hj : v.ownBlock = some j) : j < w.heap.size := by
  rcases h.2 with ⟨rfl, _⟩ | ⟨g, cap, cur, rfl, hb, h2, _⟩
  · cases hj
  · cases hj; exact (Array.getElem?_eq_some_iff.1 h2).1
theorem at_set {t : TypeId} {w : World} {q p i : Nat} {vs : Array Value} (h : At t w q vs) (hp : q ≠ p) (u : Value) : At t (w.setCell ⟨p, i, none⟩ u) q vs := (Below.heap_setCell _ _ _ _ hp).trans h
theorem row_ints {w : World} {g : Nat} {row : Nat → Int} (h : At 2 w g (vA row)) : Ints w g 0 3 row := by
  obtain ⟨c0, c1, c2, -⟩ := h.open3
  intro i hi
  rcases (by omega : i = 0 ∨ i = 1 ∨ i = 2) with rfl | rfl | rfl <;> assumption
set_option maxRecDepth 100000 in
set_option maxHeartbeats 1600000 in
theorem opRead_any (s : ByteArray) (w : World) (hs : s.size ≤ 200) :
    Calls Tryz.prog 99 #[.string s] w fun e w' => ∃ o, e = .returned (.tuple #[o, .int .i64 (readF s (s.size + 2) 0 0 0 (fun _ => 0) (fun _ => 0)).2.1]) ∧ Told w' w.heap.size w'.heap.size o (readF s (s.size + 2) 0 0 0 (fun _ => 0) (fun _ => 0)).1 (readF s (s.size + 2) 0 0 0 (fun _ => 0) (fun _ => 0)).2.2.1 (readF s (s.size + 2) 0 0 0 (fun _ => 0) (fun _ => 0)).2.2.2 ∧ Below w.heap.size w w' := by
  have hs' : (s.size : Int) ≤ 200 := by omega
  obtain ⟨R, hR0⟩ : ∃ R, readF s (s.size + 2) 0 0 0 (fun _ => 0) (fun _ => 0) = R := ⟨_, rfl⟩
  rw [hR0]
  obtain ⟨i0, hi0, hz0, hz1, hz2⟩ := info_parts Tryz.info2
  obtain ⟨W1, hW1, a1, B, -⟩ := boxed w 57 #[.slice none 0 0, .slice none 0 0]
  obtain ⟨X2, hX2, W2, hW2, a2, B2, x0, x1, y0, y1⟩ := boxed2 W1 (.slice none 0 0) (.slice none 0 0)
  have s1 := a1.lt
  have s2 := a2.lt
  replace a1 := a1.below B2
  replace B := B.trans (B2.mono B.size)
  go_enter Tryz.func99, Tryz.ntmps99
  go_wp2
  clear hW1 hX2 hW2 x0 x1 y0 y1 B2
  have o1 : W2.ownsRow W2.heap.size 2 1 (.slice none 0 0) 0 (iCells (fun _ => 0) 0) := ⟨rfl, .inl ⟨rfl, rfl⟩⟩
  have hap0 : Hid (∀ x, (Value.slice none (3 * 0) 0).ownBlock = some x → (Value.slice none 0 0).ownBlock ≠ some x) := fun x hx => by cases hx
  go_loopw [5, 6, 7] (fun c k n wr => ∃ (i K C fuel : Nat) (M T : Nat → Int) (va ua : Option Addr) (vc uc : Nat), (i ≤ s.size + 1 ∧ s.size + 2 ≤ fuel + i ∧ K ≤ i ∧ C ≤ i ∧ W2.heap.size ≤ wr.heap.size) ∧ n = .int .i64 i ∧ k = .int .i64 K ∧ c = .int .i64 C ∧ Hid (readF s fuel i K C M T = R) ∧ At 57 wr w.heap.size #[.slice none 0 0, .slice none 0 0] ∧ At 57 wr W1.heap.size #[.slice va (3 * C) vc, .slice ua C uc] ∧ wr.ownsRow W2.heap.size 2 1 (.slice va (3 * C) vc) (3 * C) (iCells M (3 * C)) ∧ wr.ownsRow W2.heap.size 2 1 (.slice ua C uc) C (iCells T C) ∧ Hid (∀ x, (Value.slice va (3 * C) vc).ownBlock = some x → (Value.slice ua C uc).ownBlock ≠ some x) ∧ Below w.heap.size w wr) (fun _ _ n _ => s.size + 2 - (intOf n).toNat)
  case atStart => exact ⟨0, 0, 0, s.size + 2, _, _, none, none, 0, 0, by omega, rfl, rfl, rfl, hR0, a1, a2, o1, o1, hap0, B⟩
  case round =>
    clear hR0 a1 a2 o1 B hap0
    obtain ⟨i, K, C, fuel, M, T, va, ua, vc, uc, hb, rfl, rfl, rfl, hR, a1, a2, oM, oT, hap, B⟩ := hrel
    obtain ⟨fu, rfl⟩ : ∃ fu, fuel = fu + 1 := ⟨fuel - 1, by omega⟩
    have hst := hR.out
    rw [readF] at hst
    by_cases hend : s.size < i
    · rw [if_pos hend] at hst
      clear hR
      have h0 : ¬ (i : Int) ≤ (s.size : Int) := by omega
      obtain ⟨d0, d1, f0, f1⟩ := a2.open2
      by_cases hC : C = 3
      · subst hC
        go_wp2_with fail
        have zok := specOk_any vc uc (own_src oM) (own_src oT)
        refine zok.mono ?_
        rintro e w3 ⟨rfl, b3⟩
        replace a1 := a1.below b3
        replace a2 := a2.below b3
        replace oM := own_below oM b3
        replace oT := own_below oT b3
        replace B := B.trans (b3.mono B.size)
        clear b3 zok d0 d1 f0 f1
        by_cases hop : isOp 9 M 3 T
        · rw [if_pos ⟨by first | rfl | trivial, hop⟩] at hst
          subst hst
          obtain ⟨d0, d1, f0, f1⟩ := a2.open2
          obtain ⟨d2, d3, f2, f3⟩ := a1.open2
          simp only [decide_eq_true hop]
          go_wp2
          have a8 := nil2_at a1 (.slice va 9 vc) (.slice ua 3 uc)
          obtain ⟨p0, p1, -⟩ := a8.open2
          exact bodyPost_ret (v := .tuple #[.agg #[.slice va 9 vc, .slice ua 3 uc], .int .i64 (-1)]) (by simp [results, Tryz.results99, go_sem, p0, p1]) rfl ⟨_, rfl, own_told oM oT hap.out (by omega) (by omega) _ _, (B.setCell (Nat.le_refl w.heap.size) _).setCell (Nat.le_refl w.heap.size) _⟩
        · rw [if_neg (fun x => hop x.2)] at hst
          subst hst
          obtain ⟨d0, d1, f0, f1⟩ := a1.open2
          simp only [decide_eq_false hop]
          go_wp2
          have a8 := nil2_at a1 (.slice none 0 0) (.slice none 0 0)
          obtain ⟨p0, p1, -⟩ := a8.open2
          exact bodyPost_ret (v := .tuple #[.agg #[.slice none 0 0, .slice none 0 0], .int .i64 (s.size : Int)]) (by simp [results, Tryz.results99, go_sem, p0, p1]) rfl ⟨_, rfl, told_none _ _ _ _ _, (B.setCell (Nat.le_refl w.heap.size) _).setCell (Nat.le_refl w.heap.size) _⟩
      · have hC' : ((C : Int) != 3) = true := by simp; omega
        have hC2 : ((C : Int) == 3) = false := by simp; omega
        rw [if_neg (fun x => hC x.1)] at hst
        subst hst
        obtain ⟨d0, d1, f0, f1⟩ := a1.open2
        go_wp2
        have a8 := nil2_at a1 (.slice none 0 0) (.slice none 0 0)
        obtain ⟨p0, p1, -⟩ := a8.open2
        exact bodyPost_ret (v := .tuple #[.agg #[.slice none 0 0, .slice none 0 0], .int .i64 (s.size : Int)]) (by simp [results, Tryz.results99, go_sem, p0, p1]) rfl ⟨_, rfl, told_none _ _ _ _ _, (B.setCell (Nat.le_refl w.heap.size) _).setCell (Nat.le_refl w.heap.size) _⟩
    · rw [if_neg hend] at hst
      have h0 : (i : Int) ≤ (s.size : Int) := by omega
      by_cases hgo : i < s.size ∧ byt s i ≠ 44
      · rw [if_pos hgo] at hst
        obtain ⟨hgl, hne⟩ := hgo
        have h1 : (i : Int) < (s.size : Int) := by omega
        have hbt := byt_at s i hgl
        obtain ⟨d, hd⟩ : ∃ d, byt s i = d := ⟨_, rfl⟩
        rw [hd] at hbt hne
        have e1 : ((d : Int) == 44) = false := by simp; omega
        have e2 : ((d : Int) != 44) = true := by simp; omega
        have HN : Hid (readF s fu (i + 1) K C M T = R) := hst
        clear hst hR hd
        go_wp2
        exact ⟨⟨i + 1, K, C, fu, M, T, va, ua, vc, uc, by omega, by go_num, rfl, rfl, HN, a1, a2, oM, oT, hap, B⟩, by simp [intOf]; omega⟩
      · rw [if_neg hgo] at hst
        have hKi : (K : Int) ≤ (i : Int) := by omega
        have hil : (i : Int) ≤ 200 := by omega
        have hCl : (C : Int) ≤ 200 := by omega
        clear hR
        by_cases hsz : i < s.size
        · have h1 : (i : Int) < (s.size : Int) := by omega
          have hbt := byt_at s i hsz
          have h44 : byt s i = 44 := Classical.not_not.1 (fun x => hgo ⟨hsz, x⟩)
          rw [h44] at hbt
          clear hgo h44
          go_wp2
          clear hbt
          go_loopw [8, 9] (fun t j wx => ∃ d : Nat, d ≤ i - K ∧ t = .string (unb s K d) ∧ j = .int .i64 ((K + d : Nat) : Int) ∧ wr = wx) (fun _ j _ => i - (intOf j).toNat)
          case atStart => exact ⟨0, Nat.zero_le _, rfl, rfl, rfl⟩
          case round =>
            obtain ⟨d, hd, rfl, rfl, rfl⟩ := hrel
            have hus := unb_size s K d
            by_cases hdl : K + d < i
            · have q1 : ((K + d : Nat) : Int) < (i : Int) := by omega
              have hun : Hid ((if byt s (K + d) = 32 then unb s K d else unb s K d ++ s.extract (K + d) (K + d + 1)) = unb s K (d + 1)) := rfl
              obtain ⟨y, hy⟩ : ∃ y, K + d = y := ⟨_, rfl⟩
              rw [hy] at q1 hun ⊢
              have hyl : y + 1 ≤ s.size := by omega
              have hbt := byt_at s y (by omega)
              have hyl' : (y : Int) + 1 ≤ (s.size : Int) := by omega
              have hyl'' : (y : Int) < (s.size : Int) := by omega
              obtain ⟨b, hb2⟩ : ∃ b, byt s y = b := ⟨_, rfl⟩
              rw [hb2] at hbt hun
              clear hb2
              by_cases h32 : b = 32
              · subst h32
                have hun2 := hun.out
                rw [if_pos rfl] at hun2
                have HU : Hid (unb s K d = unb s K (d + 1)) := hun2
                clear hun2 hun
                go_wp2
                exact ⟨⟨d + 1, by omega, by rw [← HU.out], by rw [← hy]; go_num, by trivial⟩, by simp [intOf]; omega⟩
              · have e32 : ((b : Int) == 32) = false := by simp; omega
                have e32' : ((b : Int) != 32) = true := by simp; omega
                have hun2 := hun.out
                rw [if_neg h32] at hun2
                have HU : Hid (unb s K d ++ s.extract y (y + 1) = unb s K (d + 1)) := hun2
                clear hun2 hun
                have hy0 : (0 : Int) ≤ (y : Int) := by omega
                have hy1 : (y : Int) ≤ (y : Int) + 1 := by omega
                have hyn : ((y : Int) + 1).toNat = y + 1 := by omega
                have hsl : ∀ wx : World, (Instr.slice 9 (.string s) (some (.int .i64 (y : Int))) (some (.int .i64 ((y : Int) + 1))) none).run Tryz.prog wx = .ok (.string (s.extract y (y + 1))) wx := by
                  intro wx
                  have h := run_slice_string (P := Tryz.prog) (w := wx) 9 s .i64 .i64 (y : Int) ((y : Int) + 1) Tryz.underlying9 hy0 hy1 hyl'
                  rw [hyn] at h
                  simpa using h
                go_wp2
                exact ⟨⟨d + 1, by omega, by rw [← HU.out], by rw [← hy]; go_num, by trivial⟩, by simp [intOf]; omega⟩
            · have q1 : ¬ ((K + d : Nat) : Int) < (i : Int) := by omega
              obtain rfl : d = i - K := by omega
              have hte := term_any (unb s K (i - K)) wr (by omega)
              obtain ⟨r, hr⟩ : ∃ r, termF (unb s K (i - K)) ((unb s K (i - K)).size + 2) 0 (fun _ => 0) 0 false = r := ⟨_, rfl⟩
              rw [hr] at hte hst
              obtain ⟨u, hu⟩ : ∃ u, unb s K (i - K) = u := ⟨_, rfl⟩
              rw [hu] at hte ⊢
              clear hr hu hus
              go_wp2_with fail
              refine hte.mono ?_
              rintro e w3 ⟨g, rfl, hg, ag, b3⟩
              replace a1 := a1.below b3
              replace a2 := a2.below b3
              replace oM := own_below oM b3
              replace oT := own_below oT b3
              replace B := B.trans (b3.mono B.size)
              have s3 := b3.size
              clear b3 hte
              obtain ⟨row, t, ok⟩ := r
              dsimp only at hst ag ⊢
              by_cases hok : ok = true
              · subst hok
                rw [if_pos rfl] at hst
                have HN : Hid (readF s fu (i + 1) (i + 1) (C + 1) (cat3 M (3 * C) row) (snoc T C t) = R) := hst
                clear hst
                obtain ⟨d0, d1, f0, f1⟩ := a2.open2
                have hri := row_ints ag
                have hm1 : 3 * C + 3 ≤ maxLen := by unfold maxLen; omega
                have hm2 : (3 * C + 3) * 8 ≤ 140737488355328 := by omega
                have hm3 : W2.heap.size ≤ w3.heap.size := by omega
                go_wp2_with (at_builtin; refine wpList_append_own_at _ rfl _ _ _ rfl W2.heap.size 2 i0 _ 1 8 Tryz.underlying24 hi0 hz0 hz1 hz2 rfl (by omega) (.slice va (3 * C) vc) (3 * C) (iCells M (3 * C)) rfl oM ⟨g, 0, none⟩ 3 3 (iCells row 3) rfl (by simp [iCells_len]) (ints_news hri) (iCells_one row 3) hm1 hm2 hm3 ?_; intro v2 w2 hown2 hgrow2 hne2 hblk2; refine Hid.out (?_ : Hid _))
                refine (?_ : wpList _ _ _ _ _ _)
                clear d0 d1 f0 f1 hri ag hm1 hm2 hne2
                have ho2 : w2.ownsRow W2.heap.size 2 1 v2 (3 * C + 3) (iCells (cat3 M (3 * C) row) (3 * C + 3)) := by rw [iCells_cat3]; exact hown2
                obtain ⟨va2, vc2, rfl⟩ := own_form ho2
                have bM := fun x (hx : (Value.slice va (3 * C) vc).ownBlock = some x) => ownBlock_ge oM hx
                have oT2 := own_far' oT hgrow2 hap.out
                have hap1 : Hid (∀ x, (Value.slice va2 (3 * C + 3) vc2).ownBlock = some x → (Value.slice ua C uc).ownBlock ≠ some x) := by
                  intro x hx e
                  rcases hblk2 with q | q
                  · exact hap.out x (q.symm.trans hx) e
                  · have h1 := ownBlock_lt oT e
                    have h2 : x = w3.heap.size := Option.some.inj (hx.symm.trans q)
                    omega
                have z2 : w3.heap.size ≤ w2.heap.size := hgrow2.size
                replace a1 : At 57 w2 w.heap.size #[.slice none 0 0, .slice none 0 0] := (hgrow2.block _ a1.lt (fun e => by have := bM _ e.symm; omega)).trans a1
                replace a2 : At 57 w2 W1.heap.size #[.slice va (3 * C) vc, .slice ua C uc] := (hgrow2.block _ a2.lt (fun e => by have := bM _ e.symm; omega)).trans a2
                replace B := B.grown hgrow2 (by omega) (fun x hx => by have := bM _ hx; omega)
                clear hown2 hgrow2 hblk2 oM oT hap bM
                obtain ⟨d0, d1, f0, f1⟩ := a2.open2
                obtain ⟨w4, hw4⟩ : ∃ w4, w2.setCell ⟨W1.heap.size, 0, none⟩ (.slice va2 (3 * C + 3) vc2) = w4 := ⟨_, rfl⟩
                have z4 : w4.heap.size = w2.heap.size := by rw [← hw4]; simp [World.setCell]
                have e1 : At 57 w4 w.heap.size #[.slice none 0 0, .slice none 0 0] := by rw [← hw4]; exact at_set a1 (by omega) _
                have e2 : At 57 w4 W1.heap.size #[.slice va2 (3 * C + 3) vc2, .slice ua C uc] := by rw [← hw4]; simpa using a2.set 0 (.slice va2 (3 * C + 3) vc2)
                have oM4 : w4.ownsRow W2.heap.size 2 1 (.slice va2 (3 * C + 3) vc2) (3 * C + 3) (iCells (cat3 M (3 * C) row) (3 * C + 3)) := by rw [← hw4]; exact own_set ho2 s2 _
                have oT4 : w4.ownsRow W2.heap.size 2 1 (.slice ua C uc) C (iCells T C) := by rw [← hw4]; exact own_set oT2 s2 _
                replace B : Below w.heap.size w w4 := by rw [← hw4]; exact B.setCell (Nat.le_of_lt s1) _
                obtain ⟨w5, hw5, a5, b5, -⟩ := boxed w4 2 #[.int .i64 t]
                obtain ⟨r0, r1, r2, r3⟩ := e2.open2
                have oM5 := own_below oM4 b5
                have oT5 := own_below oT4 b5
                have z5 := b5.size
                have hm4 : C + 1 ≤ maxLen := by unfold maxLen; omega
                have hm5 : (C + 1) * 8 ≤ 140737488355328 := by omega
                have hm6 : W2.heap.size ≤ w5.heap.size := by omega
                have hnw : ∀ j u, [Value.int .i64 t][j]? = some u → w5.cell? ((⟨w2.heap.size, 0, none⟩ : Addr).add j) = some u := by
                  intro j u hu
                  cases j with
                  | zero => cases hu; rw [← z4]; exact a5.cell 0 rfl
                  | succ j => cases hu
                have h1c : ∀ u ∈ [Value.int .i64 t], u.oneCell' = true := by
                  intro u hu
                  rw [List.mem_singleton] at hu
                  rw [hu]
                  rfl
                go_wp2_with (at_builtin; refine Hid.out (?_ : Hid _))
                refine (?_ : wpList _ _ _ _ _ _)
                refine wpList_append_own_at _ rfl _ _ _ rfl W2.heap.size 2 i0 _ 1 8 Tryz.underlying24 hi0 hz0 hz1 hz2 rfl (by omega) (.slice ua C uc) C (iCells T C) rfl oT5 ⟨w2.heap.size, 0, none⟩ 1 1 [.int .i64 t] rfl rfl hnw h1c hm4 hm5 hm6 ?_
                intro v3 w6 hown3 hgrow3 hne3 hblk3
                clear d0 d1 f0 f1 r0 r1 r2 r3 hw4 hw5 hnw hm4 hm5 hne3
                have ho3 : w6.ownsRow W2.heap.size 2 1 v3 (C + 1) (iCells (snoc T C t) (C + 1)) := by rw [iCells_snoc']; exact hown3
                obtain ⟨ua2, uc2, rfl⟩ := own_form ho3
                have bT := fun x (hx : (Value.slice ua C uc).ownBlock = some x) => ownBlock_ge oT5 hx
                have oM6 := own_far' oM5 hgrow3 (fun x hx e => hap1.out x e hx)
                have hap2 : Hid (∀ x, (Value.slice va2 (3 * C + 3) vc2).ownBlock = some x → (Value.slice ua2 (C + 1) uc2).ownBlock ≠ some x) := by
                  intro x hx e
                  rcases hblk3 with q | q
                  · exact hap1.out x hx (q.symm.trans e)
                  · have h1 := ownBlock_lt oM5 hx
                    have h2 : x = w5.heap.size := Option.some.inj (e.symm.trans q)
                    omega
                have z6 : w5.heap.size ≤ w6.heap.size := hgrow3.size
                replace e1 := e1.below b5
                replace e2 := e2.below b5
                replace e1 : At 57 w6 w.heap.size #[.slice none 0 0, .slice none 0 0] := (hgrow3.block _ e1.lt (fun e => by have := bT _ e.symm; omega)).trans e1
                replace e2 : At 57 w6 W1.heap.size #[.slice va2 (3 * C + 3) vc2, .slice ua C uc] := (hgrow3.block _ e2.lt (fun e => by have := bT _ e.symm; omega)).trans e2
                replace B := (B.trans (b5.mono B.size)).grown hgrow3 (by omega) (fun x hx => by have := bT _ hx; omega)
                clear hown3 hgrow3 hblk3 bT hap1 b5
                obtain ⟨d0, d1, f0, f1⟩ := e2.open2
                have n1 : (C : Int) + 1 ≤ 201 := by omega
                go_wp2
                refine ⟨⟨i + 1, i + 1, C + 1, fu, cat3 M (3 * C) row, snoc T C t, va2, ua2, vc2, uc2, ?_, by go_num, by go_num, by go_num, HN, at_set e1 (by omega) _, by simpa [Nat.mul_add] using e2.set 1 (.slice ua2 (C + 1) uc2), own_set oM6 s2 _, own_set ho3 s2 _, hap2, B.setCell (Nat.le_of_lt s1) _⟩, by simp [intOf]; omega⟩
                have zz : (w6.setCell ⟨W1.heap.size, 1, none⟩ (.slice ua2 (C + 1) uc2)).heap.size = w6.heap.size := by simp [World.setCell]
                omega
              · obtain rfl : ok = false := by simpa using hok
                rw [if_neg (by simp)] at hst
                subst hst
                obtain ⟨d0, d1, f0, f1⟩ := a1.open2
                go_wp2
                have a8 := nil2_at a1 (.slice none 0 0) (.slice none 0 0)
                obtain ⟨p0, p1, -⟩ := a8.open2
                exact bodyPost_ret (v := .tuple #[.agg #[.slice none 0 0, .slice none 0 0], .int .i64 (K : Int)]) (by simp [results, Tryz.results99, go_sem, p0, p1]) rfl ⟨_, rfl, told_none _ _ _ _ _, (B.setCell (Nat.le_refl w.heap.size) _).setCell (Nat.le_refl w.heap.size) _⟩
        · have h1 : ¬ (i : Int) < (s.size : Int) := by omega
          clear hgo
          go_wp2
          go_loopw [8, 9] (fun t j wx => ∃ d : Nat, d ≤ i - K ∧ t = .string (unb s K d) ∧ j = .int .i64 ((K + d : Nat) : Int) ∧ wr = wx) (fun _ j _ => i - (intOf j).toNat)
          case atStart => exact ⟨0, Nat.zero_le _, rfl, rfl, rfl⟩
          case round =>
            obtain ⟨d, hd, rfl, rfl, rfl⟩ := hrel
            have hus := unb_size s K d
            by_cases hdl : K + d < i
            · have q1 : ((K + d : Nat) : Int) < (i : Int) := by omega
              have hun : Hid ((if byt s (K + d) = 32 then unb s K d else unb s K d ++ s.extract (K + d) (K + d + 1)) = unb s K (d + 1)) := rfl
              obtain ⟨y, hy⟩ : ∃ y, K + d = y := ⟨_, rfl⟩
              rw [hy] at q1 hun ⊢
              have hyl : y + 1 ≤ s.size := by omega
              have hbt := byt_at s y (by omega)
              have hyl' : (y : Int) + 1 ≤ (s.size : Int) := by omega
              have hyl'' : (y : Int) < (s.size : Int) := by omega
              obtain ⟨b, hb2⟩ : ∃ b, byt s y = b := ⟨_, rfl⟩
              rw [hb2] at hbt hun
              clear hb2
              by_cases h32 : b = 32
              · subst h32
                have hun2 := hun.out
                rw [if_pos rfl] at hun2
                have HU : Hid (unb s K d = unb s K (d + 1)) := hun2
                clear hun2 hun
                go_wp2
                exact ⟨⟨d + 1, by omega, by rw [← HU.out], by rw [← hy]; go_num, by trivial⟩, by simp [intOf]; omega⟩
              · have e32 : ((b : Int) == 32) = false := by simp; omega
                have e32' : ((b : Int) != 32) = true := by simp; omega
                have hun2 := hun.out
                rw [if_neg h32] at hun2
                have HU : Hid (unb s K d ++ s.extract y (y + 1) = unb s K (d + 1)) := hun2
                clear hun2 hun
                have hy0 : (0 : Int) ≤ (y : Int) := by omega
                have hy1 : (y : Int) ≤ (y : Int) + 1 := by omega
                have hyn : ((y : Int) + 1).toNat = y + 1 := by omega
                have hsl : ∀ wx : World, (Instr.slice 9 (.string s) (some (.int .i64 (y : Int))) (some (.int .i64 ((y : Int) + 1))) none).run Tryz.prog wx = .ok (.string (s.extract y (y + 1))) wx := by
                  intro wx
                  have h := run_slice_string (P := Tryz.prog) (w := wx) 9 s .i64 .i64 (y : Int) ((y : Int) + 1) Tryz.underlying9 hy0 hy1 hyl'
                  rw [hyn] at h
                  simpa using h
                go_wp2
                exact ⟨⟨d + 1, by omega, by rw [← HU.out], by rw [← hy]; go_num, by trivial⟩, by simp [intOf]; omega⟩
            · have q1 : ¬ ((K + d : Nat) : Int) < (i : Int) := by omega
              obtain rfl : d = i - K := by omega
              have hte := term_any (unb s K (i - K)) wr (by omega)
              obtain ⟨r, hr⟩ : ∃ r, termF (unb s K (i - K)) ((unb s K (i - K)).size + 2) 0 (fun _ => 0) 0 false = r := ⟨_, rfl⟩
              rw [hr] at hte hst
              obtain ⟨u, hu⟩ : ∃ u, unb s K (i - K) = u := ⟨_, rfl⟩
              rw [hu] at hte ⊢
              clear hr hu hus
              go_wp2_with fail
              refine hte.mono ?_
              rintro e w3 ⟨g, rfl, hg, ag, b3⟩
              replace a1 := a1.below b3
              replace a2 := a2.below b3
              replace oM := own_below oM b3
              replace oT := own_below oT b3
              replace B := B.trans (b3.mono B.size)
              have s3 := b3.size
              clear b3 hte
              obtain ⟨row, t, ok⟩ := r
              dsimp only at hst ag ⊢
              by_cases hok : ok = true
              · subst hok
                rw [if_pos rfl] at hst
                have HN : Hid (readF s fu (i + 1) (i + 1) (C + 1) (cat3 M (3 * C) row) (snoc T C t) = R) := hst
                clear hst
                obtain ⟨d0, d1, f0, f1⟩ := a2.open2
                have hri := row_ints ag
                have hm1 : 3 * C + 3 ≤ maxLen := by unfold maxLen; omega
                have hm2 : (3 * C + 3) * 8 ≤ 140737488355328 := by omega
                have hm3 : W2.heap.size ≤ w3.heap.size := by omega
                go_wp2_with (at_builtin; refine wpList_append_own_at _ rfl _ _ _ rfl W2.heap.size 2 i0 _ 1 8 Tryz.underlying24 hi0 hz0 hz1 hz2 rfl (by omega) (.slice va (3 * C) vc) (3 * C) (iCells M (3 * C)) rfl oM ⟨g, 0, none⟩ 3 3 (iCells row 3) rfl (by simp [iCells_len]) (ints_news hri) (iCells_one row 3) hm1 hm2 hm3 ?_; intro v2 w2 hown2 hgrow2 hne2 hblk2; refine Hid.out (?_ : Hid _))
                refine (?_ : wpList _ _ _ _ _ _)
                clear d0 d1 f0 f1 hri ag hm1 hm2 hne2
                have ho2 : w2.ownsRow W2.heap.size 2 1 v2 (3 * C + 3) (iCells (cat3 M (3 * C) row) (3 * C + 3)) := by rw [iCells_cat3]; exact hown2
                obtain ⟨va2, vc2, rfl⟩ := own_form ho2
                have bM := fun x (hx : (Value.slice va (3 * C) vc).ownBlock = some x) => ownBlock_ge oM hx
                have oT2 := own_far' oT hgrow2 hap.out
                have hap1 : Hid (∀ x, (Value.slice va2 (3 * C + 3) vc2).ownBlock = some x → (Value.slice ua C uc).ownBlock ≠ some x) := by
                  intro x hx e
                  rcases hblk2 with q | q
                  · exact hap.out x (q.symm.trans hx) e
                  · have h1 := ownBlock_lt oT e
                    have h2 : x = w3.heap.size := Option.some.inj (hx.symm.trans q)
                    omega
                have z2 : w3.heap.size ≤ w2.heap.size := hgrow2.size
                replace a1 : At 57 w2 w.heap.size #[.slice none 0 0, .slice none 0 0] := (hgrow2.block _ a1.lt (fun e => by have := bM _ e.symm; omega)).trans a1
                replace a2 : At 57 w2 W1.heap.size #[.slice va (3 * C) vc, .slice ua C uc] := (hgrow2.block _ a2.lt (fun e => by have := bM _ e.symm; omega)).trans a2
                replace B := B.grown hgrow2 (by omega) (fun x hx => by have := bM _ hx; omega)
                clear hown2 hgrow2 hblk2 oM oT hap bM
                obtain ⟨d0, d1, f0, f1⟩ := a2.open2
                obtain ⟨w4, hw4⟩ : ∃ w4, w2.setCell ⟨W1.heap.size, 0, none⟩ (.slice va2 (3 * C + 3) vc2) = w4 := ⟨_, rfl⟩
                have z4 : w4.heap.size = w2.heap.size := by rw [← hw4]; simp [World.setCell]
                have e1 : At 57 w4 w.heap.size #[.slice none 0 0, .slice none 0 0] := by rw [← hw4]; exact at_set a1 (by omega) _
                have e2 : At 57 w4 W1.heap.size #[.slice va2 (3 * C + 3) vc2, .slice ua C uc] := by rw [← hw4]; simpa using a2.set 0 (.slice va2 (3 * C + 3) vc2)
                have oM4 : w4.ownsRow W2.heap.size 2 1 (.slice va2 (3 * C + 3) vc2) (3 * C + 3) (iCells (cat3 M (3 * C) row) (3 * C + 3)) := by rw [← hw4]; exact own_set ho2 s2 _
                have oT4 : w4.ownsRow W2.heap.size 2 1 (.slice ua C uc) C (iCells T C) := by rw [← hw4]; exact own_set oT2 s2 _
                replace B : Below w.heap.size w w4 := by rw [← hw4]; exact B.setCell (Nat.le_of_lt s1) _
                obtain ⟨w5, hw5, a5, b5, -⟩ := boxed w4 2 #[.int .i64 t]
                obtain ⟨r0, r1, r2, r3⟩ := e2.open2
                have oM5 := own_below oM4 b5
                have oT5 := own_below oT4 b5
                have z5 := b5.size
                have hm4 : C + 1 ≤ maxLen := by unfold maxLen; omega
                have hm5 : (C + 1) * 8 ≤ 140737488355328 := by omega
                have hm6 : W2.heap.size ≤ w5.heap.size := by omega
                have hnw : ∀ j u, [Value.int .i64 t][j]? = some u → w5.cell? ((⟨w2.heap.size, 0, none⟩ : Addr).add j) = some u := by
                  intro j u hu
                  cases j with
                  | zero => cases hu; rw [← z4]; exact a5.cell 0 rfl
                  | succ j => cases hu
                have h1c : ∀ u ∈ [Value.int .i64 t], u.oneCell' = true := by
                  intro u hu
                  rw [List.mem_singleton] at hu
                  rw [hu]
                  rfl
                go_wp2_with (at_builtin; refine Hid.out (?_ : Hid _))
                refine (?_ : wpList _ _ _ _ _ _)
                refine wpList_append_own_at _ rfl _ _ _ rfl W2.heap.size 2 i0 _ 1 8 Tryz.underlying24 hi0 hz0 hz1 hz2 rfl (by omega) (.slice ua C uc) C (iCells T C) rfl oT5 ⟨w2.heap.size, 0, none⟩ 1 1 [.int .i64 t] rfl rfl hnw h1c hm4 hm5 hm6 ?_
                intro v3 w6 hown3 hgrow3 hne3 hblk3
                clear d0 d1 f0 f1 r0 r1 r2 r3 hw4 hw5 hnw hm4 hm5 hne3
                have ho3 : w6.ownsRow W2.heap.size 2 1 v3 (C + 1) (iCells (snoc T C t) (C + 1)) := by rw [iCells_snoc']; exact hown3
                obtain ⟨ua2, uc2, rfl⟩ := own_form ho3
                have bT := fun x (hx : (Value.slice ua C uc).ownBlock = some x) => ownBlock_ge oT5 hx
                have oM6 := own_far' oM5 hgrow3 (fun x hx e => hap1.out x e hx)
                have hap2 : Hid (∀ x, (Value.slice va2 (3 * C + 3) vc2).ownBlock = some x → (Value.slice ua2 (C + 1) uc2).ownBlock ≠ some x) := by
                  intro x hx e
                  rcases hblk3 with q | q
                  · exact hap1.out x hx (q.symm.trans e)
                  · have h1 := ownBlock_lt oM5 hx
                    have h2 : x = w5.heap.size := Option.some.inj (e.symm.trans q)
                    omega
                have z6 : w5.heap.size ≤ w6.heap.size := hgrow3.size
                replace e1 := e1.below b5
                replace e2 := e2.below b5
                replace e1 : At 57 w6 w.heap.size #[.slice none 0 0, .slice none 0 0] := (hgrow3.block _ e1.lt (fun e => by have := bT _ e.symm; omega)).trans e1
                replace e2 : At 57 w6 W1.heap.size #[.slice va2 (3 * C + 3) vc2, .slice ua C uc] := (hgrow3.block _ e2.lt (fun e => by have := bT _ e.symm; omega)).trans e2
                replace B := (B.trans (b5.mono B.size)).grown hgrow3 (by omega) (fun x hx => by have := bT _ hx; omega)
                clear hown3 hgrow3 hblk3 bT hap1 b5
                obtain ⟨d0, d1, f0, f1⟩ := e2.open2
                have n1 : (C : Int) + 1 ≤ 201 := by omega
                go_wp2
                refine ⟨⟨i + 1, i + 1, C + 1, fu, cat3 M (3 * C) row, snoc T C t, va2, ua2, vc2, uc2, ?_, by go_num, by go_num, by go_num, HN, at_set e1 (by omega) _, by simpa [Nat.mul_add] using e2.set 1 (.slice ua2 (C + 1) uc2), own_set oM6 s2 _, own_set ho3 s2 _, hap2, B.setCell (Nat.le_of_lt s1) _⟩, by simp [intOf]; omega⟩
                have zz : (w6.setCell ⟨W1.heap.size, 1, none⟩ (.slice ua2 (C + 1) uc2)).heap.size = w6.heap.size := by simp [World.setCell]
                omega
              · obtain rfl : ok = false := by simpa using hok
                rw [if_neg (by simp)] at hst
                subst hst
                obtain ⟨d0, d1, f0, f1⟩ := a1.open2
                go_wp2
                have a8 := nil2_at a1 (.slice none 0 0) (.slice none 0 0)
                obtain ⟨p0, p1, -⟩ := a8.open2
                exact bodyPost_ret (v := .tuple #[.agg #[.slice none 0 0, .slice none 0 0], .int .i64 (K : Int)]) (by simp [results, Tryz.results99, go_sem, p0, p1]) rfl ⟨_, rfl, told_none _ _ _ _ _, (B.setCell (Nat.le_refl w.heap.size) _).setCell (Nat.le_refl w.heap.size) _⟩
end Go.Proofs.YtiocneailhplkaaGreat
