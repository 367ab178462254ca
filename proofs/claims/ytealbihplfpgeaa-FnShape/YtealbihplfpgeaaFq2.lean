/-
  Reason, by the program and by the specification: walked.
-/
import Derived.Test.YtealbihplfpgeaaFf
import Derived.Test.YtealbihplfpgeaaFj
import Derived.WalkMore
namespace Go.Proofs.Ytealbihplfpgeaa
open Go.RowKit

/-- No pair ahead of (j, k) keeps facet i. -/
def NoP (f : Nat → Int) (n : Nat) (i : Int) (j k : Nat) : Prop := ∀ x y : Nat, x < y → y < n → (x < j ∨ (x = j ∧ y < k)) → ¬ CovP f n i x y
theorem NoP.step {f : Nat → Int} {n j k : Nat} {i : Int} (h : NoP f n i j k) (hc : ¬ CovP f n i j k) : NoP f n i j (k + 1) := fun x y h1 h2 h3 hh => by
  rcases h3 with h3 | ⟨rfl, h3⟩
  · exact h x y h1 h2 (.inl h3) hh
  · by_cases e : y = k
    · subst e; exact hc hh
    · exact h x y h1 h2 (.inr ⟨rfl, by omega⟩) hh
theorem NoP.begin {f : Nat → Int} {n j : Nat} {i : Int} (h : NoP f n i j 0) : NoP f n i j (j + 1) := fun x y h1 h2 h3 => h x y h1 h2 (by omega)
theorem NoP.next {f : Nat → Int} {n j k : Nat} {i : Int} (h : NoP f n i j k) (hk : n ≤ k) : NoP f n i (j + 1) 0 := fun x y h1 h2 h3 => h x y h1 h2 (by omega)
theorem NoP.start {f : Nat → Int} {n : Nat} {i : Int} : NoP f n i 0 0 := fun x y h1 h2 h3 => by omega
/-- What Reason tells of a facet of a shape. -/
def RAns (f : Nat → Int) (n : Nat) (i a b : Int) : Prop :=
  (a = -1 ∧ b = -1 ∧ NoP f n i n 0) ∨ ∃ j k : Nat, a = j ∧ b = k ∧ j < k ∧ k < n ∧ CovP f n i j k ∧ NoP f n i j k
theorem RAns.one {f : Nat → Int} {n : Nat} {i a b a' b' : Int} (h : RAns f n i a b) (h' : RAns f n i a' b') : a = a' ∧ b = b' := by
  rcases h with ⟨rfl, rfl, h⟩ | ⟨j, k, rfl, rfl, h1, h2, h3, h4⟩ <;> rcases h' with ⟨rfl, rfl, h'⟩ | ⟨j', k', rfl, rfl, h1', h2', h3', h4'⟩
  · exact ⟨rfl, rfl⟩
  · exact absurd h3' (h j' k' h1' h2' (by omega))
  · exact absurd h3 (h' j k h1 h2 (by omega))
  · rcases (by omega : (j < j' ∨ (j = j' ∧ k < k')) ∨ (j' < j ∨ (j' = j ∧ k' < k)) ∨ (j = j' ∧ k = k')) with c | c | c
    · exact absurd h3 (h4' j k h1 h2 c)
    · exact absurd h3' (h4 j' k' h1' h2' c)
    · exact ⟨by omega, by omega⟩
/-- What Reason tells. -/
def RAll (f : Nat → Int) (n : Nat) (i a b : Int) : Prop := ((SOk n f ∧ 0 ≤ i ∧ i < (n : Int)) → RAns f n i a b) ∧ (¬ (SOk n f ∧ 0 ≤ i ∧ i < (n : Int)) → a = -1 ∧ b = -1)
theorem RAll.one {f : Nat → Int} {n : Nat} {i a b a' b' : Int} (h : RAll f n i a b) (h' : RAll f n i a' b') : a' = a ∧ b' = b := by
  by_cases c : SOk n f ∧ 0 ≤ i ∧ i < (n : Int)
  · exact (h'.1 c).one (h.1 c)
  · obtain ⟨rfl, rfl⟩ := h.2 c
    exact h'.2 c
theorem RAll.no {f : Nat → Int} {n : Nat} {i : Int} (h : ¬ (SOk n f ∧ 0 ≤ i ∧ i < (n : Int))) : RAll f n i (-1) (-1) := ⟨fun c => absurd c h, fun _ => ⟨rfl, rfl⟩⟩
theorem RAll.yes {f : Nat → Int} {n : Nat} {i a b : Int} (h : SOk n f ∧ 0 ≤ i ∧ i < (n : Int)) (r : RAns f n i a b) : RAll f n i a b := ⟨fun _ => r, fun c => absurd h c⟩
theorem SOk.has {n : Nat} {f : Nat → Int} (h : SOk n f) {i : Int} (h1 : 0 ≤ i) (h2 : i < (n : Int)) : Has f n i := ⟨h1, h2, h.right _ (by omega)⟩
set_option maxHeartbeats 1600000 in
theorem implReason_any {w : World} {g n c : Nat} {f : Nat → Int} (h : Trips w g n f) (hc : n ≤ c) (hn : n ≤ 1048576) (i : Int)  :
    Calls Try.prog 14 #[.slice (some ⟨g, 0, none⟩) n c, .int .i64 i] w fun e w' => (∃ a b : Int, e = .returned (.tuple #[.int .i64 a, .int .i64 b]) ∧ RAll f n i a b) ∧ Below w.heap.size w w' := by
  obtain ⟨b, hb⟩ := tells_of (SOk n f)
  go_enter Try.func14, Try.ntmps14
  go_wp2
  go_step3
  go_wp2_with fail
  refine (implShape_any h hc hn b hb).mono ?_
  rintro e w1 ⟨rfl, B⟩
  cases b
  · have HR : RAll f n i (-1) (-1) := .no (fun h => Bool.noConfusion (hb.2 h.1))
    clear hb
    go_wp2
    try rw [Exit.noGoto_ret]
    exact bodyPost_ret (v := .tuple #[.int .i64 (-1), .int .i64 (-1)]) (by simp [results, Try.results14, go_sem]) rfl ⟨⟨_, _, rfl, HR⟩, B⟩
  · have hS : SOk n f := hb.1 rfl
    clear hb
    obtain ⟨V, hV, av, bV, -⟩ := boxed w1 2 #[.int .i64 i]
    have BV := B.trans (bV.mono B.size)
    obtain ⟨b, hb⟩ := tells_of (HasTo f (fun _ => i) n 1)
    have IV : Ints V w1.heap.size 0 1 (fun _ => i) := fun x hx => by
      obtain rfl : x = 0 := by omega
      exact av.cell 0 rfl
    have lt := av.lt
    go_wp2_with fail
    refine (have_any (h.below BV) IV lt (by omega) b hb).mono ?_
    rintro e w2 ⟨rfl, b2⟩
    clear IV lt av hV B
    have B := BV.trans (b2.mono BV.size)
    clear BV b2 bV
    cases b
    · have HR : RAll f n i (-1) (-1) := .no (fun h => Bool.noConfusion (hb.2 (fun _ _ => hS.has h.2.1 h.2.2)))
      clear hb
      go_wp2
      try rw [Exit.noGoto_ret]
      exact bodyPost_ret (v := .tuple #[.int .i64 (-1), .int .i64 (-1)]) (by simp [results, Try.results14, go_sem]) rfl ⟨⟨_, _, rfl, HR⟩, B⟩
    · have hh := hb.1 rfl 0 (by omega)
      have HI : Hid (SOk n f ∧ 0 ≤ i ∧ i < (n : Int)) := ⟨hS, hh.1, hh.2.1⟩
      clear hb hh hS
      go_wp2
      go_step3
      go_wp2
      go_loopw [6, 7, 26] (fun p q s wr => p = .int .i64 (-1) ∧ q = .int .i64 (-1) ∧ ∃ j : Nat, j ≤ n ∧ s = .int .i64 j ∧ NoP f n i j 0 ∧ Below w.heap.size w wr) (fun _ _ s _ => n - (intOf s).toNat)
      case atStart => exact ⟨rfl, rfl, 0, Nat.zero_le _, rfl, NoP.start, B⟩
      case round =>
        clear B
        obtain ⟨rfl, rfl, j, hj, rfl, hno, B⟩ := hrel
        by_cases hlt : j < n
        · have hlt' : (j : Int) < (n : Int) := by omega
          go_wp2
          go_loopw [6, 7, 10] (fun p q s wr => p = .int .i64 (-1) ∧ q = .int .i64 (-1) ∧ ∃ k : Nat, j < k ∧ k ≤ n ∧ s = .int .i64 k ∧ NoP f n i j k ∧ Below w.heap.size w wr) (fun _ _ s _ => n - (intOf s).toNat)
          case atStart => exact ⟨rfl, rfl, j + 1, by omega, by omega, by go_num, hno.begin, B⟩
          case round =>
            clear B hno
            obtain ⟨rfl, rfl, k, hjk, hk, rfl, hno, B⟩ := hrel
            by_cases hkn : k < n
            · have hkn' : (k : Int) < (n : Int) := by omega
              obtain ⟨b, hb⟩ := tells_of (CovP f n i j k)
              have L := h.below B
              go_wp2_with fail
              refine (implCov_any L hn i j k b hb).mono ?_
              rintro e w3 ⟨rfl, b2⟩
              have B2 := B.trans (b2.mono B.size)
              cases b
              · have HN := hno.step (fun h => Bool.noConfusion (hb.2 h))
                clear hb
                go_wp2
                exact ⟨⟨rfl, rfl, k + 1, by omega, by omega, by go_num, HN, B2⟩, by simp [intOf]; omega⟩
              · have HR : RAll f n i j k := .yes HI.out (.inr ⟨j, k, rfl, rfl, hjk, hkn, hb.1 rfl, hno⟩)
                clear hb
                go_wp2
                try rw [Exit.noGoto_ret]
                exact bodyPost_ret (v := .tuple #[.int .i64 (j : Int), .int .i64 (k : Int)]) (by simp [results, Try.results14, go_sem]) rfl ⟨⟨_, _, rfl, HR⟩, B2⟩
            · have hkn' : ¬ (k : Int) < (n : Int) := by omega
              have HN := hno.next (by omega)
              go_wp2
              exact ⟨⟨rfl, rfl, j + 1, by omega, by go_num, HN, B⟩, by simp [intOf]; omega⟩
        · have hlt' : ¬ (j : Int) < (n : Int) := by omega
          obtain rfl : j = n := by omega
          have HR : RAll f j i (-1) (-1) := .yes HI.out (.inl ⟨rfl, rfl, hno⟩)
          go_wp2
          try rw [Exit.noGoto_ret]
          exact bodyPost_ret (v := .tuple #[.int .i64 (-1), .int .i64 (-1)]) (by simp [results, Try.results14, go_sem]) rfl ⟨⟨_, _, rfl, HR⟩, B⟩
end Go.Proofs.Ytealbihplfpgeaa
