/-
  Where a sample is, by halving; which job is of a sample and an order; the jobs of a right lab; the program's LabOk. Walked.
-/
import Derived.Test.YtnjnffemidaopaaL17a
namespace Go.Proofs.Ytnjnffemidaopaa
open Go.RowKit

def cmp3 (x y : Int) : Int := if x < y then -1 else if y < x then 1 else 0
theorem isNaN_any (x : Int) (w : World) : Calls Try.prog 100 #[.int .i64 x] w fun e w' => e = .returned (.bool false) ∧ w = w' := by
  have h : (x != x) = false := by simp
  go_enter Try.func100, Try.ntmps100
  go_wp2
  go_ret
  exact ⟨rfl, rfl⟩
theorem cmp_any (x y : Int) (w : World) : Calls Try.prog 94 #[.int .i64 x, .int .i64 y] w fun e w' => e = .returned (.int .i64 (cmp3 x y)) ∧ w = w' := by
  unfold cmp3
  rcases (by omega : x < y ∨ (¬ x < y ∧ y < x) ∨ (¬ x < y ∧ ¬ y < x)) with h | ⟨h, h'⟩ | ⟨h, h'⟩
  · rw [if_pos h]
    go_enter Try.func94, Try.ntmps94
    go_wp2_with (go_at_call 100; refine (isNaN_any _ _).mono ?_; rintro e w2 ⟨rfl, rfl⟩)
    go_ret
    exact ⟨rfl, rfl⟩
  · rw [if_neg h, if_pos h']
    go_enter Try.func94, Try.ntmps94
    go_wp2_with (go_at_call 100; refine (isNaN_any _ _).mono ?_; rintro e w2 ⟨rfl, rfl⟩)
    go_ret
    exact ⟨rfl, rfl⟩
  · rw [if_neg h, if_neg h']
    go_enter Try.func94, Try.ntmps94
    go_wp2_with (go_at_call 100; refine (isNaN_any _ _).mono ?_; rintro e w2 ⟨rfl, rfl⟩)
    go_ret
    exact ⟨rfl, rfl⟩
theorem by_any (x p l id : Int) (w : World) : Calls Try.prog 93 #[sampleV x p l, .int .i64 id] w fun e w' => e = .returned (.int .i64 (cmp3 x id)) ∧ Below w.heap.size w w' := by
  obtain ⟨V1, hV1, m1, bb1, -⟩ := boxed w 37 #[.int .i64 x, .int .i64 p, .int .i64 l]
  obtain ⟨c0, c1, c2, -⟩ := m1.open3
  go_enter Try.func93, Try.ntmps93
  go_wp2_with (go_at_call 94; refine (cmp_any _ _ _).mono ?_; rintro e w2 ⟨rfl, rfl⟩)
  go_ret
  exact ⟨rfl, bb1⟩
/-- Where the sample with an Id is or should be. -/
def Plc (n : Nat) (f : Nat → Int) (id : Int) (p : Nat) : Prop := p ≤ n ∧ (∀ i, i < p → f (i * 3) < id) ∧ ∀ i, p ≤ i → i < n → id ≤ f (i * 3)
theorem plc_is {f : Nat → Int} (id : Int) : ∀ n, (∀ j i, i < j → j < n → f (i * 3) < f (j * 3)) → ∃ p, Plc n f id p
  | 0, _ => ⟨0, Nat.le_refl _, fun i hi => by omega, fun i _ hi => by omega⟩
  | n + 1, h => by
    obtain ⟨p, h1, h2, h3⟩ := plc_is id n (fun j i a b => h j i a (by omega))
    by_cases e : p = n ∧ f (n * 3) < id
    · refine ⟨n + 1, Nat.le_refl _, fun i hi => ?_, fun i a b => by omega⟩
      by_cases e2 : i = n
      · rw [e2]; exact e.2
      · exact h2 i (by omega)
    · refine ⟨p, by omega, h2, fun i a b => ?_⟩
      by_cases e2 : i = n
      · subst e2
        by_cases e3 : p = i
        · subst e3; omega
        · have := h3 p (Nat.le_refl _) (by omega)
          have := h i p (by omega) (by omega)
          omega
      · exact h3 i a (by omega)
theorem Plc.find {n : Nat} {f : Nat → Int} {id : Int} {p : Nat} (h : Plc n f id p) (hr : ∀ j i, i < j → j < n → f (i * 3) < f (j * 3)) : (p < n ∧ f (p * 3) = id) ↔ ∃ i, i < n ∧ f (i * 3) = id := by
  constructor
  · rintro ⟨h1, h2⟩; exact ⟨p, h1, h2⟩
  · rintro ⟨i, h1, h2⟩
    obtain ⟨a1, a2, a3⟩ := h
    have hpi : p ≤ i := by
      refine Nat.le_of_not_lt fun hlt => ?_
      have := a2 i hlt
      omega
    by_cases e : p = i
    · subst e; exact ⟨h1, h2⟩
    · have k1 := a3 p (Nat.le_refl _) (by omega)
      have k2 := hr i p (by omega) h1
      omega
set_option maxRecDepth 100000 in
set_option maxHeartbeats 1600000 in
theorem search_any {w : World} {a : Option Addr} {n c p : Nat} {f : Nat → Int} {id : Int} (h : Ls 3 w a n f) (hn : n ≤ 100) (HP : Hid (Plc n f id p)) (b : Bool) (hb : Hid (b = true ↔ p < n ∧ f (p * 3) = id)) :
    Calls Try.prog 92 #[.slice a n c, .int .i64 id, .func (.func 93) #[] #[]] w fun e w' => e = .returned (.tuple #[.int .i64 (p : Int), .bool b]) ∧ Below w.heap.size w w' := by
  have hn' : (n : Int) ≤ 100 := by omega
  go_enter Try.func92, Try.ntmps92
  go_wp2
  go_loopw [9, 10] (fun s t wr => ∃ i j : Nat, s = .int .i64 (i : Int) ∧ t = .int .i64 (j : Int) ∧ i ≤ p ∧ p ≤ j ∧ j ≤ n ∧ Below w.heap.size w wr) (fun s t _ => (intOf t).toNat - (intOf s).toNat)
  case atStart => exact ⟨0, n, rfl, rfl, Nat.zero_le _, HP.out.1, Nat.le_refl _, Below.refl _ _⟩
  case round =>
    obtain ⟨i, j, rfl, rfl, hip, hpj, hjn, B1⟩ := hrel
    by_cases hlt : i < j
    · have hlt' : (i : Int) < (j : Int) := by omega
      obtain ⟨m, hm⟩ : ∃ m, (i + j) / 2 = m := ⟨_, rfl⟩
      have hm1 : i ≤ m ∧ m < j := by omega
      obtain ⟨g, rfl, R⟩ := h.some (k := m) (by omega)
      replace R := R.below B1
      obtain ⟨d0, d1, d2⟩ := Sample.open R m (by omega)
      obtain ⟨x, hx⟩ : ∃ x, f (m * 3) = x := ⟨_, rfl⟩
      rw [hx] at d0
      have HX : Hid (f (m * 3) = x) := hx
      clear hx
      have hm' : ((i : Int) + (j : Int)) / 2 = (m : Int) := by omega
      have C := fun w => by_any x (f (m * 3 + 1)) (f (m * 3 + 2)) id w
      by_cases hx : x < id
      · rw [cmp3, if_pos hx] at C
        have hmp : m < p := by
          refine Nat.lt_of_not_le fun hle => ?_
          have := HP.out.2.2 m hle (by omega)
          rw [HX.out] at this
          omega
        clear hx
        go_wp2_with (go_at_call 93; refine (C _).mono ?_; rintro e w2 ⟨rfl, bb⟩)
        exact ⟨⟨m + 1, j, by go_num, rfl, by omega, hpj, hjn, B1.trans (bb.mono B1.size)⟩, by simp [intOf]; omega⟩
      · obtain ⟨r, hr⟩ : ∃ r, cmp3 x id = r := ⟨_, rfl⟩
        have hr0 : ¬ r < 0 := by
          rw [← hr, cmp3, if_neg hx]
          split <;> omega
        have hmp : p ≤ m := by
          refine Nat.le_of_not_lt fun hle => ?_
          have := HP.out.2.1 m hle
          rw [HX.out] at this
          omega
        rw [hr] at C
        clear hx hr
        go_wp2_with (go_at_call 93; refine (C _).mono ?_; rintro e w2 ⟨rfl, bb⟩)
        exact ⟨⟨i, m, rfl, rfl, by omega, hmp, by omega, B1.trans (bb.mono B1.size)⟩, by simp [intOf]; omega⟩
    · have hlt' : ¬ (i : Int) < (j : Int) := by omega
      obtain rfl : p = i := by omega
      by_cases hpn : p < n
      · have hpn' : (p : Int) < (n : Int) := by omega
        obtain ⟨g, rfl, R⟩ := h.some (k := p) (by omega)
        replace R := R.below B1
        obtain ⟨d0, d1, d2⟩ := Sample.open R p (by omega)
        obtain ⟨x, hx⟩ : ∃ x, f (p * 3) = x := ⟨_, rfl⟩
        rw [hx] at d0
        have HX : Hid (f (p * 3) = x) := hx
        clear hx
        have C := fun w => by_any x (f (p * 3 + 1)) (f (p * 3 + 2)) id w
        have hle : id ≤ x := by
          have := HP.out.2.2 p (Nat.le_refl _) hpn
          rw [HX.out] at this
          exact this
        obtain ⟨r, hr⟩ : ∃ r, cmp3 x id = r := ⟨_, rfl⟩
        have E : b = (r == 0) := by
          rw [Bool.eq_iff_iff, hb.out, HX.out, ← hr, cmp3]
          rw [if_neg (by omega)]
          split
          · exact ⟨fun k => by omega, fun k => by simp at k⟩
          · exact ⟨fun _ => rfl, fun _ => ⟨hpn, by omega⟩⟩
        rw [hr] at C
        subst E
        clear hle hr hb
        go_wp2_with (go_at_call 93; refine (C _).mono ?_; rintro e w2 ⟨rfl, bb⟩)
        refine bodyPost_ret (v := .tuple #[.int .i64 (p : Int), .bool (r == 0)]) (by simp [results, Try.results92, go_sem]) rfl ?_
        exact ⟨rfl, B1.trans (bb.mono B1.size)⟩
      · have hpn' : ¬ (p : Int) < (n : Int) := by omega
        obtain rfl := no_of hb (fun k => hpn k.1)
        go_wp2
        refine bodyPost_ret (v := .tuple #[.int .i64 (p : Int), .bool false]) (by simp [results, Try.results92, go_sem]) rfl ?_
        exact ⟨rfl, B1⟩
theorem placeFor_any {w : World} {a : Option Addr} {n c p : Nat} {f : Nat → Int} {id : Int} (h : Ls 3 w a n f) (hn : n ≤ 100) (HP : Hid (Plc n f id p)) (b : Bool) (hb : Hid (b = true ↔ p < n ∧ f (p * 3) = id)) :
    Calls Try.prog 88 #[.slice a n c, .int .i64 id] w fun e w' => e = .returned (.tuple #[.int .i64 (p : Int), .bool b]) ∧ Below w.heap.size w w' := by
  have X := fun w' (h' : Ls 3 w' a n f) => search_any (c := c) h' hn HP b hb
  go_enter Try.func88, Try.ntmps88
  go_wp2_with fail
  refine (X _ h).mono ?_
  rintro e w2 ⟨rfl, bb⟩
  go_wp2
  refine bodyPost_ret (v := .tuple #[.int .i64 (p : Int), .bool b]) (by simp [results, Try.results88, go_sem]) rfl ?_
  exact ⟨rfl, bb⟩
theorem sampleIn_no {w : World} {a : Option Addr} {n c p : Nat} {f : Nat → Int} {id : Int} (h : Ls 3 w a n f) (hn : n ≤ 100) (HP : Hid (Plc n f id p)) (hb : Hid (¬ (p < n ∧ f (p * 3) = id))) :
    Calls Try.prog 68 #[.slice a n c, .int .i64 id] w fun e w' => e = .returned (.pointer none) ∧ Below w.heap.size w w' := by
  have X := placeFor_any (c := c) h hn HP false (iff_not hb.out)
  go_enter Try.func68, Try.ntmps68
  go_wp2_with fail
  refine X.mono ?_
  rintro e w2 ⟨rfl, bb⟩
  go_wp2
  go_ret
  exact ⟨rfl, bb⟩
theorem sampleIn_yes {w : World} {g n c p : Nat} {f : Nat → Int} {id : Int} (h : Recs 3 w g n f) (hn : n ≤ 100) (HP : Hid (Plc n f id p)) (hp : p < n) (hb : Hid (f (p * 3) = id)) :
    Calls Try.prog 68 #[.slice (some ⟨g, 0, none⟩) n c, .int .i64 id] w fun e w' => e = .returned (.pointer (some ⟨g, p * 3, none⟩)) ∧ Below w.heap.size w w' := by
  have X := placeFor_any (c := c) (.inr ⟨g, rfl, h⟩) hn HP true (iff_yes ⟨hp, hb.out⟩)
  have hp' : (p : Int) < (n : Int) := by omega
  go_enter Try.func68, Try.ntmps68
  go_wp2_with fail
  refine X.mono ?_
  rintro e w2 ⟨rfl, bb⟩
  go_wp2
  go_ret
  exact ⟨rfl, bb⟩
/-- Is job i of this sample and this order? -/
def isJ (g : Nat → Int) (s o : Int) (i : Nat) : Prop := g (i * 4) = s ∧ g (i * 4 + 1) = o
set_option maxRecDepth 100000 in
set_option maxHeartbeats 1600000 in
theorem jobIn_no {w : World} {a : Option Addr} {m c : Nat} {g : Nat → Int} (s o : Int) (h : Ls 4 w a m g) (hm : m ≤ 300) (hno : Hid (∀ i, i < m → ¬ isJ g s o i)) :
    Calls Try.prog 69 #[.slice a m c, .int .i64 s, .int .i64 o] w fun e w' => e = .returned (.pointer none) ∧ w = w' := by
  have hm' : (m : Int) ≤ 300 := by omega
  go_enter Try.func69, Try.ntmps69
  go_wp2
  go_loopw [10] (fun u wr => ∃ k : Nat, k ≤ m ∧ u = .int .i64 (k : Int) ∧ w = wr) (fun u _ => m - (intOf u).toNat)
  case atStart => exact ⟨0, Nat.zero_le _, rfl, rfl⟩
  case round =>
    obtain ⟨k, hk, rfl, rfl⟩ := hrel
    by_cases hlt : k < m
    · have hlt' : (k : Int) < (m : Int) := by omega
      obtain ⟨b, rfl, R⟩ := h.some hlt
      obtain ⟨d0, d1, d2, d3⟩ := Job.open R k hlt
      obtain ⟨x, hx⟩ : ∃ x, g (k * 4) = x := ⟨_, rfl⟩
      obtain ⟨y, hy⟩ : ∃ x, g (k * 4 + 1) = x := ⟨_, rfl⟩
      have hn : ¬ (x = s ∧ y = o) := by rw [← hx, ← hy]; exact hno.out k hlt
      rw [hx] at d0
      rw [hy] at d1
      clear hx hy R
      by_cases h1 : x = s
      · have h1' : (x == s) = true := by simpa using h1
        have h2' : (y == o) = false := by simpa using fun e => hn ⟨h1, e⟩
        clear hn h1
        go_wp2
        exact ⟨⟨k + 1, by omega, by go_num, trivial⟩, by simp [intOf]; omega⟩
      · have h1' : (x == s) = false := by simpa using h1
        clear hn h1
        go_wp2
        exact ⟨⟨k + 1, by omega, by go_num, trivial⟩, by simp [intOf]; omega⟩
    · have hlt' : ¬ (k : Int) < (m : Int) := by omega
      go_wp2
      go_ret
      exact ⟨rfl, rfl⟩
set_option maxRecDepth 100000 in
set_option maxHeartbeats 1600000 in
theorem jobIn_yes {w : World} {b m c j : Nat} {g : Nat → Int} (s o : Int) (R : Recs 4 w b m g) (hm : m ≤ 300) (hj : j < m) (hno : Hid (∀ i, i < j → ¬ isJ g s o i)) (hys : Hid (isJ g s o j)) :
    Calls Try.prog 69 #[.slice (some ⟨b, 0, none⟩) m c, .int .i64 s, .int .i64 o] w fun e w' => e = .returned (.pointer (some ⟨b, j * 4, none⟩)) ∧ w = w' := by
  have hm' : (m : Int) ≤ 300 := by omega
  go_enter Try.func69, Try.ntmps69
  go_wp2
  go_loopw [10] (fun u wr => ∃ k : Nat, k ≤ j ∧ u = .int .i64 (k : Int) ∧ w = wr) (fun u _ => m - (intOf u).toNat)
  case atStart => exact ⟨0, Nat.zero_le _, rfl, rfl⟩
  case round =>
    obtain ⟨k, hk, rfl, rfl⟩ := hrel
    have hlt : k < m := by omega
    have hlt' : (k : Int) < (m : Int) := by omega
    obtain ⟨d0, d1, d2, d3⟩ := Job.open R k hlt
    obtain ⟨x, hx⟩ : ∃ x, g (k * 4) = x := ⟨_, rfl⟩
    obtain ⟨y, hy⟩ : ∃ x, g (k * 4 + 1) = x := ⟨_, rfl⟩
    by_cases e : k = j
    · subst e
      have hn : x = s ∧ y = o := by rw [← hx, ← hy]; exact hys.out
      rw [hx] at d0
      rw [hy] at d1
      have h1' : (x == s) = true := by simpa using hn.1
      have h2' : (y == o) = true := by simpa using hn.2
      clear hx hy R hn hys
      go_wp2
      go_ret
      exact ⟨rfl, rfl⟩
    have hn : ¬ (x = s ∧ y = o) := by rw [← hx, ← hy]; exact hno.out k (by omega)
    rw [hx] at d0
    rw [hy] at d1
    clear hx hy R hys
    by_cases h1 : x = s
    · have h1' : (x == s) = true := by simpa using h1
      have h2' : (y == o) = false := by simpa using fun e => hn ⟨h1, e⟩
      clear hn h1
      go_wp2
      exact ⟨⟨k + 1, by omega, by go_num, trivial⟩, by simp [intOf]; omega⟩
    · have h1' : (x == s) = false := by simpa using h1
      clear hn h1
      go_wp2
      exact ⟨⟨k + 1, by omega, by go_num, trivial⟩, by simp [intOf]; omega⟩
end Go.Proofs.Ytnjnffemidaopaa
