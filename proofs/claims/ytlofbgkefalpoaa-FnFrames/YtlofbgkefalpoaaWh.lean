/-
  The law FnFrames: sums that are turned round, copies, totals; walked.
-/
import Derived.Test.YtlofbgkefalpoaaWg
import Derived.Test.YtlofbgkefalpoaaUe
import Derived.BigRegion
namespace Go.Proofs.Ytlofbgkefalpoaa
open Go.RowKit

/-- The sum of the first k numbers. -/
def tl (g : Nat → Int) : Nat → Int
  | 0 => 0
  | k + 1 => tl g k + g k
/-- The same, as int64 reckons it. -/
def tw (g : Nat → Int) : Nat → Int
  | 0 => 0
  | k + 1 => IntKind.i64.wrap (tw g k + g k)
theorem tl_le {g : Nat → Int} {M : Int} {n : Nat} (h : ∀ i, i < n → 0 ≤ g i ∧ g i ≤ M) : ∀ k, k ≤ n → 0 ≤ tl g k ∧ tl g k ≤ M * (k : Int)
  | 0, _ => by simp [tl]
  | k + 1, hk => by
    have h1 := tl_le h k (by omega)
    have h2 := h k (by omega)
    rw [tl, Int.natCast_succ, Int.mul_add, Int.mul_one]
    omega
theorem tw_tl {g : Nat → Int} {M : Int} {n : Nat} (h : ∀ i, i < n → 0 ≤ g i ∧ g i ≤ M) (hM : M * (n : Int) ≤ 1000000000000) (hM0 : 0 ≤ M) : ∀ k, k ≤ n → tw g k = tl g k
  | 0, _ => rfl
  | k + 1, hk => by
    have h1 := tl_le h (k + 1) hk
    have h2 : M * ((k + 1 : Nat) : Int) ≤ M * (n : Int) := Int.mul_le_mul_of_nonneg_left (by omega) hM0
    rw [tw, tw_tl h hM hM0 k (by omega)]
    rw [tl] at h1
    rw [tl, IntKind.wrap_i64]
    omega
theorem tl_congr {g h : Nat → Int} : ∀ n, (∀ i, i < n → g i = h i) → tl g n = tl h n
  | 0, _ => rfl
  | n + 1, e => by rw [tl, tl, tl_congr n (fun i hi => e i (by omega)), e n (by omega)]
theorem tw_congr {g h : Nat → Int} : ∀ n, (∀ i, i < n → g i = h i) → tw g n = tw h n
  | 0, _ => rfl
  | n + 1, e => by rw [tw, tw, tw_congr n (fun i hi => e i (by omega)), e n (by omega)]
theorem tl_add (g h : Nat → Int) : ∀ n, tl (fun i => g i + h i) n = tl g n + tl h n
  | 0 => rfl
  | n + 1 => by rw [tl, tl, tl, tl_add g h n]; omega
theorem tl_zero : ∀ n, tl (fun _ => 0) n = 0
  | 0 => rfl
  | n + 1 => by rw [tl, tl_zero n]; rfl
/-- The sum, lost and kept, is the sum. -/
theorem mn_ls (g : Nat → Int) : ∀ n, tl (fun i => mn (g i)) n + ls g n = tl g n
  | 0 => rfl
  | n + 1 => by
    have := mn_ls g n
    rw [tl, ls, tl]
    omega
/-- Rows and columns. -/
theorem sm_tl (f : Nat → Nat → Int) (m : Nat) : ∀ k, tl (fun i => sm f k i) m = tl (fun j => tl (f j) m) k
  | 0 => by
    show tl (fun i => (0 : Int)) m = 0
    exact tl_zero m
  | k + 1 => by
    rw [tl, ← sm_tl f m k, ← tl_add]
    rfl
theorem tl_rev {G H : Nat → Int} {N : Nat} (e : ∀ j, j < N → H j = G (N - 1 - j)) : ∀ k, k ≤ N → tl H k = tl G N - tl G (N - k)
  | 0, _ => by simp [tl]
  | k + 1, hk => by
    rw [tl, tl_rev e k (by omega), e k (by omega)]
    have : tl G (N - k) = tl G (N - (k + 1)) + G (N - 1 - k) := by
      rw [show N - k = (N - (k + 1)) + 1 by omega, tl, show N - (k + 1) = N - 1 - k by omega]
    omega
theorem sm_rev {f f' : Nat → Nat → Int} {N i : Nat} (e : ∀ j, j < N → f' j i = f (N - 1 - j) i) : ∀ k, k ≤ N → sm f' k i = sm f N i - sm f (N - k) i
  | 0, _ => by simp [sm]
  | k + 1, hk => by
    rw [sm, sm_rev e k (by omega), e k (by omega)]
    have : sm f (N - k) i = sm f (N - (k + 1)) i + f (N - 1 - k) i := by
      rw [show N - k = (N - (k + 1)) + 1 by omega, sm, show N - (k + 1) = N - 1 - k by omega]
    omega
/-- The first k frames of L' are the last ones of L, turned round. -/
def Rv (L L' : List FrD) (k : Nat) : Prop := ∀ j, j < k → fW L' j = fW L (L.length - 1 - j) ∧ fH L' j = fH L (L.length - 1 - j) ∧ fN L' j = fN L (L.length - 1 - j) ∧ ∀ i, i < fN L' j → fP L' j i = fP L (L.length - 1 - j) i
theorem rv_add {L L' : List FrD} {x : FrD} {k : Nat} (h : Rv L L' k) (hl : L'.length = k) (e : x.1 = fW L (L.length - 1 - k) ∧ x.2.1 = fH L (L.length - 1 - k) ∧ x.2.2.2.length = fN L (L.length - 1 - k) ∧ ∀ i, i < x.2.2.2.length → x.2.2.2.getD i 0 = fP L (L.length - 1 - k) i) : Rv L (L' ++ [x]) (k + 1) := by
  intro j hj
  by_cases c : j < k
  · have a : (L' ++ [x]).getD j dF = L'.getD j dF := by
      simp only [List.getD_eq_getElem?_getD]
      rw [List.getElem?_append_left (by omega)]
    have := h j c
    unfold fW fH fN fP at this ⊢
    rw [a]
    exact this
  · have a : (L' ++ [x]).getD j dF = x := by
      simp only [List.getD_eq_getElem?_getD]
      rw [List.getElem?_append_right (by omega), show j - L'.length = 0 by omega]
      rfl
    obtain rfl : j = k := by omega
    unfold fW fH fN fP at e ⊢
    rw [a]
    exact e
theorem rv_alk {L L' : List FrD} (h : Rv L L' L.length) (hl : L'.length = L.length) : alk L'.length (fW L') (fH L') (fN L') (fP L') ↔ alk L.length (fW L) (fH L) (fN L) (fP L) := by
  rw [hl]
  constructor
  · rintro ⟨h1, h2, h3⟩
    have q : ∀ i, i < L.length → fW L i = fW L (L.length - 1) ∧ fH L i = fH L (L.length - 1) := fun i hi => by
      obtain ⟨-, a, b⟩ := h3 (L.length - 1 - i) (by omega)
      have e := h (L.length - 1 - i) (by omega)
      have e0 := h 0 (by omega)
      rw [e.1, e0.1, show L.length - 1 - (L.length - 1 - i) = i by omega, Nat.sub_zero] at a
      rw [e.2.1, e0.2.1, show L.length - 1 - (L.length - 1 - i) = i by omega, Nat.sub_zero] at b
      exact ⟨a, b⟩
    refine ⟨h1, h2, fun i hi => ⟨?_, ?_, ?_⟩⟩
    · obtain ⟨a, -, -⟩ := h3 (L.length - 1 - i) (by omega)
      have e := h (L.length - 1 - i) (by omega)
      rw [show L.length - 1 - (L.length - 1 - i) = i by omega] at e
      refine ⟨by rw [← e.1]; exact a.1, by rw [← e.2.1]; exact a.2.1, by rw [← e.2.2.1, ← e.1, ← e.2.1]; exact a.2.2.1, fun k hk => ?_⟩
      rw [← e.2.2.2 k (by rw [e.2.2.1]; exact hk)]
      exact a.2.2.2 k (by rw [e.2.2.1]; exact hk)
    · rw [(q i hi).1, ← (q 0 (by omega)).1]
    · rw [(q i hi).2, ← (q 0 (by omega)).2]
  · rintro ⟨h1, h2, h3⟩
    refine ⟨h1, h2, fun i hi => ?_⟩
    obtain ⟨a, b, c⟩ := h3 (L.length - 1 - i) (by omega)
    have z := h3 (L.length - 1 - 0) (by omega)
    have e := h i hi
    have e0 := h 0 (by omega)
    refine ⟨⟨by rw [e.1]; exact a.1, by rw [e.2.1]; exact a.2.1, by rw [e.2.2.1, e.1, e.2.1]; exact a.2.2.1, fun k hk => ?_⟩, ?_, ?_⟩
    · rw [e.2.2.2 k hk]
      exact a.2.2.2 k (by rw [← e.2.2.1]; exact hk)
    · rw [e.1, e0.1, b, z.2.1]
    · rw [e.2.1, e0.2.1, c, z.2.2]
theorem rv_adt {L L' : List FrD} (h : Rv L L' L.length) (hl : L'.length = L.length) {l W' H' : Int} {len' : Nat} {f' : Nat → Int} (T : AdT L'.length (fW L') (fH L') (fN L') (fP L') l W' H' len' f') : AdT L.length (fW L) (fH L) (fN L) (fP L) l W' H' len' f' := by
  rcases T with ⟨a, e1, e2, e3, e4, e5⟩ | ⟨a, rest⟩
  · have b := (rv_alk h hl).1 a
    have h1 := b.1
    have r0 := h 0 (by omega)
    have n0 : fN L' 0 = fN L 0 := by rw [r0.2.2.1]; exact b.len (by omega)
    have s : ∀ i, i < fN L 0 → sm (fP L') L.length i = sm (fP L) L.length i := fun i hi => by
      have := sm_rev (f := fP L) (f' := fP L') (N := L.length) (i := i) (fun j hj => (h j hj).2.2.2 i (by rw [(h j hj).2.2.1, b.len (by omega)]; exact hi)) L.length (Nat.le_refl _)
      rw [this, Nat.sub_self]
      simp [sm]
    have lsc : ∀ {g k : Nat → Int} (m : Nat), (∀ i, i < m → g i = k i) → ls g m = ls k m := fun {g k} m => by
      induction m with
      | zero => intro _; rfl
      | succ m ih => intro e; rw [ls, ls, ih (fun i hi => e i (by omega)), e m (by omega)]
    rw [hl] at e1 e5
    rw [n0] at e1 e4 e5
    refine .inl ⟨b, ?_, ?_, ?_, e4, fun i hi => ?_⟩
    · rw [e1]; exact lsc _ s
    · rw [e2, r0.1]; exact (b.2.2 _ (by omega)).2.1
    · rw [e3, r0.2.1]; exact (b.2.2 _ (by omega)).2.2
    · rw [e5 i hi, s i hi]
  · exact .inr ⟨fun c => a ((rv_alk h hl).2 c), rest⟩
/-- All pixels of the last k frames, as int64 reckons. -/
def aw (L : List FrD) : Nat → Int
  | 0 => 0
  | k + 1 => IntKind.i64.wrap (aw L k + tw (fP L (L.length - 1 - k)) (fN L (L.length - 1 - k)))
theorem aw_is {L : List FrD} (h : alk L.length (fW L) (fH L) (fN L) (fP L)) (hn : ∀ i, i < L.length → fN L i ≤ 5000) : aw L L.length = tl (fun i => sm (fP L) L.length i) (fN L 0) := by
  have h1 := h.1
  have h100 := h.2.1
  have n0 := hn 0 (by omega)
  have row : ∀ j, j < L.length → tw (fP L j) (fN L j) = tl (fP L j) (fN L 0) ∧ 0 ≤ tl (fP L j) (fN L 0) ∧ tl (fP L j) (fN L 0) ≤ 327675000 := fun j hj => by
    have hp : ∀ i, i < fN L 0 → 0 ≤ fP L j i ∧ fP L j i ≤ 65535 := fun i hi => (h.2.2 j hj).1.2.2.2 i (by rw [h.len hj]; exact hi)
    have b := tl_le hp (fN L 0) (Nat.le_refl _)
    have m : (65535 : Int) * ((fN L 0 : Nat) : Int) ≤ 327675000 := by omega
    rw [h.len hj]
    exact ⟨tw_tl hp (by omega) (by omega) _ (Nat.le_refl _), b.1, by omega⟩
  have key : ∀ k, k ≤ L.length → aw L k = tl (fun j => tl (fP L (L.length - 1 - j)) (fN L 0)) k ∧ 0 ≤ aw L k ∧ aw L k ≤ 327675000 * (k : Int) := fun k => by
    induction k with
    | zero => intro _; exact ⟨rfl, by simp [aw], by simp [aw]⟩
    | succ k ih =>
      intro hk
      obtain ⟨a1, a2, a3⟩ := ih (by omega)
      obtain ⟨b1, b2, b3⟩ := row (L.length - 1 - k) (by omega)
      have e : aw L (k + 1) = aw L k + tl (fP L (L.length - 1 - k)) (fN L 0) := by
        rw [aw, b1, IntKind.wrap_i64]
        omega
      rw [e]
      refine ⟨by rw [tl, a1], by omega, by omega⟩
  rw [(key _ (Nat.le_refl _)).1, tl_rev (G := fun j => tl (fP L j) (fN L 0)) (N := L.length) (fun j _ => rfl) _ (Nat.le_refl _), Nat.sub_self, sm_tl]
  simp [tl]
theorem tot_is {L : List FrD} {l W' H' : Int} {len' : Nat} {f' : Nat → Int} (T : AdT L.length (fW L) (fH L) (fN L) (fP L) l W' H' len' f') (h : alk L.length (fW L) (fH L) (fN L) (fP L)) (hn : ∀ i, i < L.length → fN L i ≤ 5000) : (0 ≤ tw f' len' ∧ tw f' len' ≤ 1000000000) ∧ (0 ≤ l ∧ l ≤ 100000000000) ∧ tw f' len' + l = aw L L.length := by
  rcases T with ⟨-, rfl, rfl, rfl, rfl, e⟩ | ⟨h', -⟩
  case inr => exact absurd h h'
  have h1 := h.1
  have n0 := hn 0 (by omega)
  have sp : ∀ i, i < fN L 0 → 0 ≤ sm (fP L) L.length i ∧ sm (fP L) L.length i ≤ 10000000 := fun i hi => h.sum (Nat.le_refl _) hi
  have ep : ∀ i, i < fN L 0 → 0 ≤ f' i ∧ f' i ≤ 65535 := fun i hi => by
    have := mn_le (x := sm (fP L) L.length i) (sp i hi).1
    rw [e i hi]
    omega
  have b := tl_le ep (fN L 0) (Nat.le_refl _)
  have lb := ls_le sp (k := fN L 0) (Nat.le_refl _)
  have key := mn_ls (sm (fP L) L.length) (fN L 0)
  rw [tw_tl ep (by omega) (by omega) _ (Nat.le_refl _), aw_is h hn, tl_congr _ e]
  rw [tl_congr _ e] at b
  exact ⟨by omega, by omega, key⟩
theorem newsS {w : World} {ad : Addr} {n : Nat} {f : Nat → Int} (h : Src w (some ad) n f) : ∀ j u, (lI ((List.range n).map f))[j]? = some u → w.cell? (ad.add j) = some u := by
  intro j u hu
  have hj : j < n := by
    have := (List.getElem?_eq_some_iff.1 hu).1
    simpa [lI] using this
  have e : u = .int .i64 (f j) := by
    simp [lI, hj] at hu
    exact hu.symm
  rcases h with h | ⟨b, o, e2, hb, hi⟩
  · omega
  · cases e2
    rw [Addr.add_lit, e]
    exact hi j hj
set_option maxRecDepth 100000 in
theorem intsS_any {w : World} {a : Option Addr} {n c : Nat} {f : Nat → Int} (h : Src w a n f) (hz : a = none → n = 0 ∧ c = 0) (hn : n ≤ 1048576) :
    Calls Try.prog 10 #[.slice a n c] w fun e w' => ∃ g' c', e = .returned (.slice (some ⟨g', 0, none⟩) n c') ∧ w'.ownsRow w.heap.size 2 1 (.slice (some ⟨g', 0, none⟩) n c') n (lI ((List.range n).map f)) ∧ Below w.heap.size w w' := by
  have hbs : ∀ w, (Instr.buildSlice 26 0 #[]).run Try.prog w = .ok (.slice (some ⟨w.heap.size, 0, none⟩) 0 0) (w.alloc (.cells #[] 2)) := fun _ => by kernel_rfl
  obtain ⟨V, hV, A0, bV, -⟩ := boxed w 2 #[]
  have o0 : V.ownsRow w.heap.size 2 1 (.slice (some ⟨w.heap.size, 0, none⟩) 0 0) 0 [] := ⟨rfl, .inr ⟨w.heap.size, 0, #[], rfl, Nat.le_refl _, A0, Nat.le_refl _, Nat.zero_le _, rfl, rfl⟩⟩
  obtain ⟨i0, hi0, hz0, hz1, hz2⟩ := info_parts infoI
  have hn' : (n : Int) ≤ 1048576 := by omega
  cases a with
  | none =>
    obtain ⟨rfl, rfl⟩ := hz rfl
    go_enter Try.func10, Try.ntmps10
    go_wp2
    go_ret
    exact ⟨_, _, rfl, o0, bV⟩
  | some ad =>
    have hs := h.below bV
    have hws : w.heap.size ≤ V.heap.size := bV.size
    go_enter Try.func10, Try.ntmps10
    go_wp2_with (at_builtin; refine wpList_append_own _ rfl _ _ _ rfl w.heap.size 2 i0 _ 1 8 Try.underlying26 hi0 hz0 hz1 hz2 rfl (by omega) (.slice (some ⟨w.heap.size, 0, none⟩) 0 0) 0 [] rfl o0 ad n c (lI ((List.range n).map f)) rfl (by simp [lI]) (newsS hs) (fun u hu => by simp only [lI, List.mem_map] at hu; obtain ⟨x, -, rfl⟩ := hu; rfl) (by unfold maxLen; omega) (by omega) hws ?_; intro v2 w4 hown2 hgrow2 hne2)
    simp only [Nat.zero_add, List.nil_append] at hown2
    have nn2 : v2 ≠ .slice none 0 0 := fun h => by have := (hne2.1 h).1; cases this
    rcases hown2.2 with ⟨e, _⟩ | ⟨g', c', cur, e, -⟩
    · exact absurd e nn2
    subst e
    have bw : Below w.heap.size w w4 := bV.trans (Below.grown (Below.refl _ _) hgrow2 hws (fun k hk => by cases hk; exact Nat.le_refl _))
    go_ret
    exact ⟨_, _, rfl, hown2, bw⟩
set_option maxRecDepth 100000 in
theorem total_any {w : World} {a : Option Addr} {n c : Nat} {f : Nat → Int} (h : Src w a n f) (hn : n ≤ 1048576) :
    Calls Try.prog 11 #[.slice a n c] w fun e w' => e = .returned (.int .i64 (tw f n)) ∧ w = w' := by
  have hn' : (n : Int) ≤ 1048576 := by omega
  go_enter Try.func11, Try.ntmps11
  go_wp2
  go_loopw [3, 4] (fun s2 s3 wr => ∃ k : Nat, k ≤ n ∧ s2 = .int .i64 (tw f k) ∧ s3 = .int .i64 (k : Int) ∧ w = wr) (fun _ s3 _ => n - (intOf s3).toNat)
  case atStart => exact ⟨0, Nat.zero_le _, rfl, rfl, rfl⟩
  case round =>
    obtain ⟨k, hk, rfl, rfl, rfl⟩ := hrel
    by_cases hkn : k < n
    · have hkn' : (k : Int) < (n : Int) := by omega
      rcases h with h | ⟨b, o, rfl, hb, hi⟩
      · omega
      have c0 := hi k hkn
      have HT : Hid (IntKind.i64.wrap (tw f k + f k) = tw f (k + 1)) := rfl
      obtain ⟨t, ht⟩ : ∃ t, tw f k = t := ⟨_, rfl⟩
      rw [ht] at HT ⊢
      clear ht
      go_wp2
      exact ⟨⟨k + 1, by omega, by rw [← HT.out, IntWalk.i64_left], by go_num, by trivial⟩, by simp [intOf]; omega⟩
    · have hkn' : ¬ (k : Int) < (n : Int) := by omega
      obtain rfl : k = n := by omega
      go_wp2
      go_ret
      exact ⟨rfl, rfl⟩
set_option maxRecDepth 100000 in
theorem sameS_any {w : World} {a1 a2 : Option Addr} {n c1 c2 : Nat} {f1 f2 : Nat → Int} (h1 : Src w a1 n f1) (h2 : Src w a2 n f2) (e : ∀ i, i < n → f1 i = f2 i) (hn : n ≤ 1048576) :
    Calls Try.prog 13 #[.slice a1 n c1, .slice a2 n c2] w fun e w' => e = .returned (.bool true) ∧ Below w.heap.size w w' := by
  have hn' : (n : Int) ≤ 1048576 := by omega
  have hne : ((n : Int) != (n : Int)) = false := bne_self_eq_false _
  go_enter Try.func13, Try.ntmps13
  go_wp2
  clear hne
  go_loopw [5] (fun u wr => ∃ k : Nat, k ≤ n ∧ u = .int .i64 (k : Int) ∧ Below w.heap.size w wr) (fun u _ => n - (intOf u).toNat)
  case atStart => exact ⟨0, Nat.zero_le _, rfl, Below.refl _ _⟩
  case round =>
    obtain ⟨k, hk, rfl, bw⟩ := hrel
    by_cases hkn : k < n
    · have hkn' : (k : Int) < (n : Int) := by omega
      rcases h1.below bw with h | ⟨b1, o1, rfl, hb1, x1⟩
      · omega
      rcases h2.below bw with h | ⟨b2, o2, rfl, hb2, x2⟩
      · omega
      have c1 := x1 k hkn
      have c3 := x2 k hkn
      rw [e k hkn] at c1
      obtain ⟨z, hz⟩ : ∃ z, f2 k = z := ⟨_, rfl⟩
      rw [hz] at c1 c3
      clear hz
      have hzz : (z != z) = false := bne_self_eq_false _
      go_wp2_with fail
      go_region
      clear hzz c1 c3
      go_wp2
      exact ⟨⟨k + 1, by omega, by go_num, bw.drew⟩, by simp [intOf]; omega⟩
    · have hkn' : ¬ (k : Int) < (n : Int) := by omega
      go_wp2
      go_ret
      exact ⟨rfl, bw⟩
end Go.Proofs.Ytlofbgkefalpoaa
