/-
  Votes by the specification, walked.
-/
import Derived.Test.YtjlmiadmobbibaaBp
namespace Go.Proofs.Ytjlmiadmobbibaa
open Go.RowKit

/-- The votes that q counts. -/
def AhC (q : Int × Int → Nat) (v : Vt) : Prop := Ah v.x v.y ∧ v.c = (q (v.x, v.y) : Int) ∧ 0 < q (v.x, v.y)
def Ph (q : Int × Int → Nat) (m : Nat) (F : Nat → Vt) : Prop := Inj m F ∧ ∀ v, Mem m F v ↔ AhC q v
theorem Ph.at {q : Int × Int → Nat} {m : Nat} {F : Nat → Vt} (h : Ph q m F) {t : Nat} (ht : t < m) : AhC q (F t) := (h.2 _).1 ⟨t, ht, rfl⟩
theorem Ph.uni {q : Int × Int → Nat} {m : Nat} {F : Nat → Vt} (h : Ph q m F) {a b : Nat} (ha : a < m) (hb : b < m) (e : ((F a).x, (F a).y) = ((F b).x, (F b).y)) : a = b := by
  refine h.1 a b ha hb ?_
  have h1 := (h.at ha).2.1
  have h2 := (h.at hb).2.1
  rw [e] at h1
  injection e with e1 e2
  have e3 : (F a).c = (F b).c := h1.trans h2.symm
  cases hA : F a
  cases hB : F b
  rw [hA, hB] at e1 e2 e3
  simp only at e1 e2 e3
  rw [e1, e2, e3]
theorem ph_new {q q' : Int × Int → Nat} {m : Nat} {F : Nat → Vt} {x y : Int} (h : Ph q m F) (ha : Ah x y) (hno : ∀ t, t < m → ((F t).x, (F t).y) ≠ (x, y)) (hq1 : q' (x, y) = q (x, y) + 1) (hq2 : ∀ p, p ≠ (x, y) → q' p = q p) : Ph q' (m + 1) (upd F m ⟨x, y, 1⟩) := by
  have h0 : q (x, y) = 0 := by
    refine Nat.eq_zero_of_not_pos fun hp => ?_
    obtain ⟨t, ht, e⟩ := (h.2 ⟨x, y, (q (x, y) : Int)⟩).2 ⟨ha, rfl, hp⟩
    exact hno t ht (by rw [e])
  refine ⟨inj_put h.1 ?_, fun v => ?_⟩
  · rintro ⟨t, ht, e⟩
    exact hno t ht (by rw [e])
  · rw [mem_put, h.2 v]
    constructor
    · rintro (⟨h1, h2, h3⟩ | rfl)
      · have hne : (v.x, v.y) ≠ (x, y) := fun e => by rw [e, h0] at h3; omega
        exact ⟨h1, by rw [hq2 _ hne]; exact h2, by rw [hq2 _ hne]; exact h3⟩
      · exact ⟨ha, by simp only; rw [hq1, h0]; rfl, by simp only; rw [hq1]; omega⟩
    · rintro ⟨h1, h2, h3⟩
      by_cases e : (v.x, v.y) = (x, y)
      · rw [e, hq1, h0] at h2
        injection e with e1 e2
        right
        obtain ⟨vx, vy, vc⟩ := v
        simp only at e1 e2 h2
        rw [e1, e2, h2]; rfl
      · rw [hq2 _ e] at h2 h3
        exact .inl ⟨h1, h2, h3⟩
theorem ph_inc {q q' : Int × Int → Nat} {m t : Nat} {F : Nat → Vt} {x y : Int} (h : Ph q m F) (ht : t < m) (hxy : ((F t).x, (F t).y) = (x, y)) (hq1 : q' (x, y) = q (x, y) + 1) (hq2 : ∀ p, p ≠ (x, y) → q' p = q p) : Ph q' m (upd F t ⟨x, y, (F t).c + 1⟩) := by
  obtain ⟨a1, a2, a3⟩ := h.at ht
  rw [hxy] at a2 a3
  have ha : Ah x y := by injection hxy with e1 e2; rw [e1, e2] at a1; exact a1
  have hoth : ∀ a, a < m → a ≠ t → ((F a).x, (F a).y) ≠ (x, y) := fun a h1 h2 e => h2 (h.uni h1 ht (e.trans hxy.symm))
  refine ⟨fun a b h1 h2 e => ?_, fun v => ?_⟩
  · by_cases e1 : a = t
    · by_cases e2 : b = t
      · omega
      · rw [e1, upd_at, upd_o _ _ e2] at e
        exact absurd (by rw [← e]) (hoth b h2 e2)
    · by_cases e2 : b = t
      · rw [e2, upd_at, upd_o _ _ e1] at e
        exact absurd (by rw [e]) (hoth a h1 e1)
      · rw [upd_o _ _ e1, upd_o _ _ e2] at e
        exact h.1 a b h1 h2 e
  · constructor
    · rintro ⟨a, h1, rfl⟩
      by_cases e1 : a = t
      · subst e1
        rw [upd_at]
        exact ⟨ha, by simp only; rw [hq1, a2]; rfl, by simp only; rw [hq1]; omega⟩
      · rw [upd_o _ _ e1]
        obtain ⟨b1, b2, b3⟩ := h.at h1
        exact ⟨b1, by rw [hq2 _ (hoth a h1 e1)]; exact b2, by rw [hq2 _ (hoth a h1 e1)]; exact b3⟩
    · rintro ⟨h1, h2, h3⟩
      by_cases e : (v.x, v.y) = (x, y)
      · rw [e, hq1] at h2
        injection e with e1 e2
        refine ⟨t, ht, ?_⟩
        rw [upd_at]
        obtain ⟨vx, vy, vc⟩ := v
        simp only at e1 e2 h2
        rw [e1, e2, h2, a2]; rfl
      · rw [hq2 _ e] at h2 h3
        obtain ⟨a, b1, b2⟩ := (h.2 v).2 ⟨h1, h2, h3⟩
        refine ⟨a, b1, ?_⟩
        rw [upd_o _ _ (fun e3 => e (by rw [← b2, e3]; exact hxy))]
        exact b2
theorem ph_skip {q q' : Int × Int → Nat} {m : Nat} {F : Nat → Vt} {x y : Int} (h : Ph q m F) (ha : ¬ Ah x y) (hq2 : ∀ p, p ≠ (x, y) → q' p = q p) : Ph q' m F := by
  refine ⟨h.1, fun v => (h.2 v).trans ?_⟩
  have key : Ah v.x v.y → q' (v.x, v.y) = q (v.x, v.y) := fun h1 => hq2 _ fun e => ha (by injection e with e1 e2; rw [e1, e2] at h1; exact h1)
  constructor
  · rintro ⟨h1, h2, h3⟩
    exact ⟨h1, by rw [key h1]; exact h2, by rw [key h1]; exact h3⟩
  · rintro ⟨h1, h2, h3⟩
    rw [key h1] at h2 h3
    exact ⟨h1, h2, h3⟩
/-- The pairs counted so far. -/
def pc (f : Nat → Int) (n i k : Nat) (p : Int × Int) : Nat := sm (fun a => sm (fun b => ind f p b a) n) i + sm (fun b => ind f p b i) k
theorem ind_le (f : Nat → Int) (p : Int × Int) (a b : Nat) : ind f p a b ≤ 1 := by unfold ind; split <;> omega
theorem sm_le {g : Nat → Nat} {c : Nat} (h : ∀ i, g i ≤ c) (k : Nat) : sm g k ≤ k * c := by
  induction k with
  | zero => simp [sm]
  | succ k ih => have := h k; rw [sm, Nat.succ_mul]; omega
theorem pc_le (f : Nat → Int) {n : Nat} (hn : n ≤ 16) (i k : Nat) (p : Int × Int) : pc f n i k p ≤ i * 16 + k := by
  have h1 : ∀ a, sm (fun b => ind f p b a) n ≤ 16 := fun a => by have := sm_le (g := fun b => ind f p b a) (c := 1) (fun b => ind_le f p b a) n; omega
  have h2 := sm_le h1 i
  have h3 := sm_le (g := fun b => ind f p b i) (c := 1) (fun b => ind_le f p b i) k
  unfold pc
  omega
theorem pc_row (f : Nat → Int) (n i : Nat) (p : Int × Int) : pc f n (i + 1) 0 p = pc f n i n p := by simp only [pc, sm]; omega
theorem pc_yes (f : Nat → Int) (n i k : Nat) : pc f n i (k + 1) (lpp f k i) = pc f n i k (lpp f k i) + 1 := by
  simp only [pc, sm, ind, if_pos]; omega
theorem pc_no (f : Nat → Int) (n i k : Nat) {p : Int × Int} (h : p ≠ lpp f k i) : pc f n i (k + 1) p = pc f n i k p := by
  have : ind f p k i = 0 := by unfold ind; rw [if_neg (fun e => h e.symm)]
  simp only [pc, sm, this]; omega
theorem pc_all (f : Nat → Int) (n : Nat) (p : Int × Int) : pc f n n 0 p = cN n f p := by
  simp only [pc, sm, Nat.add_zero, cN]
  exact sm_swap _ n n
theorem own_inc {w : World} {B g n c k : Nat} {F : Nat → Vt} (h : w.ownsRow B 36 3 (.slice (some ⟨g, 0, none⟩) n c) n (hC vE F n)) (hk : k < n) (C : Int) : (w.setCell ⟨g, k * 3 + 2, none⟩ (.int .i64 C)).ownsRow B 36 3 (.slice (some ⟨g, 0, none⟩) n c) n (hC vE (upd F k ⟨(F k).x, (F k).y, C⟩) n) := by
  have h1 := own_set h (k * 3 + 2) (.int .i64 C)
  rw [← hC_put vE_len F ⟨(F k).x, (F k).y, C⟩ _ h1.1]
  · exact h1
  · intro i j hi hj
    have hl := hC_len vE_len F n
    by_cases e : i = k
    · subst e
      rw [if_pos rfl]
      rcases (by omega : j = 0 ∨ j = 1 ∨ j = 2) with rfl | rfl | rfl
      · rw [List.getElem?_set_ne (by omega), hC_at vE_len F hi (by omega)]; rfl
      · rw [List.getElem?_set_ne (by omega), hC_at vE_len F hi (by omega)]; rfl
      · rw [List.getElem?_set_self (by omega)]; rfl
    · rw [if_neg e, List.getElem?_set_ne (by omega), hC_at vE_len F hi hj]
/-- What the list is, as it is sorted. -/
def Ins (F : Nat → Vt) (i k : Nat) : Prop := (∀ a b, a < b → b ≤ i → a ≠ k → b ≠ k → vlt (F a) (F b)) ∧ ∀ b, k < b → b ≤ i → vlt (F k) (F b)
theorem Ins.start {F : Nat → Vt} {i : Nat} (h : Srt vlt i F) : Ins F i i := ⟨fun a b h1 h2 h3 h4 => h a b h1 (by omega), fun b h1 h2 => by omega⟩
theorem Ins.done {F : Nat → Vt} {i k : Nat} (h : Ins F i k) (hk : k ≤ i) (h0 : k = 0 ∨ vlt (F (k - 1)) (F k)) : Srt vlt (i + 1) F := by
  intro a b h1 h2
  by_cases e1 : a = k
  · subst e1; exact h.2 b h1 (by omega)
  · by_cases e2 : b = k
    · subst e2
      rcases h0 with h0 | h0
      · omega
      · by_cases e3 : a = b - 1
        · rw [e3]; exact h0
        · exact vlt_swo.tr _ _ _ (h.1 a (b - 1) (by omega) (by omega) e1 (by omega)) h0
    · exact h.1 a b h1 (by omega) e1 e2
theorem Ins.step {F : Nat → Vt} {i k : Nat} (h : Ins F i k) (hk : k ≤ i) (h0 : 0 < k) (hl : vlt (F k) (F (k - 1))) : Ins (sw F k (k - 1)) i (k - 1) := by
  refine ⟨fun a b h1 h2 h3 h4 => ?_, fun b h1 h2 => ?_⟩
  · by_cases e1 : a = k
    · subst e1
      rw [sw_l, sw_o F (by omega) h4]
      exact h.1 (a - 1) b (by omega) h2 (by omega) (by omega)
    · by_cases e2 : b = k
      · subst e2
        rw [sw_l, sw_o F e1 h3]
        exact h.1 a (b - 1) (by omega) (by omega) e1 (by omega)
      · rw [sw_o F e1 h3, sw_o F e2 h4]
        exact h.1 a b h1 h2 e1 e2
  · rw [sw_r]
    by_cases e2 : b = k
    · subst e2; rw [sw_l]; exact hl
    · rw [sw_o F e2 (by omega)]; exact h.2 b (by omega) h2
set_option maxRecDepth 100000 in
set_option maxHeartbeats 8000000 in
theorem specVotes_any {w : World} {g n cp : Nat} {f : Nat → Int} (h : Trips w g n f) (hn : n ≤ 1048576) :
    Calls Try.prog 19 #[.slice (some ⟨g, 0, none⟩) n cp] w (VoP w n f) := by
  obtain ⟨i0, hi0, hz0, hz1, hz2⟩ := info_parts infoV
  obtain ⟨V, hV, A0, bW, -⟩ := boxed w 36 #[]
  have hbs : ∀ w, (Instr.buildSlice 33 0 #[]).run Try.prog w = .ok (.slice (some ⟨w.heap.size, 0, none⟩) 0 0) (w.alloc (.cells #[] 36)) := fun _ => by kernel_rfl
  have O0 : V.ownsRow w.heap.size 36 3 (.slice (some ⟨w.heap.size, 0, none⟩) 0 0) 0 (hC vE (fun _ => ⟨0, 0, 0⟩) 0) := ⟨rfl, .inr ⟨w.heap.size, 0, #[], rfl, Nat.le_refl _, A0, Nat.le_refl _, Nat.zero_le _, rfl, rfl⟩⟩
  go_enter Try.func19, Try.ntmps19
  go_wp2_with fail
  refine (specSpots_any (h.below bW) hn).mono ?_
  rintro e w2 ⟨rfl, bb⟩
  replace O0 := own_bel O0 bb
  replace bW := bW.trans (bb.mono bW.size)
  clear bb hV A0
  by_cases hs : SpOk n f
  case neg =>
    rw [pd_no hs]
    have HF : Hid (VoP w n f (.returned (.slice (some ⟨w.heap.size, 0, none⟩) 0 0)) w2) := ⟨_, 0, _, rfl, O0, (fun h => by cases h), .inr ⟨hs, rfl⟩, by omega, bW⟩
    clear O0 bW
    go_wp2
    exact bodyPost_ret (v := .slice (some ⟨w.heap.size, 0, none⟩) 0 0) (by simp [results, Try.results19, go_sem]) rfl HF.out
  rw [pd_yes hs]
  have hn16 := hs.1
  have hn' : (n : Int) ≤ 16 := by omega
  have P0 : Ph (pc f n 0 0) 0 (fun _ => (⟨0, 0, 0⟩ : Vt)) := ⟨fun a b h1 => by omega, fun v => ⟨fun ⟨i, hi, _⟩ => by omega, fun ⟨_, _, h3⟩ => by simp [pc, sm] at h3⟩⟩
  go_wp2
  go_loopw [3, 4] (fun s t wr => ∃ (i m : Nat) (F : Nat → Vt), i ≤ n ∧ m ≤ i * 16 ∧ t = .int .i64 (i : Int) ∧ wr.ownsRow w.heap.size 36 3 s m (hC vE F m) ∧ s ≠ .slice none 0 0 ∧ Ph (pc f n i 0) m F ∧ Below w.heap.size w wr) (fun _ t _ => n - (intOf t).toNat)
  case atStart => exact ⟨0, 0, _, Nat.zero_le _, Nat.le_refl _, rfl, O0, (fun h => by cases h), P0, bW⟩
  case round =>
    clear O0 P0 bW
    obtain ⟨i, m, F, hi, hmi, rfl, hO, hnn, hPh, bW⟩ := hrel
    by_cases hlt : i < n
    · have hlt' : (i : Int) < (n : Int) := by omega
      go_wp2
      go_loopw [3, 5] (fun s t wr => ∃ (k m : Nat) (F : Nat → Vt), k ≤ n ∧ m ≤ i * 16 + k ∧ t = .int .i64 (k : Int) ∧ wr.ownsRow w.heap.size 36 3 s m (hC vE F m) ∧ s ≠ .slice none 0 0 ∧ Ph (pc f n i k) m F ∧ Below w.heap.size w wr) (fun _ t _ => n - (intOf t).toNat)
      case atStart => exact ⟨0, m, F, Nat.zero_le _, hmi, rfl, hO, hnn, hPh, bW⟩
      case round =>
        clear hO hnn hPh bW hmi
        obtain ⟨k, m, F, hk, hmk, rfl, hO, hnn, hPh, bW⟩ := hrel
        by_cases hkt : k < n
        · have hkt' : (k : Int) < (n : Int) := by omega
          have hi0' : (0 : Int) ≤ (i : Int) := by omega
          have hk0' : (0 : Int) ≤ (k : Int) := by omega
          have hT := h.below bW
          obtain ⟨c0, c1, -⟩ := hT.open i hlt
          obtain ⟨d0, d1, -⟩ := hT.open k hkt
          obtain ⟨p1, p2⟩ := hs.2 i hlt
          obtain ⟨p3, p4⟩ := hs.2 k hkt
          have hlp : lpp f k i = (f (i * 3) - f (k * 3), f (i * 3 + 1) - f (k * 3 + 1)) := rfl
          have hY := pc_yes f n i k
          have hN := fun p hp => pc_no f n i k (p := p) hp
          rw [hlp] at hY
          simp only [hlp] at hN
          have hle := fun p => pc_le f hn16 i k p
          obtain ⟨q, hq⟩ : ∃ q, pc f n i k = q := ⟨_, rfl⟩
          obtain ⟨q', hq'⟩ : ∃ q', pc f n i (k + 1) = q' := ⟨_, rfl⟩
          rw [hq, hq'] at hY
          rw [hq] at hPh hle
          simp only [hq, hq'] at hN
          obtain ⟨X1, hX1⟩ : ∃ X, f (i * 3) = X := ⟨_, rfl⟩
          obtain ⟨X2, hX2⟩ : ∃ X, f (k * 3) = X := ⟨_, rfl⟩
          obtain ⟨Y1, hY1⟩ : ∃ X, f (i * 3 + 1) = X := ⟨_, rfl⟩
          obtain ⟨Y2, hY2⟩ : ∃ X, f (k * 3 + 1) = X := ⟨_, rfl⟩
          rw [hX1] at c0 p1
          rw [hY1] at c1 p2
          rw [hX2] at d0 p3
          rw [hY2] at d1 p4
          rw [hX1, hX2, hY1, hY2] at hY
          simp only [hX1, hX2, hY1, hY2] at hN
          have w1 : IntKind.i64.wrap (X1 - X2) = X1 - X2 := by rw [IntKind.wrap_i64]; omega
          have w2 : IntKind.i64.wrap (Y1 - Y2) = Y1 - Y2 := by rw [IntKind.wrap_i64]; omega
          obtain ⟨x, hx⟩ : ∃ x, X1 - X2 = x := ⟨_, rfl⟩
          obtain ⟨y, hy⟩ : ∃ y, Y1 - Y2 = y := ⟨_, rfl⟩
          have bx : -1000 ≤ x ∧ x ≤ 1000 := by omega
          rw [hx] at w1
          rw [hy] at w2
          rw [hx, hy] at hY
          simp only [hx, hy] at hN
          have HQ : Hid (pc f n i (k + 1) = q') := hq'
          have HO : Hid (wr.ownsRow w.heap.size 36 3 u3 m (hC vE F m)) := hO
          clear hT hlp hX1 hX2 hY1 hY2 p1 p2 p3 p4 hq hq' hO
          go_upto_region 10 with (fail)
          go_region
          go_upto_region 11 with (fail)
          go_region
          obtain ⟨W2, hW2, hO2, bW2⟩ : ∃ W2, wr.drew.drew = W2 ∧ W2.ownsRow w.heap.size 36 3 u3 m (hC vE F m) ∧ Below w.heap.size w W2 := ⟨_, rfl, own_bel HO.out ((Below.refl _ _).drew.drew), bW.drew.drew⟩
          rw [hW2]
          clear c0 c1 d0 d1 w1 w2 hx hy hW2 HO bW
          by_cases ha : Ah x y
          case neg =>
            have HP := ph_skip hPh ha hN
            rw [← HQ.out] at HP
            have HPH : Hid (Ph (pc f n i (k + 1)) m F) := HP
            have hno : x < 0 ∨ (¬ x < 0 ∧ x = 0 ∧ y ≤ 0) := by unfold Ah at ha; omega
            clear hPh HP ha hY hN hle HQ
            rcases hno with hx0 | ⟨hx0, rfl, hy0⟩
            · go_wp2
              exact ⟨⟨k + 1, m, F, by omega, by omega, by go_num, hO2, hnn, HPH.out, bW2⟩, by simp [intOf]; omega⟩
            · go_wp2
              exact ⟨⟨k + 1, m, F, by omega, by omega, by go_num, hO2, hnn, HPH.out, bW2⟩, by simp [intOf]; omega⟩
          obtain ⟨gg, cc, rfl⟩ : ∃ gg cc, u3 = .slice (some ⟨gg, 0, none⟩) m cc := by
            rcases hO2.2 with ⟨e1, -⟩ | ⟨gg, cc, cur, e1, -⟩
            · exact absurd e1 hnn
            · exact ⟨gg, cc, e1⟩
          have hyes : ¬ x < 0 ∧ (x = 0 → ¬ y ≤ 0) := by unfold Ah at ha; omega
          obtain ⟨hx0, hy0⟩ := hyes
          have hm' : (m : Int) ≤ 1000 := by omega
          by_cases hxz : x = 0
          · have hy1 := hy0 hxz
            subst hxz
            clear hy0
            go_wp2
            go_loopw [8, 9] (fun s t wr => ∃ j : Nat, j ≤ m ∧ t = .int .i64 (j : Int) ∧ ((s = .int .i64 (-1) ∧ ∀ t, t < j → ((F t).x, (F t).y) ≠ (0, y)) ∨ ∃ t, t < j ∧ s = .int .i64 (t : Int) ∧ ((F t).x, (F t).y) = (0, y)) ∧ W2 = wr) (fun _ t _ => m - (intOf t).toNat)
            case atStart => exact ⟨0, Nat.zero_le _, rfl, .inl ⟨rfl, fun t ht => by omega⟩, rfl⟩
            case round =>
              obtain ⟨j, hj, rfl, hst, rfl⟩ := hrel
              by_cases hjt : j < m
              · have hjt' : (j : Int) < (m : Int) := by omega
                obtain ⟨z0, z1, z2, -⟩ := own_readV hO2 hjt
                by_cases e1 : (F j).x = 0
                · by_cases e2 : (F j).y = y
                  · have HS : Hid (∃ t, t < j + 1 ∧ Value.int .i64 (j : Int) = .int .i64 (t : Int) ∧ ((F t).x, (F t).y) = (0, y)) := ⟨j, by omega, rfl, by rw [e1, e2]⟩
                    clear hst
                    rw [e1] at z0
                    rw [e2] at z1
                    clear e1 e2 hY hN
                    go_wp2
                    exact ⟨⟨j + 1, by omega, by go_num, .inr HS.out, by trivial⟩, by simp [intOf]; omega⟩
                  · have HS : Hid ((u8 = .int .i64 (-1) ∧ ∀ t, t < j + 1 → ((F t).x, (F t).y) ≠ (0, y)) ∨ ∃ t, t < j + 1 ∧ u8 = .int .i64 (t : Int) ∧ ((F t).x, (F t).y) = (0, y)) := by
                      rcases hst with ⟨h1, h2⟩ | ⟨t, h1, h2, h3⟩
                      · refine .inl ⟨h1, fun t ht => ?_⟩
                        by_cases e : t = j
                        · subst e; intro hh; injection hh with hh1 hh2; exact e2 hh2
                        · exact h2 t (by omega)
                      · exact .inr ⟨t, by omega, h2, h3⟩
                    clear hst
                    rw [e1] at z0
                    obtain ⟨Yj, hYj⟩ : ∃ Yj, (F j).y = Yj := ⟨_, rfl⟩
                    rw [hYj] at z1 e2
                    clear e1 hYj hY hN
                    go_wp2
                    exact ⟨⟨j + 1, by omega, by go_num, HS.out, by trivial⟩, by simp [intOf]; omega⟩
                · have HS : Hid ((u8 = .int .i64 (-1) ∧ ∀ t, t < j + 1 → ((F t).x, (F t).y) ≠ (0, y)) ∨ ∃ t, t < j + 1 ∧ u8 = .int .i64 (t : Int) ∧ ((F t).x, (F t).y) = (0, y)) := by
                    rcases hst with ⟨h1, h2⟩ | ⟨t, h1, h2, h3⟩
                    · refine .inl ⟨h1, fun t ht => ?_⟩
                      by_cases e : t = j
                      · subst e; intro hh; injection hh with hh1 hh2; exact e1 hh1
                      · exact h2 t (by omega)
                    · exact .inr ⟨t, by omega, h2, h3⟩
                  clear hst
                  obtain ⟨Xj, hXj⟩ : ∃ Xj, (F j).x = Xj := ⟨_, rfl⟩
                  rw [hXj] at z0 e1
                  clear hXj hY hN
                  go_wp2
                  exact ⟨⟨j + 1, by omega, by go_num, HS.out, by trivial⟩, by simp [intOf]; omega⟩
              · have hjt' : ¬ (j : Int) < (m : Int) := by omega
                obtain rfl : j = m := by omega
                rcases hst with ⟨rfl, hno⟩ | ⟨t, ht, rfl, hxy⟩
                · have HP := ph_new hPh ha hno hY hN
                  rw [← HQ.out] at HP
                  have HPH : Hid (Ph (pc f n i (k + 1)) (j + 1) (upd F j ⟨0, y, 1⟩)) := HP
                  clear HP hno hPh hY hN HQ
                  obtain ⟨V9, hV9, A9, b10, -⟩ := boxed W2 36 #[.int .i64 0, .int .i64 y, .int .i64 0]
                  have hO10 := own_bel hO2 b10
                  have bW10 := bW2.trans (b10.mono bW2.size)
                  have hb2 : ∀ w, (Instr.buildSlice 33 1 #[(0, .agg #[.int .i64 0, .int .i64 y, .int .i64 0])]).run Try.prog w = .ok (.slice (some ⟨w.heap.size, 0, none⟩) 1 1) (w.alloc (.cells #[.int .i64 0, .int .i64 y, .int .i64 0] 36)) := fun _ => by kernel_rfl
                  obtain ⟨g9, hg9⟩ : ∃ g, W2.heap.size = g := ⟨_, rfl⟩
                  rw [hg9] at A9
                  clear b10 hO2 bW2
                  go_wp2_with (at_builtin; refine wpList_append_own_at _ rfl _ _ _ rfl w.heap.size 36 i0 _ 3 24 Try.underlying33 hi0 hz0 hz1 hz2 rfl (by omega) (.slice (some ⟨gg, 0, none⟩) j cc) j (hC vE F j) rfl hO10 ⟨g9, 0, none⟩ 1 1 (vE ⟨0, y, 0⟩) rfl rfl (newsV (x := ⟨0, y, 0⟩) A9) (vE_one _) (by unfold maxLen; omega) (by omega) bW10.size ?_; intro v2 w6 hown2 hgrow2 hne2 hat2; refine Hid.out (?_ : Hid _))
                  obtain ⟨g7, c7, rfl⟩ : ∃ g7 c7, v2 = .slice (some ⟨g7, 0, none⟩) (j + 1) c7 := by
                    rcases hown2.2 with ⟨_, h2⟩ | ⟨g, c, cur, e, _⟩
                    · omega
                    · exact ⟨g, c, e⟩
                  have hO6 : w6.ownsRow w.heap.size 36 3 (.slice (some ⟨g7, 0, none⟩) (j + 1) c7) (j + 1) (hC vE (upd F j ⟨0, y, 0⟩) (j + 1)) := by
                    rw [hC, upd_at, ← hC_congr (f := F) (fun i hi => (upd_o F _ (by omega)).symm)]; exact hown2
                  have bW6 := bW10.grown hgrow2 bW10.size (fun j hj => (own_ge hO10 hj).1)
                  obtain ⟨z0, z1, z2, k0, k1, k2⟩ := own_readV hO6 (Nat.lt_succ_self j)
                  rw [upd_at] at z0 z1 z2
                  have hO7 := own_inc hO6 (Nat.lt_succ_self j) 1
                  rw [upd_at] at hO7
                  have hff : upd (upd F j ⟨0, y, 0⟩) j ⟨0, y, 1⟩ = upd F j ⟨0, y, 1⟩ := by
                    funext t
                    by_cases e : t = j
                    · rw [e, upd_at, upd_at]
                    · rw [upd_o _ _ e, upd_o _ _ e, upd_o _ _ e]
                  simp only at hO7 z0 z1 z2
                  rw [hff] at hO7
                  have bW7 := bW6.setCell (p := ⟨g7, j * 3 + 2, none⟩) (own_lt hO6).1 (.int .i64 1)
                  obtain ⟨W8, hW8⟩ : ∃ W, w6.setCell ⟨g7, j * 3 + 2, none⟩ (.int .i64 1) = W := ⟨_, rfl⟩
                  rw [hW8] at hO7 bW7
                  have hj2 : IntKind.i64.wrap ((j : Int) + 1 - 1) = (j : Int) := by rw [IntKind.wrap_i64]; omega
                  have hj3 : (j : Int) + 1 - 1 = (j : Int) := by omega
                  clear hown2 hgrow2 hne2 hat2 hO10 bW10 hO6 bW6 A9 hV9 hff hnn hg9 hb2
                  refine (?_ : wpList _ _ _ _ _ _)
                  go_wp2
                  exact ⟨⟨k + 1, j + 1, _, by omega, by omega, by go_num, hO7, (fun h => by cases h), HPH.out, bW7⟩, by simp [intOf]; omega⟩
                · have HP := ph_inc hPh ht hxy hY hN
                  rw [← HQ.out] at HP
                  have hct := hle (0, y)
                  have hc9 := (hPh.at ht).2.1
                  rw [hxy] at hc9
                  have hO7 := own_inc hO2 ht ((F t).c + 1)
                  have hxy1 : (F t).x = 0 ∧ (F t).y = y := by injection hxy with h1 h2; exact ⟨h1, h2⟩
                  rw [hxy1.1, hxy1.2] at hO7
                  obtain ⟨z0, z1, z2, k0, k1, k2⟩ := own_readV hO2 ht
                  obtain ⟨C, hC9⟩ : ∃ C, (F t).c = C := ⟨_, rfl⟩
                  rw [hC9] at hO7 z2 HP hc9
                  have hCb : 0 ≤ C ∧ C ≤ 1000 := by omega
                  have HPH : Hid (Ph (pc f n i (k + 1)) j (upd F t ⟨0, y, C + 1⟩)) := HP
                  have bW7 := bW2.setCell (p := ⟨gg, t * 3 + 2, none⟩) (own_lt hO2).1 (.int .i64 (C + 1))
                  obtain ⟨W8, hW8⟩ : ∃ W, W2.setCell ⟨gg, t * 3 + 2, none⟩ (.int .i64 (C + 1)) = W := ⟨_, rfl⟩
                  rw [hW8] at hO7 bW7
                  have ht0 : (0 : Int) ≤ (t : Int) ∧ (t : Int) < (j : Int) := by omega
                  have ht1 : ¬ (t : Int) < 0 := by omega
                  clear HP hPh hY hN HQ hO2 bW2 hxy hxy1 hC9 hc9 hct hle z0 z1
                  go_wp2
                  exact ⟨⟨k + 1, j, _, by omega, by omega, by go_num, hO7, hnn, HPH.out, bW7⟩, by simp [intOf]; omega⟩
          · clear hy0
            go_wp2
            go_loopw [8, 9] (fun s t wr => ∃ j : Nat, j ≤ m ∧ t = .int .i64 (j : Int) ∧ ((s = .int .i64 (-1) ∧ ∀ t, t < j → ((F t).x, (F t).y) ≠ (x, y)) ∨ ∃ t, t < j ∧ s = .int .i64 (t : Int) ∧ ((F t).x, (F t).y) = (x, y)) ∧ W2 = wr) (fun _ t _ => m - (intOf t).toNat)
            case atStart => exact ⟨0, Nat.zero_le _, rfl, .inl ⟨rfl, fun t ht => by omega⟩, rfl⟩
            case round =>
              obtain ⟨j, hj, rfl, hst, rfl⟩ := hrel
              by_cases hjt : j < m
              · have hjt' : (j : Int) < (m : Int) := by omega
                obtain ⟨z0, z1, z2, -⟩ := own_readV hO2 hjt
                by_cases e1 : (F j).x = x
                · by_cases e2 : (F j).y = y
                  · have HS : Hid (∃ t, t < j + 1 ∧ Value.int .i64 (j : Int) = .int .i64 (t : Int) ∧ ((F t).x, (F t).y) = (x, y)) := ⟨j, by omega, rfl, by rw [e1, e2]⟩
                    clear hst
                    rw [e1] at z0
                    rw [e2] at z1
                    clear e1 e2 hY hN
                    go_wp2
                    exact ⟨⟨j + 1, by omega, by go_num, .inr HS.out, by trivial⟩, by simp [intOf]; omega⟩
                  · have HS : Hid ((u8 = .int .i64 (-1) ∧ ∀ t, t < j + 1 → ((F t).x, (F t).y) ≠ (x, y)) ∨ ∃ t, t < j + 1 ∧ u8 = .int .i64 (t : Int) ∧ ((F t).x, (F t).y) = (x, y)) := by
                      rcases hst with ⟨h1, h2⟩ | ⟨t, h1, h2, h3⟩
                      · refine .inl ⟨h1, fun t ht => ?_⟩
                        by_cases e : t = j
                        · subst e; intro hh; injection hh with hh1 hh2; exact e2 hh2
                        · exact h2 t (by omega)
                      · exact .inr ⟨t, by omega, h2, h3⟩
                    clear hst
                    rw [e1] at z0
                    obtain ⟨Yj, hYj⟩ : ∃ Yj, (F j).y = Yj := ⟨_, rfl⟩
                    rw [hYj] at z1 e2
                    clear e1 hYj hY hN
                    go_wp2
                    exact ⟨⟨j + 1, by omega, by go_num, HS.out, by trivial⟩, by simp [intOf]; omega⟩
                · have HS : Hid ((u8 = .int .i64 (-1) ∧ ∀ t, t < j + 1 → ((F t).x, (F t).y) ≠ (x, y)) ∨ ∃ t, t < j + 1 ∧ u8 = .int .i64 (t : Int) ∧ ((F t).x, (F t).y) = (x, y)) := by
                    rcases hst with ⟨h1, h2⟩ | ⟨t, h1, h2, h3⟩
                    · refine .inl ⟨h1, fun t ht => ?_⟩
                      by_cases e : t = j
                      · subst e; intro hh; injection hh with hh1 hh2; exact e1 hh1
                      · exact h2 t (by omega)
                    · exact .inr ⟨t, by omega, h2, h3⟩
                  clear hst
                  obtain ⟨Xj, hXj⟩ : ∃ Xj, (F j).x = Xj := ⟨_, rfl⟩
                  rw [hXj] at z0 e1
                  clear hXj hY hN
                  go_wp2
                  exact ⟨⟨j + 1, by omega, by go_num, HS.out, by trivial⟩, by simp [intOf]; omega⟩
              · have hjt' : ¬ (j : Int) < (m : Int) := by omega
                obtain rfl : j = m := by omega
                rcases hst with ⟨rfl, hno⟩ | ⟨t, ht, rfl, hxy⟩
                · have HP := ph_new hPh ha hno hY hN
                  rw [← HQ.out] at HP
                  have HPH : Hid (Ph (pc f n i (k + 1)) (j + 1) (upd F j ⟨x, y, 1⟩)) := HP
                  clear HP hno hPh hY hN HQ
                  obtain ⟨V9, hV9, A9, b10, -⟩ := boxed W2 36 #[.int .i64 x, .int .i64 y, .int .i64 0]
                  have hO10 := own_bel hO2 b10
                  have bW10 := bW2.trans (b10.mono bW2.size)
                  have hb2 : ∀ w, (Instr.buildSlice 33 1 #[(0, .agg #[.int .i64 x, .int .i64 y, .int .i64 0])]).run Try.prog w = .ok (.slice (some ⟨w.heap.size, 0, none⟩) 1 1) (w.alloc (.cells #[.int .i64 x, .int .i64 y, .int .i64 0] 36)) := fun _ => by kernel_rfl
                  obtain ⟨g9, hg9⟩ : ∃ g, W2.heap.size = g := ⟨_, rfl⟩
                  rw [hg9] at A9
                  clear b10 hO2 bW2
                  go_wp2_with (at_builtin; refine wpList_append_own_at _ rfl _ _ _ rfl w.heap.size 36 i0 _ 3 24 Try.underlying33 hi0 hz0 hz1 hz2 rfl (by omega) (.slice (some ⟨gg, 0, none⟩) j cc) j (hC vE F j) rfl hO10 ⟨g9, 0, none⟩ 1 1 (vE ⟨x, y, 0⟩) rfl rfl (newsV (x := ⟨x, y, 0⟩) A9) (vE_one _) (by unfold maxLen; omega) (by omega) bW10.size ?_; intro v2 w6 hown2 hgrow2 hne2 hat2; refine Hid.out (?_ : Hid _))
                  obtain ⟨g7, c7, rfl⟩ : ∃ g7 c7, v2 = .slice (some ⟨g7, 0, none⟩) (j + 1) c7 := by
                    rcases hown2.2 with ⟨_, h2⟩ | ⟨g, c, cur, e, _⟩
                    · omega
                    · exact ⟨g, c, e⟩
                  have hO6 : w6.ownsRow w.heap.size 36 3 (.slice (some ⟨g7, 0, none⟩) (j + 1) c7) (j + 1) (hC vE (upd F j ⟨x, y, 0⟩) (j + 1)) := by
                    rw [hC, upd_at, ← hC_congr (f := F) (fun i hi => (upd_o F _ (by omega)).symm)]; exact hown2
                  have bW6 := bW10.grown hgrow2 bW10.size (fun j hj => (own_ge hO10 hj).1)
                  obtain ⟨z0, z1, z2, k0, k1, k2⟩ := own_readV hO6 (Nat.lt_succ_self j)
                  rw [upd_at] at z0 z1 z2
                  have hO7 := own_inc hO6 (Nat.lt_succ_self j) 1
                  rw [upd_at] at hO7
                  have hff : upd (upd F j ⟨x, y, 0⟩) j ⟨x, y, 1⟩ = upd F j ⟨x, y, 1⟩ := by
                    funext t
                    by_cases e : t = j
                    · rw [e, upd_at, upd_at]
                    · rw [upd_o _ _ e, upd_o _ _ e, upd_o _ _ e]
                  simp only at hO7 z0 z1 z2
                  rw [hff] at hO7
                  have bW7 := bW6.setCell (p := ⟨g7, j * 3 + 2, none⟩) (own_lt hO6).1 (.int .i64 1)
                  obtain ⟨W8, hW8⟩ : ∃ W, w6.setCell ⟨g7, j * 3 + 2, none⟩ (.int .i64 1) = W := ⟨_, rfl⟩
                  rw [hW8] at hO7 bW7
                  have hj2 : IntKind.i64.wrap ((j : Int) + 1 - 1) = (j : Int) := by rw [IntKind.wrap_i64]; omega
                  have hj3 : (j : Int) + 1 - 1 = (j : Int) := by omega
                  clear hown2 hgrow2 hne2 hat2 hO10 bW10 hO6 bW6 A9 hV9 hff hnn hg9 hb2
                  refine (?_ : wpList _ _ _ _ _ _)
                  go_wp2
                  exact ⟨⟨k + 1, j + 1, _, by omega, by omega, by go_num, hO7, (fun h => by cases h), HPH.out, bW7⟩, by simp [intOf]; omega⟩
                · have HP := ph_inc hPh ht hxy hY hN
                  rw [← HQ.out] at HP
                  have hct := hle (x, y)
                  have hc9 := (hPh.at ht).2.1
                  rw [hxy] at hc9
                  have hO7 := own_inc hO2 ht ((F t).c + 1)
                  have hxy1 : (F t).x = x ∧ (F t).y = y := by injection hxy with h1 h2; exact ⟨h1, h2⟩
                  rw [hxy1.1, hxy1.2] at hO7
                  obtain ⟨z0, z1, z2, k0, k1, k2⟩ := own_readV hO2 ht
                  obtain ⟨C, hC9⟩ : ∃ C, (F t).c = C := ⟨_, rfl⟩
                  rw [hC9] at hO7 z2 HP hc9
                  have hCb : 0 ≤ C ∧ C ≤ 1000 := by omega
                  have HPH : Hid (Ph (pc f n i (k + 1)) j (upd F t ⟨x, y, C + 1⟩)) := HP
                  have bW7 := bW2.setCell (p := ⟨gg, t * 3 + 2, none⟩) (own_lt hO2).1 (.int .i64 (C + 1))
                  obtain ⟨W8, hW8⟩ : ∃ W, W2.setCell ⟨gg, t * 3 + 2, none⟩ (.int .i64 (C + 1)) = W := ⟨_, rfl⟩
                  rw [hW8] at hO7 bW7
                  have ht0 : (0 : Int) ≤ (t : Int) ∧ (t : Int) < (j : Int) := by omega
                  have ht1 : ¬ (t : Int) < 0 := by omega
                  clear HP hPh hY hN HQ hO2 bW2 hxy hxy1 hC9 hc9 hct hle z0 z1
                  go_wp2
                  exact ⟨⟨k + 1, j, _, by omega, by omega, by go_num, hO7, hnn, HPH.out, bW7⟩, by simp [intOf]; omega⟩
        · have hkt' : ¬ (k : Int) < (n : Int) := by omega
          obtain rfl : k = n := by omega
          have HP : Hid (Ph (pc f k (i + 1) 0) m F) := by
            have e : pc f k (i + 1) 0 = pc f k i k := funext fun p => pc_row f k i p
            rw [e]; exact hPh
          clear hPh
          go_wp2
          exact ⟨⟨i + 1, m, F, by omega, by omega, by go_num, hO, hnn, HP.out, bW⟩, by simp [intOf]; omega⟩
    · have hlt' : ¬ (i : Int) < (n : Int) := by omega
      obtain rfl : i = n := by omega
      have hPN : Ph (cN i f) m F := by
        have e : pc f i i 0 = cN i f := funext fun p => pc_all f i p
        rw [e] at hPh; exact hPh
      clear hPh
      have hm1000 : m ≤ 1000 := by omega
      go_wp2
      go_loopw [10] (fun s wr => ∃ (a : Nat) (G : Nat → Vt), 1 ≤ a ∧ a ≤ m + 1 ∧ s = .int .i64 (a : Int) ∧ wr.ownsRow w.heap.size 36 3 u3 m (hC vE G m) ∧ (∀ b c, b < c → c < a → c < m → vlt (G b) (G c)) ∧ Rg m F G ∧ Below w.heap.size w wr) (fun s _ => m + 1 - (intOf s).toNat)
      case atStart => exact ⟨1, F, by omega, by omega, rfl, hO, fun b c h1 h2 h3 => by omega, Rg.refl _ _, bW⟩
      case round =>
        clear hO bW
        obtain ⟨a, G, ha1, ha2, rfl, hO, hSrt, hRg, bW⟩ := hrel
        obtain ⟨gg, cc, rfl⟩ : ∃ gg cc, u3 = .slice (some ⟨gg, 0, none⟩) m cc := by
          rcases hO.2 with ⟨e1, -⟩ | ⟨gg, cc, cur, e1, -⟩
          · exact absurd e1 hnn
          · exact ⟨gg, cc, e1⟩
        have hm' : (m : Int) ≤ 1000 := by omega
        by_cases hat : a < m
        · have hat' : (a : Int) < (m : Int) := by omega
          have I0 : Ins G a a := Ins.start fun b c h1 h2 => hSrt b c h1 h2 (by omega)
          clear hSrt
          go_wp2
          go_loopw [11] (fun s wr => ∃ (k : Nat) (G : Nat → Vt), k ≤ a ∧ s = .int .i64 (k : Int) ∧ wr.ownsRow w.heap.size 36 3 (.slice (some ⟨gg, 0, none⟩) m cc) m (hC vE G m) ∧ Ins G a k ∧ Rg m F G ∧ Below w.heap.size w wr) (fun s _ => (intOf s).toNat)
          case atStart => exact ⟨a, G, Nat.le_refl _, rfl, hO, I0, hRg, bW⟩
          case round =>
            clear hO I0 hRg bW
            obtain ⟨k, G, hk, rfl, hO, hI, hRg, bW⟩ := hrel
            by_cases hk0 : k = 0
            · have HS : Hid (∀ b c, b < c → c < a + 1 → c < m → vlt (G b) (G c)) := Hid.out fun b c h1 h2 _ => hI.done hk (.inl hk0) b c h1 h2
              subst hk0
              clear hI
              go_wp2
              exact ⟨⟨a + 1, G, by omega, by omega, by go_num, hO, HS.out, hRg, bW⟩, by simp [intOf]; omega⟩
            · obtain ⟨k1, hk1⟩ : ∃ k1, k = k1 + 1 := ⟨k - 1, by omega⟩
              have hkm : k < m := by omega
              have hk1m : k1 < m := by omega
              have hkp : (0 : Int) < (k : Int) ∧ (k : Int) < (m : Int) := by omega
              have hw1 : IntKind.i64.wrap ((k : Int) - 1) = (k1 : Int) := by rw [IntKind.wrap_i64]; omega
              have hw2 : (k : Int) - 1 = (k1 : Int) := by omega
              have hk1p : (0 : Int) ≤ (k1 : Int) ∧ (k1 : Int) < (m : Int) := by omega
              have hD : Hid (∀ b c, b < c → c < a + 1 → c < m → (vlt (G k1) (G k) → vlt (G b) (G c))) := Hid.out fun b c h1 h2 _ hv => hI.done hk (.inr (by rw [hk1, Nat.add_sub_cancel, ← hk1]; exact hv)) b c h1 h2
              have hStep : Hid (vlt (G k) (G k1) → Ins (sw G k k1) a k1) := Hid.out fun hv => by
                have := hI.step hk (by omega) (by rw [hk1, Nat.add_sub_cancel, ← hk1]; exact hv)
                rwa [show k - 1 = k1 by omega] at this
              have hInj := hRg.1 hPN.1
              have hne : G k ≠ G k1 := fun e => by have := hInj k k1 hkm hk1m e; omega
              have hRs := hRg.trans (rg_sw G hkm hk1m)
              obtain ⟨z0, z1, z2, f0, f1, f2⟩ := own_readV hO hkm
              obtain ⟨P, hP⟩ : ∃ P, G k = P := ⟨_, rfl⟩
              obtain ⟨Q, hQ⟩ : ∃ Q, G k1 = Q := ⟨_, rfl⟩
              rw [hP] at z0 z1 z2
              rw [hP, hQ] at hD hStep hne
              obtain ⟨V1, hV1, a1, b1, -⟩ := boxed wr 36 #[.int .i64 P.x, .int .i64 P.y, .int .i64 P.c]
              obtain ⟨y0, y1, y2, e0, e1, e2⟩ := own_readV (own_bel hO b1) hk1m
              rw [hQ] at y0 y1 y2
              obtain ⟨V2, hV2, a2, b2, -⟩ := boxed V1 36 #[.int .i64 Q.x, .int .i64 Q.y, .int .i64 Q.c]
              have hgl := own_lt hO
              have hggV : gg < V1.heap.size := Nat.lt_of_lt_of_le hgl.2.1 b1.size
              have hO2 := own_bel (own_bel hO b1) b2
              have a1' := a1.below b2
              have bW2 := (bW.trans (b1.mono bW.size)).trans (b2.mono (Nat.le_trans bW.size b1.size))
              have hg1 : gg < wr.heap.size := hgl.2.1
              obtain ⟨x0, x1, x2, -⟩ := a1'.open3
              obtain ⟨r0, r1, r2, -⟩ := a2.open3
              obtain ⟨zz0, zz1, zz2, ff0, ff1, ff2⟩ := own_readV hO2 hkm
              have hO3 := own_putV hO2 hkm Q
              obtain ⟨W3, hW3⟩ : ∃ W, (((V2).setCell ⟨gg, k * 3, none⟩ (.int .i64 (Q).x)).setCell ⟨gg, k * 3 + 1, none⟩ (.int .i64 (Q).y)).setCell ⟨gg, k * 3 + 2, none⟩ (.int .i64 (Q).c) = W := ⟨_, rfl⟩
              rw [hW3] at hO3
              have a13 : At 36 W3 wr.heap.size #[.int .i64 P.x, .int .i64 P.y, .int .i64 P.c] := by rw [← hW3]; exact ((a1'.setOther (by omega) _).setOther (by omega) _).setOther (by omega) _
              obtain ⟨xx0, xx1, xx2, -⟩ := a13.open3
              obtain ⟨yy0, yy1, yy2, ee0, ee1, ee2⟩ := own_readV hO3 hk1m
              have hO4 := own_putV hO3 hk1m P
              have bW3 : Below w.heap.size w W3 := by rw [← hW3]; exact ((bW2.setCell (p := ⟨gg, _, none⟩) hgl.1 _).setCell (p := ⟨gg, _, none⟩) hgl.1 _).setCell (p := ⟨gg, _, none⟩) hgl.1 _
              obtain ⟨W4, hW4⟩ : ∃ W, (((W3).setCell ⟨gg, k1 * 3, none⟩ (.int .i64 (P).x)).setCell ⟨gg, k1 * 3 + 1, none⟩ (.int .i64 (P).y)).setCell ⟨gg, k1 * 3 + 2, none⟩ (.int .i64 (P).c) = W := ⟨_, rfl⟩
              rw [hW4] at hO4
              have bW4 : Below w.heap.size w W4 := by rw [← hW4]; exact ((bW3.setCell (p := ⟨gg, _, none⟩) hgl.1 _).setCell (p := ⟨gg, _, none⟩) hgl.1 _).setCell (p := ⟨gg, _, none⟩) hgl.1 _
              have hsw : upd (upd G k Q) k1 P = sw G k k1 := by rw [← hP, ← hQ]; exact sw_upd G k k1
              rw [hsw] at hO4
              clear hsw hO hO3 a1 a1' a2 a13 b1 b2 bW bW3 hInj hP hQ hI hk1
              obtain ⟨Px, Py, Pc⟩ := P
              obtain ⟨Qx, Qy, Qc⟩ := Q
              simp only at hne x0 x1 x2 r0 r1 r2 xx0 xx1 xx2 z0 z1 z2 y0 y1 y2 hW3 hW4 hV1 hV2
              rcases (by omega : Pc < Qc ∨ (¬ Pc < Qc ∧ Pc = Qc ∧ Qx < Px) ∨ (¬ Pc < Qc ∧ Pc = Qc ∧ ¬ Qx < Px ∧ Px = Qx ∧ Qy < Py) ∨ (¬ Pc < Qc ∧ Pc = Qc ∧ ¬ Qx < Px ∧ Px = Qx ∧ ¬ Qy < Py) ∨ (¬ Pc < Qc ∧ Pc = Qc ∧ ¬ Qx < Px ∧ ¬ Px = Qx) ∨ (¬ Pc < Qc ∧ ¬ Pc = Qc)) with h1 | ⟨h1, rfl, h2⟩ | ⟨h1, rfl, h2, rfl, h3⟩ | ⟨h1, rfl, h2, rfl, h3⟩ | ⟨h1, rfl, h2, h3⟩ | ⟨h1, h2⟩
              · have HS : Hid (∀ b c, b < c → c < a + 1 → c < m → vlt (G b) (G c)) := Hid.out fun b c i1 i2 i3 => hD.out b c i1 i2 i3 (.inl h1)
                clear hD hStep hne hRs hO4 bW4 hW3 hW4
                go_wp2
                exact ⟨⟨a + 1, G, by omega, by omega, by go_num, hO2, HS.out, hRg, bW2⟩, by simp [intOf]; omega⟩
              · have HS : Hid (∀ b c, b < c → c < a + 1 → c < m → vlt (G b) (G c)) := Hid.out fun b c i1 i2 i3 => hD.out b c i1 i2 i3 (.inr ⟨rfl, .inl h2⟩)
                clear hD hStep hne hRs hO4 bW4 hW3 hW4
                go_wp2
                exact ⟨⟨a + 1, G, by omega, by omega, by go_num, hO2, HS.out, hRg, bW2⟩, by simp [intOf]; omega⟩
              · have HS : Hid (∀ b c, b < c → c < a + 1 → c < m → vlt (G b) (G c)) := Hid.out fun b c i1 i2 i3 => hD.out b c i1 i2 i3 (.inr ⟨rfl, .inr ⟨rfl, h3⟩⟩)
                clear hD hStep hne hRs hO4 bW4 hW3 hW4
                go_wp2
                exact ⟨⟨a + 1, G, by omega, by omega, by go_num, hO2, HS.out, hRg, bW2⟩, by simp [intOf]; omega⟩
              · have hyy : ¬ Py = Qy := fun e => hne (by rw [e])
                have HS : Hid (Ins (sw G k k1) a k1) := hStep.out (.inr ⟨rfl, .inr ⟨rfl, by simp only; omega⟩⟩)
                clear hD hStep hne hRg hO2 bW2
                go_wp2
                exact ⟨⟨k1, _, by omega, by go_num, hO4, HS.out, hRs, bW4⟩, by simp [intOf]; omega⟩
              · have HS : Hid (Ins (sw G k k1) a k1) := hStep.out (.inr ⟨rfl, .inl (by simp only; omega)⟩)
                clear hD hStep hne hRg hO2 bW2
                go_wp2
                exact ⟨⟨k1, _, by omega, by go_num, hO4, HS.out, hRs, bW4⟩, by simp [intOf]; omega⟩
              · have HS : Hid (Ins (sw G k k1) a k1) := hStep.out (.inl (by simp only; omega))
                clear hD hStep hne hRg hO2 bW2
                go_wp2
                exact ⟨⟨k1, _, by omega, by go_num, hO4, HS.out, hRs, bW4⟩, by simp [intOf]; omega⟩
        · have hat' : ¬ (a : Int) < (m : Int) := by omega
          have HF : Hid (VoP w i f (.returned (.slice (some ⟨gg, 0, none⟩) m cc)) wr) := ⟨_, m, G, rfl, hO, hnn, .inl ⟨hs, fun b c h1 h2 => hSrt b c h1 (by omega) h2, fun v => (hRg.2 v).trans (hPN.2 v)⟩, hm1000, bW⟩
          clear hO hSrt hRg bW
          go_wp2
          exact bodyPost_ret (v := .slice (some ⟨gg, 0, none⟩) m cc) (by simp [results, Try.results19, go_sem]) rfl HF.out
end Go.Proofs.Ytjlmiadmobbibaa
