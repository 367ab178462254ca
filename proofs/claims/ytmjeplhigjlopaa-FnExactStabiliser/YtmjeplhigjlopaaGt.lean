/-
  The program's least group of generators, walked.
-/
import Derived.Test.YtmjeplhigjlopaaGr
import Derived.Test.YtmjeplhigjlopaaOpU
namespace Go.Proofs.Ytmjeplhigjlopaa
open Go.RowKit

theorem Reach.congr {K : List Value} {n : Nat} {U : Nat → Nat → Int} {x y : Nat → Int} (h : Reach K n U x) (e : kV y = kV x) : Reach K n U y := by
  cases h with
  | base h => exact .base (by rw [e]; exact h)
  | step h1 h2 h3 => exact .step h1 h2 (e.trans h3)
theorem Reach.mono {K K' : List Value} {n n' : Nat} {U U' : Nat → Nat → Int} {x : Nat → Int} (h : Reach K n U x) (hK : ∀ y, kV y ∈ K → Reach K' n' U' y) (hU : ∀ i, i < n → i < n' ∧ U i = U' i) : Reach K' n' U' x := by
  induction h with
  | base h => exact hK _ h
  | step h1 h2 h3 ih => exact .step ih (hU _ h2).1 (by rw [← (hU _ h2).2]; exact h3)
theorem Bad.mono {K K' : List Value} {n : Nat} {U : Nat → Nat → Int} (h : Bad K n U) (hK : ∀ y, kV y ∈ K → Reach K' n U y) : Bad K' n U := by
  have up : ∀ x, Reach K n U x → Reach K' n U x := fun x hx => hx.mono hK (fun i hi => ⟨hi, rfl⟩)
  rcases h with ⟨x, h1, h2⟩ | ⟨ls, h1, h2, h3⟩
  · exact .inl ⟨x, up x h1, h2⟩
  · exact .inr ⟨ls, h1, h2, fun x hx => up x (h3 x hx)⟩
theorem kR_one : kR oneK := by decide
theorem one_mul {x : Nat → Int} (hx : kR x) : kV (mulQ oneK x) = kV x := by
  refine kV_inj.2 (lexC_zero.2 (fun j hj => ?_))
  unfold mulQ cat
  by_cases e : j < 9
  · rw [if_pos e]
    have := (mul_one x j e).2
    rw [← this, mulM_at, mulM_at]
    rcases (by omega : j / 3 = 0 ∨ j / 3 = 1 ∨ j / 3 = 2) with h | h | h <;> rw [h] <;> rfl
  · rw [if_neg e]
    unfold behV
    rw [movV_at]
    have h2 := hx.2.1 (j - 9) (by omega)
    unfold kh at h2 ⊢
    rcases (by omega : j = 9 ∨ j = 10 ∨ j = 11) with rfl | rfl | rfl
    · have : oneK (3 * (9 - 9)) = 1 ∧ oneK (3 * (9 - 9) + 1) = 0 ∧ oneK (3 * (9 - 9) + 2) = 0 ∧ oneK (9 + (9 - 9)) = 0 := by decide
      rw [this.1, this.2.1, this.2.2.1, this.2.2.2]
      simp at h2 ⊢
      omega
    · have : oneK (3 * (10 - 9)) = 0 ∧ oneK (3 * (10 - 9) + 1) = 1 ∧ oneK (3 * (10 - 9) + 2) = 0 ∧ oneK (9 + (10 - 9)) = 0 := by decide
      rw [this.1, this.2.1, this.2.2.1, this.2.2.2]
      simp at h2 ⊢
      omega
    · have : oneK (3 * (11 - 9)) = 0 ∧ oneK (3 * (11 - 9) + 1) = 0 ∧ oneK (3 * (11 - 9) + 2) = 1 ∧ oneK (9 + (11 - 9)) = 0 := by decide
      rw [this.1, this.2.1, this.2.2.1, this.2.2.2]
      simp at h2 ⊢
      omega
/-- What has been made of these. -/
structure MadeG (j : Nat) (F : Nat → Nat → Int) (L ks : List (Nat → Int)) : Prop where
  grows : Grows [kV oneK] L.length (nth L) ks
  closed : ∀ x ∈ ks, ∀ i, i < L.length → kV (mulQ x (nth L i)) ∈ ks.map kV
  of : ∀ u ∈ L, ∃ t, t < j ∧ u = F t
  has : ∀ t, t < j → kV (F t) ∈ ks.map kV
/-- They make no group. -/
def NoG (n : Nat) (F : Nat → Nat → Int) : Prop := ∃ L : List (Nat → Int), (∀ u ∈ L, ∃ t, t < n ∧ u = F t) ∧ Bad [kV oneK] L.length (nth L)
theorem nth_snoc {L : List (Nat → Int)} {g : Nat → Int} {i : Nat} (hi : i < L.length) : nth (L ++ [g]) i = nth L i := by simp [nth, List.getD_eq_getElem?_getD, List.getElem?_append_left hi]
theorem nth_last (L : List (Nat → Int)) (g : Nat → Int) : nth (L ++ [g]) L.length = g := by simp [nth, List.getD_eq_getElem?_getD]
theorem kCells_snoc (L : List (Nat → Int)) (g : Nat → Int) : kCells (nth (L ++ [g])) (L.length + 1) = kCells (nth L) L.length ++ kc g := by
  show kCells _ L.length ++ kc _ = _
  rw [nth_last, kCells_congr (fun i hi j _ => by rw [nth_snoc hi])]
theorem nth_mem {L : List (Nat → Int)} {i : Nat} (hi : i < L.length) : nth L i ∈ L := by
  simp [nth, List.getD_eq_getElem?_getD, hi]
/-- One generator more. -/
theorem MadeG.next {j : Nat} {F : Nat → Nat → Int} {L ks ks' : List (Nat → Int)} (h : MadeG j F L ks) (hR : kR (F j)) (hg : Grows (ks.map kV) (L ++ [F j]).length (nth (L ++ [F j])) ks') (hc : ∀ x ∈ ks', ∀ i, i < (L ++ [F j]).length → kV (mulQ x (nth (L ++ [F j]) i)) ∈ ks'.map kV) : MadeG (j + 1) F (L ++ [F j]) ks' := by
  have hK : ∀ y, kV y ∈ ks.map kV → Reach [kV oneK] (L ++ [F j]).length (nth (L ++ [F j])) y := fun y hy => by
    obtain ⟨z, hz, e⟩ := List.mem_map.1 hy
    refine ((h.grows.reach z hz).mono (fun y hy => .base hy) (fun i hi => ⟨by simp; omega, (nth_snoc hi).symm⟩)).congr e.symm
  refine ⟨⟨hg.right, hg.few, fun x hx => (hg.reach x hx).mono hK (fun i hi => ⟨hi, rfl⟩), fun v hv => hg.has v (h.grows.has v hv)⟩, hc, fun u hu => ?_, fun t ht => ?_⟩
  · rcases List.mem_append.1 hu with hu | hu
    · obtain ⟨t, h1, h2⟩ := h.of u hu; exact ⟨t, by omega, h2⟩
    · exact ⟨j, by omega, List.mem_singleton.1 hu⟩
  · by_cases e : t = j
    · subst e
      obtain ⟨o, ho, eo⟩ := List.mem_map.1 (hg.has _ (h.grows.has (kV oneK) (by simp)))
      have := hc o ho L.length (by simp)
      rw [nth_last, mulQ_congr eo, one_mul hR] at this
      exact this
    · exact hg.has _ (h.has t (by omega))
theorem MadeG.bad {n j : Nat} {F : Nat → Nat → Int} {L ks : List (Nat → Int)} (h : MadeG j F L ks) (hj : j < n) (hb : Bad (ks.map kV) (L ++ [F j]).length (nth (L ++ [F j]))) : NoG n F := by
  refine ⟨L ++ [F j], fun u hu => ?_, hb.mono fun y hy => ?_⟩
  · rcases List.mem_append.1 hu with hu | hu
    · obtain ⟨t, h1, h2⟩ := h.of u hu; exact ⟨t, by omega, h2⟩
    · exact ⟨j, hj, List.mem_singleton.1 hu⟩
  · obtain ⟨z, hz, e⟩ := List.mem_map.1 hy
    refine ((h.grows.reach z hz).mono (fun y hy => .base hy) (fun i hi => ⟨by simp; omega, (nth_snoc hi).symm⟩)).congr e.symm
theorem MapV.ne_own {w : World} {b base n : Nat} {v : Value} {ks : List (Nat → Int)} {F : Nat → Nat → Int} (h : MapV w b ks) (a : Oprs w base v n F) : some b ≠ v.ownBlock := by
  intro e
  obtain ⟨es, cl, h1, -⟩ := h
  rcases a.1.2 with ⟨h2, _⟩ | ⟨g, c', cur, e2, _, h2, _⟩
  · exact a.2 h2
  · subst e2
    simp only [Value.ownBlock, Option.some.injEq] at e
    subst e
    rw [h1] at h2
    cases h2
theorem made0 (F : Nat → Nat → Int) : MadeG 0 F [] [oneK] :=
  ⟨⟨fun x hx => by rw [List.mem_singleton.1 hx]; exact kR_one, by simp, fun x hx => .base (by rw [List.mem_singleton.1 hx]; simp), fun v hv => hv⟩, fun x _ i hi => by simp at hi, fun u hu => (by cases hu), fun t ht => by omega⟩
set_option maxRecDepth 100000 in
set_option maxHeartbeats 2000000 in
theorem closureOf_any {w : World} {base g n c : Nat} {F : Nat → Nat → Int} (hF : Oprs w base (.slice (some ⟨g, 0, none⟩) n c) n F) (hR : ∀ i, i < n → kR (F i)) (hn : n ≤ 192) :
    Calls Try.prog 42 #[.slice (some ⟨g, 0, none⟩) n c] w fun e w' => ((∃ v m G L ks, e = .returned v ∧ Oprs w' w.heap.size v m G ∧ m = ks.length ∧ (ks.map kV).Nodup ∧ (((List.range m).map G).map kV).Perm (ks.map kV) ∧ (∀ i j, i < j → j < m → ¬ lexC 12 (G j) (G i) < 0) ∧ MadeG n F L ks) ∨ (∃ v G, e = .returned v ∧ Oprs w' w.heap.size v 0 G ∧ NoG n F)) ∧ Below w.heap.size w w' := by
  have hn' : (n : Int) ≤ 192 := by omega
  have hbs : ∀ w, (Instr.buildSlice 64 0 #[]).run Try.prog w = .ok (.slice (some ⟨w.heap.size, 0, none⟩) 0 0) (w.alloc (.cells #[] 77)) := fun _ => by kernel_rfl
  obtain ⟨i0, hi0, hz0, hz1, hz2⟩ := info_parts Try.info77
  have hmm := makeMap75 w
  obtain ⟨W1, hW1⟩ : ∃ W, w.alloc (.map #[] 0) = W := ⟨_, rfl⟩
  have hM1 : MapV W1 w.heap.size [] := by rw [← hW1]; exact mapV_new w
  have B1 : Below w.heap.size w W1 := by rw [← hW1]; exact below_alloc _ _
  rw [hW1] at hmm
  clear hW1
  obtain ⟨b, hb⟩ : ∃ b, w.heap.size = b := ⟨_, rfl⟩
  rw [hb] at hmm hM1
  go_enter Try.func42, Try.ntmps42
  go_wp2_with fail
  refine (nothing_any W1).mono ?_
  rintro e w2 ⟨rfl, b2⟩
  have hM2 := hM1.below b2
  obtain ⟨w3, hst, hM3, g3, z3⟩ := hM2.store (k := oneK) (n := 0) (small_R kR_one) (wf_small (by omega)) (by simp) (by simp [maxLen])
  clear z3 hM1 hM2
  have e1 : Value.agg (opA oneF (fun _ => 0)) = kV oneK := rfl
  rw [e1]
  have B3 : Below w.heap.size w w3 := (B1.trans (b2.mono B1.size)).grown g3 (Nat.le_trans B1.size b2.size) (fun k e => by cases e; omega)
  obtain ⟨W4, hW4, a4, b4, z4⟩ := boxed w3 77 #[]
  have hM4 := hM3.below b4
  have B4 : Below w.heap.size w W4 := B3.trans (b4.mono B3.size)
  have o4 : Hid (Oprs W4 w.heap.size (.slice (some ⟨w3.heap.size, 0, none⟩) 0 0) 0 (nth [])) := ⟨⟨rfl, .inr ⟨w3.heap.size, 0, #[], rfl, B3.size, a4, Nat.le_refl _, Nat.zero_le _, rfl, rfl⟩⟩, ne_nil _ _ _⟩
  clear a4 z4 hM3 B1 b2 g3 b4
  go_wp2
  clear hst hmm hW4
  go_loopw [4, 13] (fun v s wr => ∃ j L gu cu ks, j ≤ n ∧ s = .int .i64 (j : Nat) ∧ v = .slice (some ⟨gu, 0, none⟩) L.length cu ∧ Hid (Oprs wr w.heap.size (.slice (some ⟨gu, 0, none⟩) L.length cu) L.length (nth L)) ∧ L.length ≤ j ∧ MapV wr b ks ∧ MadeG j F L ks ∧ Below w.heap.size w wr) (fun _ s _ => n - (intOf s).toNat)
  case atStart => exact ⟨0, [], _, _, [oneK], Nat.zero_le _, rfl, rfl, o4, Nat.le_refl _, hM4, made0 F, B4⟩
  case round =>
    clear o4 hM4 B4 B3
    obtain ⟨j, L, gu, cu, ks, hj, rfl, rfl, hU, hLj, hM, hMd, B⟩ := hrel
    by_cases hlt : j < n
    · have hlt' : (j : Int) < (n : Int) := by omega
      have hF1 := hF.below B
      obtain ⟨e0, e1, e2, e3, e4, e5, e6, e7, e8, e9, e10, e11⟩ := hF1.open j hlt
      obtain ⟨W2, hW2, a2, b2, -⟩ := boxed wr 77 (kc (F j)).toArray
      obtain ⟨p2, hp2⟩ : ∃ p, wr.heap.size = p := ⟨_, rfl⟩
      rw [hp2] at a2
      obtain ⟨f0, f1, f2, f3, f4, f5, f6, f7, f8, f9, f10, f11⟩ := At.openk (x := F j) a2
      have hM2 := hM.below b2
      have hU2 : Hid (Oprs W2 w.heap.size (.slice (some ⟨gu, 0, none⟩) L.length cu) L.length (nth L)) := hU.out.below b2
      have B2 := B.trans (b2.mono B.size)
      clear hM hU B b2
      unfold kc at hW2
      go_wp2_with fail
      refine (have_any hM2 (small_R (hR j hlt))).mono ?_
      rintro e w3 ⟨⟨r, rfl, hr⟩, b3⟩
      clear e0 e1 e2 e3 e4 e5 e6 e7 e8 e9 e10 e11 f0 f1 f2 f3 f4 f5 f6 f7 f8 f9 f10 f11 hW2
      have hM3 := hM2.below b3
      have hU3 : Hid (Oprs w3 w.heap.size (.slice (some ⟨gu, 0, none⟩) L.length cu) L.length (nth L)) := hU2.out.below b3
      have B3 := B2.trans (b3.mono B2.size)
      have a3 := a2.below b3
      clear hM2 hU2 B2 b3 a2
      cases r
      · obtain ⟨W4, hW4, a4, b4, z4⟩ := boxed w3 77 (kc (F j)).toArray
        obtain ⟨p4, hp4⟩ : ∃ p, w3.heap.size = p := ⟨_, rfl⟩
        rw [hp4] at a4
        obtain ⟨f0, f1, f2, f3, f4, f5, f6, f7, f8, f9, f10, f11⟩ := At.openk (x := F j) a3
        have hM4 := hM3.below b4
        have hU4 : Hid (Oprs W4 w.heap.size (.slice (some ⟨gu, 0, none⟩) L.length cu) L.length (nth L)) := hU3.out.below b4
        have B4 := B3.trans (b4.mono B3.size)
        have hm1 : L.length + 1 ≤ maxLen := by unfold maxLen; omega
        have hm2 : (L.length + 1) * 96 ≤ 140737488355328 := by omega
        clear hM3 hU3 B3 b4 a3 z4
        unfold kc at hW4
        go_wp2_with (at_builtin; refine Hid.out (?_ : Hid _))
        refine (?_ : wpList _ _ _ _ _ _)
        refine wpList_append_own_at _ rfl _ _ _ rfl w.heap.size 77 i0 _ 12 96 Try.underlying64 hi0 hz0 hz1 hz2 rfl (by omega) (.slice (some ⟨gu, 0, none⟩) L.length cu) L.length (kCells (nth L) L.length) rfl hU4.out.1 ⟨p4, 0, none⟩ 1 1 (kc (F j)) rfl rfl (cell12_new W4 p4 (F j) a4) (kc_one _) hm1 hm2 B4.size ?_
        intro v5 w5 hown5 hgrow5 hne5 _
        have hU5 : Oprs w5 w.heap.size v5 (L ++ [F j]).length (nth (L ++ [F j])) := by
          refine ⟨?_, fun e => by have := (hne5.1 e).2; omega⟩
          rw [List.length_append, List.length_singleton, kCells_snoc]
          exact hown5
        have hM5 : MapV w5 b ks := hM4.of_block (hgrow5.block b hM4.lt (hM4.ne_own hU4.out))
        have B5 : Below w.heap.size w w5 := B4.grown hgrow5 B4.size (fun x hx => ownBlock_ge hU4.out.1 hx)
        obtain ⟨L1, hL1⟩ : ∃ l, L ++ [F j] = l := ⟨_, rfl⟩
        rw [hL1] at hU5
        obtain ⟨g5, c5, rfl, -⟩ := Que.of_oprs hU5
        clear hown5 hgrow5 hne5 hM4 hU4 B4 a4 f0 f1 f2 f3 f4 f5 f6 f7 f8 f9 f10 f11 hW4
        have hLl : L1.length = L.length + 1 := by rw [← hL1]; simp
        have hL2 : L1.length ≤ 192 := by omega
        have hLR : ∀ i, i < L1.length → kR (nth L1 i) := fun i hi => by
          rw [← hL1] at hi ⊢
          rcases List.mem_append.1 (nth_mem hi) with h | h
          · obtain ⟨t, ht, e⟩ := hMd.of _ h; rw [e]; exact hR t (by omega)
          · rw [List.mem_singleton.1 h]; exact hR j hlt
        have hkne : ks ≠ [] := fun e => by have := hMd.grows.has (kV oneK) (by simp); rw [e] at this; cases this
        have hLl' : Hid (L1.length = L.length + 1) := hLl
        have hL1' : Hid (L ++ [F j] = L1) := hL1
        clear hLl hL1
        go_wp2_with fail
        refine (growBy_any hM5 hkne hMd.grows.right hMd.grows.few hU5 hLR hL2).mono ?_
        rintro e w6 ⟨hor, g6⟩
        have B6 : Below w.heap.size w w6 := B5.grown g6 B5.size (fun k e => by cases e; omega)
        rcases hor with ⟨rfl, ks6, hM6, hG6, hC6⟩ | ⟨rfl, hbad⟩
        · have hU6 : Hid (Oprs w6 w.heap.size (.slice (some ⟨g5, 0, none⟩) L1.length c5) L1.length (nth L1)) := ⟨hU5.1.kept g6 (.inr (fun e => hM5.ne_own hU5 e.symm)), hU5.2⟩
          have hMd6 : MadeG (j + 1) F L1 ks6 := by
            have e := hL1'.out
            subst e
            exact hMd.next (hR j hlt) hG6 hC6
          clear hU5 hM5 B5 g6 hG6 hC6
          go_wp2
          exact ⟨⟨j + 1, L1, g5, c5, ks6, by omega, by go_num, rfl, hU6, by have := hLl'.out; omega, hM6, hMd6, B6⟩, by simp [intOf]; omega⟩
        · have hno : NoG n F := by
            have e := hL1'.out
            subst e
            exact hMd.bad hlt hbad
          obtain ⟨W7, hW7, a7, b7, z7⟩ := boxed w6 77 #[]
          have o7 : Hid (Oprs W7 w.heap.size (.slice (some ⟨w6.heap.size, 0, none⟩) 0 0) 0 (nth [])) := ⟨⟨rfl, .inr ⟨w6.heap.size, 0, #[], rfl, B6.size, a7, Nat.le_refl _, Nat.zero_le _, rfl, rfl⟩⟩, ne_nil _ _ _⟩
          clear hU5 hM5 B5 g6 a7 z7
          go_wp2
          go_ret
          have o8 := o7.out
          have B8 := B6.trans (b7.mono B6.size)
          rw [hb] at o8 B8
          first | exact ⟨.inr ⟨_, rfl, _, o8, hno⟩, B8⟩ | exact ⟨.inr ⟨_, rfl, _, o8⟩, B8⟩
      · have hin : kV (F j) ∈ ks.map kV := hr.1 rfl
        have hMd2 : MadeG (j + 1) F L ks := ⟨hMd.grows, hMd.closed, fun u hu => by obtain ⟨t, h1, h2⟩ := hMd.of u hu; exact ⟨t, by omega, h2⟩, fun t ht => by
          by_cases e : t = j
          · rw [e]; exact hin
          · exact hMd.has t (by omega)⟩
        go_wp2
        exact ⟨⟨j + 1, L, gu, cu, ks, by omega, by go_num, rfl, hU3, by omega, hM3, hMd2, B3⟩, by simp [intOf]; omega⟩
    · obtain rfl : j = n := by omega
      have hkne : ks ≠ [] := fun e => by have := hMd.grows.has (kV oneK) (by simp); rw [e] at this; cases this
      have hfew := hMd.grows.few
      go_wp2_with fail
      refine (sorted_any hM (fun k hk => small_R (hMd.grows.right k hk)) hkne (by omega)).mono ?_
      rintro e w5 ⟨v, G, rfl, hG, hp, hs, b5⟩
      go_wp2
      go_ret
      have B8 := B.trans (b5.mono B.size)
      rw [hb] at B8
      refine ⟨.inl ⟨v, rfl, ks.length, G, ⟨ownsRow_base_a hG.1 (by have := B.size; omega), hG.2⟩, L, ks, rfl, hM.nodup, by simpa using hp, hs, hMd⟩, B8⟩
end Go.Proofs.Ytmjeplhigjlopaa
