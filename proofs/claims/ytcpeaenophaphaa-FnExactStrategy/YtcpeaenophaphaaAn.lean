/-
  Strategy by the specification: the best of all plans, tried one after another.
-/
import Derived.Test.YtcpeaenophaphaaAj
import Derived.Test.YtcpeaenophaphaaAm
namespace Go.Proofs.Ytcpeaenophaphaa
open Go.RowKit

/-- Which is the less where they first differ. -/
def Lx (f h : Nat → Int) (n : Nat) : Prop := ∃ k, k < n ∧ (∀ i, i < k → f i = h i) ∧ f k < h k
set_option maxHeartbeats 4000000 in
theorem l3Compare_any {w : World} {g1 g2 n c1 c2 : Nat} {f h : Nat → Int} (h1 : Ints w g1 0 n f) (h2 : Ints w g2 0 n h) (l1 : g1 < w.heap.size) (l2 : g2 < w.heap.size) (hn : n ≤ 1000) :
    Calls Try.prog 36 #[.slice (some ⟨g1, 0, none⟩) n c1, .slice (some ⟨g2, 0, none⟩) n c2] w fun e w' => ∃ r : Int, e = .returned (.int .i64 r) ∧ (r < 0 ↔ Lx f h n) ∧ Below w.heap.size w w' := by
  have hn' : (n : Int) ≤ 1000 := by omega
  go_enter Try.func36, Try.ntmps36
  go_wp2
  go_loopw [5] (fun s wr => ∃ k : Nat, k ≤ n ∧ s = .int .i64 k ∧ (∀ i, i < k → f i = h i) ∧ Below w.heap.size w wr) (fun s _ => n - (intOf s).toNat)
  case atStart => exact ⟨0, Nat.zero_le _, rfl, fun i hi => by omega, Below.refl _ _⟩
  case round =>
    obtain ⟨k, hk, rfl, hEq, bW⟩ := hrel
    by_cases hlt : k < n
    · have hlt' : (k : Int) < (n : Int) := by omega
      have hk0 : (0 : Int) ≤ (k : Int) := by omega
      have a0 := (bW.cell (p := ⟨g1, 0 + k, none⟩) l1).trans (h1 k hlt)
      have a2 := (bW.cell (p := ⟨g2, 0 + k, none⟩) l2).trans (h2 k hlt)
      rw [Nat.zero_add] at a0 a2
      have HY : f k < h k → Lx f h n := fun hh => ⟨k, hlt, hEq, hh⟩
      have HN : h k < f k → ¬ Lx f h n := fun hh ⟨j, hj, hje, hjl⟩ => by
        rcases Nat.lt_trichotomy j k with e | e | e
        · have := hEq j e; omega
        · subst e; omega
        · have := hje k e; omega
      have HE : f k = h k → ∀ i, i < k + 1 → f i = h i := fun hh i hi => by
        by_cases e : i = k
        · subst e; exact hh
        · exact hEq i (by omega)
      obtain ⟨X, hX⟩ : ∃ X, f k = X := ⟨_, rfl⟩
      obtain ⟨Y, hY⟩ : ∃ Y, h k = Y := ⟨_, rfl⟩
      rw [hX] at a0 HY HN HE
      rw [hY] at a2 HY HN HE
      clear hX hY hEq
      rcases (by omega : X < Y ∨ (¬ X < Y ∧ Y < X) ∨ (¬ X < Y ∧ ¬ Y < X ∧ X = Y)) with h3 | ⟨h3, h4⟩ | ⟨h3, h4, rfl⟩
      · have HZ : Hid (Lx f h n) := HY h3
        clear HY HN HE
        go_upto_region 4 with (fail)
        go_region
        go_wp2
        go_ret
        exact ⟨_, rfl, ⟨fun _ => HZ.out, fun _ => by omega⟩, bW.drew⟩
      · have HZ : Hid (¬ Lx f h n) := HN h4
        clear HY HN HE
        go_upto_region 4 with (fail)
        go_region
        go_upto_region 6 with (fail)
        go_region
        go_wp2
        go_ret
        exact ⟨_, rfl, ⟨fun hh => by omega, fun hh => absurd hh HZ.out⟩, bW.drew.drew⟩
      · have HZ : Hid (∀ i, i < k + 1 → f i = h i) := HE rfl
        clear HY HN HE
        go_upto_region 4 with (fail)
        go_region
        go_upto_region 6 with (fail)
        go_region
        go_wp2
        exact ⟨⟨k + 1, by omega, by go_num, HZ.out, bW.drew.drew⟩, by simp [intOf]; omega⟩
    · have hlt' : ¬ (k : Int) < (n : Int) := by omega
      obtain rfl : k = n := by omega
      have HZ : Hid (¬ Lx f h k) := Hid.out fun ⟨j, hj, hje, hjl⟩ => by have := hEq j hj; omega
      clear hEq
      go_wp2
      go_ret
      exact ⟨_, rfl, ⟨fun hh => by omega, fun hh => absurd hh HZ.out⟩, bW⟩

theorem own_downA {w : World} {B B' : Nat} {e : TypeId} {k : Nat} {v : Value} {n : Nat} {xs : List Value} (h : w.ownsRow B e k v n xs) (hB : B' ≤ B) : w.ownsRow B' e k v n xs := by
  refine ⟨h.1, h.2.imp id ?_⟩
  rintro ⟨g, cap, cur, rfl, h1, h2⟩
  exact ⟨g, cap, cur, rfl, Nat.le_trans hB h1, h2⟩
theorem Gat.rebase {w w1 w2 : World} {B : Nat} {t : TypeId} {e : Nat} {v : Value} {m : Nat} {l : List Int} (s : Gat w1 w2 B t e v m l) (hb : Below w.heap.size w w1) : Gat w w2 w.heap.size t e v m l :=
  ⟨own_downA s.own (Nat.le_trans hb.size s.o2), s.nn, hb.trans (s.b.mono hb.size), Nat.le_refl _, Nat.le_trans hb.size s.b.size⟩
theorem Gat.intsA {w0 w : World} {B : Nat} {t : TypeId} {v : Value} {m : Nat} {l : List Int} (s : Gat w0 w B t 1 v m l) : ∃ g c, v = .slice (some ⟨g, 0, none⟩) m c ∧ g < w.heap.size ∧ Ints w g 0 m (fun i => l.getD i 0) ∧ Src w (some ⟨g, 0, none⟩) m (fun i => l.getD i 0) := by
  obtain ⟨g, c, e, h1, h2, h3, h4⟩ := s.open
  have hl := s.len
  have hi : Ints w g 0 m (fun i => l.getD i 0) := fun i hi => by rw [Nat.zero_add]; exact h4 i (by omega)
  exact ⟨g, c, e, h3, hi, .inr ⟨g, 0, rfl, h3, hi⟩⟩
theorem toI_len (l : List Nat) : (toI l).length = l.length := by simp [toI]
theorem toI_add (l : List Nat) (k : Nat) : toI (l ++ [k]) = toI l ++ [(k : Int)] := by simp [toI]
theorem toI_at {l : List Nat} {i : Nat} (h : i < l.length) : (toI l).getD i 0 = ((l.getD i 0 : Nat) : Int) := by simp [toI, h]
theorem lx_cons {a b : Nat} {s t : List Nat} {n : Nat} : Lx (fun i => (toI (a :: s)).getD i 0) (fun i => (toI (b :: t)).getD i 0) (n + 1) ↔ (a < b ∨ (a = b ∧ Lx (fun i => (toI s).getD i 0) (fun i => (toI t).getD i 0) n)) := by
  constructor
  · rintro ⟨k, hk, h1, h2⟩
    cases k with
    | zero => exact .inl (by simpa [toI] using h2)
    | succ k =>
      have e := h1 0 (by omega)
      have e' : (a : Int) = (b : Int) := by simpa [toI] using e
      refine .inr ⟨by omega, k, by omega, fun i hi => ?_, by simpa [toI] using h2⟩
      simpa [toI] using h1 (i + 1) (by omega)
  · rintro (h | ⟨rfl, k, hk, h1, h2⟩)
    · exact ⟨0, by omega, fun i hi => by omega, by simpa [toI] using h⟩
    · refine ⟨k + 1, by omega, fun i hi => ?_, by simpa [toI] using h2⟩
      cases i with
      | zero => rfl
      | succ i => simpa [toI] using h1 i (by omega)
theorem lx_lxl : ∀ (s t : List Nat), s.length = t.length → (Lx (fun i => (toI s).getD i 0) (fun i => (toI t).getD i 0) s.length ↔ lxl s t)
  | [], [], _ => ⟨fun ⟨k, hk, _⟩ => by simp at hk, fun h => h.elim⟩
  | [], _ :: _, h => by simp at h
  | _ :: _, [], h => by simp at h
  | a :: s, b :: t, h => by
    rw [List.length_cons, lx_cons, lx_lxl s t (by simpa using h)]
    exact Iff.rfl
/-- A plan shows all that is shown. -/
def Cov (N : Nat) (n : Nat → Nat) (f : Nat → Nat → Int) (l : List Nat) : Prop := StOk N n f l.length (fun i => (toI l).getD i 0)
theorem range_rsg (N : Nat) : rsg N (List.range N) := ⟨List.pairwise_lt_range, fun _ h => List.mem_range.1 h⟩
theorem range_cov {N : Nat} {n : Nat → Nat} {f : Nat → Nat → Int} (h : ExOk N n f) : Cov N n f (List.range N) := by
  have e : ∀ i, i < N → (toI (List.range N)).getD i 0 = (i : Int) := fun i hi => by simp [toI, hi]
  unfold Cov
  rw [List.length_range]
  refine ⟨h, ⟨fun j hj => by simp only [e j hj]; omega, fun j hj => by simp only [e j (by omega), e (j + 1) hj]; omega⟩, fun r hr => ⟨?_, ?_⟩⟩
  · rintro ⟨j, hj, h1⟩
    simp only [e j hj, Int.toNat_natCast] at h1
    exact ⟨j, hj, h1⟩
  · rintro ⟨i, hi, h1⟩
    refine ⟨i, hi, ?_⟩
    simp only [e i hi, Int.toNat_natCast]
    exact h1
/-- What Strategy tells: the best plan, or none. -/
def StgP (w : World) (N : Nat) (n : Nat → Nat) (f : Nat → Nat → Int) (e : Ending) (w' : World) : Prop := ∃ B, ((ExOk N n f ∧ BestP N (Cov N n f) B) ∨ (¬ ExOk N n f ∧ B = [])) ∧ LtP w B e w'
theorem pow12 {N : Nat} (h : N ≤ 12) : 2 ^ N ≤ 4096 := Nat.le_trans (Nat.pow_le_pow_right (by omega) h) (by decide)
set_option maxRecDepth 100000 in
set_option maxHeartbeats 8000000 in
theorem specStrategy_any {w : World} {b N cap : Nat} {a : Nat → Option Addr} {c : Nat → Nat} {n : Nat → Nat} {f : Nat → Nat → Int} (hS : Lli w b 0 N a c n f) (hN : N ≤ 1048576) (hn : ∀ i, i < N → n i ≤ 1048576) :
    Calls Try.prog 11 #[.slice (some ⟨b, 0, none⟩) N cap] w (StgP w N n f) := by
  obtain ⟨i0, hi0, hz0, hz1, hz2⟩ := info_parts infoI
  have hbs : ∀ w, (Instr.buildSlice 25 0 #[]).run Try.prog w = .ok (.slice (some ⟨w.heap.size, 0, none⟩) 0 0) (w.alloc (.cells #[] 2)) := fun _ => by kernel_rfl
  go_enter Try.func11, Try.ntmps11
  go_wp2_with fail
  refine (specAll_any (some ⟨b, 0, none⟩) N cap hN).mono ?_
  rintro e w1 ⟨v1, rfl, R⟩
  go_wp2_with fail
  refine (specExposures_any (hS.below R.b) hN hn).mono ?_
  rintro e w2 ⟨rfl, bb⟩
  replace R := R.below bb
  clear bb
  by_cases hx : ExOk N n f
  case neg =>
    rw [exB_no hx]
    obtain ⟨V, hV, A0, B, -⟩ := boxed w2 2 #[]
    have R2 : Gat w2 V w2.heap.size 2 1 (.slice (some ⟨w2.heap.size, 0, none⟩) 0 0) 0 [] := Gat.start A0 B
    have R3 := R2.rebase R.b
    go_wp2
    exact bodyPost_ret (v := .slice (some ⟨w2.heap.size, 0, none⟩) 0 0) (by simp [results, Try.results11, go_sem]) rfl ⟨[], .inr ⟨hx, rfl⟩, Gat.told R3⟩
  rw [exB_yes hx]
  have h12 := hx.1
  have h12' : (N : Int) ≤ 12 := by omega
  have hP := pow12 h12
  obtain ⟨Z, hZ⟩ : ∃ Z : Nat, 2 ^ N = Z := ⟨_, rfl⟩
  rw [hZ] at hP
  have HZ : Hid (2 ^ N = Z) := hZ
  have hP' : (Z : Int) ≤ 4096 := by omega
  have HB0 : Hid (BestT N (Cov N n f) 0 (List.range N)) := BestT.start (range_rsg N) (range_cov hx)
  replace R : Gat w w2 w.heap.size 2 1 v1 (List.range N).length (toI (List.range N)) := by rw [List.length_range]; exact R
  clear hZ
  go_wp2
  go_loopw [3, 4] (fun s z wr => ∃ (t : Nat) (L : List Nat), t ≤ Z ∧ BestT N (Cov N n f) t L ∧ z = .int .i64 (t : Int) ∧ Gat w wr w.heap.size 2 1 s L.length (toI L)) (fun _ z _ => Z - (intOf z).toNat)
  case atStart => exact ⟨0, List.range N, Nat.zero_le _, HB0.out, rfl, R⟩
  case round =>
    clear R HB0
    obtain ⟨t, L, ht, hT, rfl, R⟩ := hrel
    have HT : Hid (BestT N (Cov N n f) t L) := hT
    clear hT
    obtain ⟨q3, hq3⟩ : ∃ q, L.length = q := ⟨_, rfl⟩
    have HQ : Hid (L.length = q3) := hq3
    rw [hq3] at R
    clear hq3
    obtain ⟨g3, c3, hu3, -⟩ := R.open
    subst hu3
    go_wp2_with fail
    refine (two_any N (by omega) _).mono ?_
    rintro e w3 ⟨rfl, bb⟩
    replace R := R.below bb
    rw [HZ.out]
    clear bb
    by_cases hlt : t < Z
    · have hlt' : (t : Int) < (Z : Int) := by omega
      obtain ⟨V5, hV5, A5, bb, -⟩ := boxed w3 2 #[]
      have R5 : Gat w3 V5 w3.heap.size 2 1 (.slice (some ⟨w3.heap.size, 0, none⟩) 0 0) 0 [] := Gat.start A5 bb
      have R0 := R
      go_wp2
      clear hV5 A5 bb
      go_loopw [5, 6] (fun s z wr => ∃ (k m : Nat) (l : List Nat), k ≤ N ∧ mk t k = l ∧ l.length = m ∧ z = .int .i64 (k : Int) ∧ Gat w3 wr w3.heap.size 2 1 s m (toI l)) (fun _ z _ => N - (intOf z).toNat)
      case atStart => exact ⟨0, 0, [], Nat.zero_le _, rfl, rfl, rfl, R5⟩
      case round =>
        clear R5
        obtain ⟨k, m, l, hk, hl, hm, rfl, R5⟩ := hrel
        have hmk : m ≤ k := by rw [← hm, ← hl]; exact mk_len t k
        have HL : Hid (mk t k = l) := hl
        have HM : Hid (l.length = m) := hm
        clear hl hm
        by_cases hkt : k < N
        · have hkt' : (k : Int) < (N : Int) := by omega
          go_wp2_with fail
          refine (two_any k (by omega) _).mono ?_
          rintro e w6 ⟨rfl, bb⟩
          replace R5 := R5.below bb
          clear bb
          have p1 := pow12 (show k ≤ 12 by omega)
          have p2 : 0 < 2 ^ k := Nat.two_pow_pos k
          have hbit : (mk t (k + 1) = if t / 2 ^ k % 2 = 1 then l ++ [k] else l) := by rw [mk, HL.out]
          obtain ⟨Q, hQ⟩ : ∃ Q, t / 2 ^ k = Q := ⟨_, rfl⟩
          have hQt : Q ≤ t := by rw [← hQ]; exact Nat.div_le_self _ _
          have hQ1 : Int.tdiv (t : Int) ((2 ^ k : Nat) : Int) = (Q : Int) := by rw [← hQ]; exact (Int.ofNat_tdiv _ _).symm
          have hQ2 : (t : Int) / ((2 ^ k : Nat) : Int) = (Q : Int) := by rw [← hQ]; exact (Int.natCast_ediv _ _).symm
          rw [hQ] at hbit
          generalize 2 ^ k = P at *
          have p1' : (P : Int) ≤ 4096 := by omega
          have p2' : ¬ (P : Int) = 0 := by omega
          have hQb : (Q : Int) ≤ 4096 := by omega
          clear hQ
          by_cases hb : Q % 2 = 1
          · have e1 : (Q : Int) % 2 = 1 := by omega
            have e2 : Int.tmod (Q : Int) 2 = 1 := by rw [Int.tmod_eq_emod_of_nonneg (by omega)]; exact e1
            rw [if_pos hb] at hbit
            have HK : Hid (mk t (k + 1) = l ++ [k]) := hbit
            obtain ⟨V9, hV9, A9, b10, -⟩ := boxed w6 2 #[.int .i64 (k : Int)]
            have R9 := R5.below b10
            obtain ⟨g9, hg9⟩ : ∃ g, w6.heap.size = g := ⟨_, rfl⟩
            rw [hg9] at A9
            have hb2 : ∀ w, (Instr.buildSlice 25 1 #[(0, .int .i64 (k : Int))]).run Try.prog w = .ok (.slice (some ⟨w.heap.size, 0, none⟩) 1 1) (w.alloc (.cells #[.int .i64 (k : Int)] 2)) := fun _ => by kernel_rfl
            clear b10 hbit hb
            go_wp2_with (at_builtin; refine wpList_append_own _ rfl _ _ _ rfl w3.heap.size 2 i0 _ 1 8 Try.underlying25 hi0 hz0 hz1 hz2 rfl (by omega) u5 m (lCells (toI l)) rfl R9.own ⟨g9, 0, none⟩ 1 1 (lCells [(k : Int)]) rfl rfl (news1 A9) (lCells_one _) (by unfold maxLen; omega) (by omega) R9.o3 ?_; intro v2 w4 hown2 hgrow2 hne2)
            have R2 := R9.grow hown2 hgrow2 (fun h => R9.nn (hne2.1 h).1)
            refine ⟨⟨k + 1, m + 1, l ++ [k], by omega, HK.out, by rw [List.length_append, HM.out]; rfl, by go_num, ?_⟩, by simp [intOf]; omega⟩
            rw [toI_add]
            exact R2
          · have e1 : (Q : Int) % 2 = 0 := by omega
            have e2 : Int.tmod (Q : Int) 2 = 0 := by rw [Int.tmod_eq_emod_of_nonneg (by omega)]; exact e1
            rw [if_neg hb] at hbit
            have HK : Hid (mk t (k + 1) = l) := hbit
            clear hbit hb
            go_wp2
            exact ⟨⟨k + 1, m, l, by omega, HK.out, HM.out, by go_num, R5⟩, by simp [intOf]; omega⟩
        · obtain rfl : N = k := by omega
          have R := R0.below (Below.mono R5.b (Nat.le_refl _))
          have RR := R5.rebase R0.b
          clear R0
          obtain ⟨g5, c5, hu5, l5, I5, S5⟩ := R5.intsA
          subst hu5
          obtain ⟨g3', c3', hu3', l3, I3, -⟩ := R.intsA
          simp only [Value.slice.injEq, Option.some.injEq, Addr.mk.injEq] at hu3'
          obtain ⟨⟨hg3, -, -⟩, -, -⟩ := hu3'
          subst hg3
          clear R5
          have hm' : (m : Int) ≤ 12 := by omega
          have hqN : q3 ≤ N := by
            obtain ⟨M, -, e⟩ := mk_onto N L HT.out.1
            rw [← HQ.out, ← e]
            exact mk_len M N
          have hq' : (q3 : Int) ≤ 12 := by omega
          by_cases c1 : q3 < m
          · have c1' : (q3 : Int) < (m : Int) := by omega
            have HS : Hid (BestT N (Cov N n f) (t + 1) L) := HT.out.stay (fun h => by
              have h1 := h.2
              rw [HL.out] at h1
              rcases h1 with h1 | ⟨h1, -⟩ <;> rw [HM.out, HQ.out] at h1 <;> omega)
            go_wp2
            exact ⟨⟨t + 1, L, by omega, HS.out, by go_num, by rw [HQ.out]; exact R⟩, by simp [intOf]; omega⟩
          have c1' : ¬ (q3 : Int) < (m : Int) := by omega
          by_cases c2 : m = q3
          · subst c2
            go_wp2_with fail
            refine (l3Compare_any I5 I3 l5 l3 (by omega)).mono ?_
            rintro e w7 ⟨r, rfl, hr, bb⟩
            replace R := R.below bb
            replace RR := RR.below bb
            replace S5 := S5.below bb
            have e0 : l.length = L.length := HM.out.trans HQ.out.symm
            have hr' : r < 0 ↔ lxl l L := by
              have h1 := lx_lxl l L e0
              rw [HM.out] at h1
              exact hr.trans h1
            have hpl : plt l L ↔ r < 0 := by
              rw [hr']
              exact ⟨fun h => h.elim (fun h => by omega) (fun h => h.2), fun h => .inr ⟨e0, h⟩⟩
            clear bb hr hr' I5 I3 l5 l3 e0
            by_cases c3 : r < 0
            · have HPL : Hid (plt l L) := hpl.2 c3
              clear hpl
              go_wp2_with fail
              refine (specStrategyOk_any (hS.below RR.b) hN hn S5 (by omega)).mono ?_
              rintro e w8 ⟨rfl, bb⟩
              replace R := R.below bb
              replace RR := RR.below bb
              clear bb S5
              by_cases ho : Cov N n f l
              · have e9 : stB N n f m (fun i => (toI l).getD i 0) = true := by rw [← HM.out]; exact stB_yes ho
                rw [e9]
                have HS : Hid (BestT N (Cov N n f) (t + 1) l) := by
                  have h1 := HT.out.take (by rw [HL.out]; exact ho) (by rw [HL.out]; exact HPL.out)
                  rw [HL.out] at h1
                  exact h1
                clear e9 ho
                go_wp2
                exact ⟨⟨t + 1, l, by omega, HS.out, by go_num, by rw [HM.out]; exact RR⟩, by simp [intOf]; omega⟩
              · have e9 : stB N n f m (fun i => (toI l).getD i 0) = false := by rw [← HM.out]; exact stB_no ho
                rw [e9]
                have HS : Hid (BestT N (Cov N n f) (t + 1) L) := HT.out.stay (fun h => ho (by have h1 := h.1; rw [HL.out] at h1; exact h1))
                clear e9 ho
                go_wp2
                exact ⟨⟨t + 1, L, by omega, HS.out, by go_num, by rw [HQ.out]; exact R⟩, by simp [intOf]; omega⟩
            · have HS : Hid (BestT N (Cov N n f) (t + 1) L) := HT.out.stay (fun h => c3 (hpl.1 (by have h1 := h.2; rw [HL.out] at h1; exact h1)))
              clear hpl
              go_wp2
              exact ⟨⟨t + 1, L, by omega, HS.out, by go_num, by rw [HQ.out]; exact R⟩, by simp [intOf]; omega⟩
          · have c2' : ¬ (m : Int) = (q3 : Int) := by omega
            have HPL : Hid (plt l L) := .inl (by rw [HM.out, HQ.out]; omega)
            clear I5 I3 l5 l3
            go_wp2_with fail
            refine (specStrategyOk_any (hS.below RR.b) hN hn S5 (by omega)).mono ?_
            rintro e w8 ⟨rfl, bb⟩
            replace R := R.below bb
            replace RR := RR.below bb
            clear bb S5
            by_cases ho : Cov N n f l
            · have e9 : stB N n f m (fun i => (toI l).getD i 0) = true := by rw [← HM.out]; exact stB_yes ho
              rw [e9]
              have HS : Hid (BestT N (Cov N n f) (t + 1) l) := by
                have h1 := HT.out.take (by rw [HL.out]; exact ho) (by rw [HL.out]; exact HPL.out)
                rw [HL.out] at h1
                exact h1
              clear e9 ho
              go_wp2
              exact ⟨⟨t + 1, l, by omega, HS.out, by go_num, by rw [HM.out]; exact RR⟩, by simp [intOf]; omega⟩
            · have e9 : stB N n f m (fun i => (toI l).getD i 0) = false := by rw [← HM.out]; exact stB_no ho
              rw [e9]
              have HS : Hid (BestT N (Cov N n f) (t + 1) L) := HT.out.stay (fun h => ho (by have h1 := h.1; rw [HL.out] at h1; exact h1))
              clear e9 ho
              go_wp2
              exact ⟨⟨t + 1, L, by omega, HS.out, by go_num, by rw [HQ.out]; exact R⟩, by simp [intOf]; omega⟩
    · obtain rfl : Z = t := by omega
      go_wp2
      exact bodyPost_ret (v := .slice (some ⟨g3, 0, none⟩) q3 c3) (by simp [results, Try.results11, go_sem]) rfl ⟨L, .inl ⟨hx, BestT.done (by rw [HZ.out]; exact HT.out)⟩, Gat.told (by rw [HQ.out]; exact R)⟩
end Go.Proofs.Ytcpeaenophaphaa
