/-
  Outliers by the specification: walked.
-/
import Derived.Test.YtnlbnjdfkbhkhaaOe
namespace Go.Proofs.Ytnlbnjdfkbhkhaa
open Go.RowKit

theorem infoB : (Try.prog.info? 4).map (fun i => (i.zero, i.size, i.bytes)) = some (some (.bool false), 1, 1) := by kernel_rfl
theorem make_bools (M : Nat) (hM : M ≤ 1048576) : ∃ C : Array Value, C.size = M ∧ (∀ i, i < M → C[i]? = some (.bool false)) ∧ ∀ w, (Instr.makeSlice 53 (.int .i64 (M : Int)) (.int .i64 (M : Int))).run Try.prog w = .ok (.slice (some ⟨w.heap.size, 0, none⟩) M M) (w.alloc (.cells C 4)) := by
  obtain ⟨i0, hi0, hz0, hz1, hz2⟩ := info_parts infoB
  refine ⟨madeCells (Value.bool false).cells M, by simp [madeCells], fun i hi => by simp [madeCells, hi, Value.cells, Nat.mod_one], fun w => ?_⟩
  have := run_make (P := Try.prog) w 53 4 i0 _ Try.underlying53 hi0 hz0 .i64 .i64 (M : Int) (M : Int) (by omega) (by omega) (by rw [hz2]; omega) (by omega)
  rw [this, hz1]
  simp
/-- A list of n yeses and noes. -/
def GB (w : World) (gb n : Nat) (G : Nat → Bool) : Prop := ∃ cur : Array Value, At 4 w gb cur ∧ cur.size = n ∧ ∀ i, i < n → cur[i]? = some (.bool (G i))
theorem GB.below {w w' : World} {gb n : Nat} {G : Nat → Bool} (h : GB w gb n G) (hb : Below w.heap.size w w') : GB w' gb n G := by
  obtain ⟨cur, h1, h2⟩ := h
  exact ⟨cur, h1.below hb, h2⟩
theorem GB.keep {w w' : World} {gb n : Nat} {G : Nat → Bool} {r : Option Nat} (h : GB w gb n G) (hb : w.grownBy w' r) (hr : r ≠ some gb) : GB w' gb n G := by
  obtain ⟨cur, h1, h2⟩ := h
  exact ⟨cur, (hb.block gb h1.lt (fun e => hr e.symm)).trans h1, h2⟩
theorem GB.cell {w : World} {gb n : Nat} {G : Nat → Bool} (h : GB w gb n G) {i : Nat} (hi : i < n) : w.cell? ⟨gb, i, none⟩ = some (.bool (G i)) ∧ w.frozen? ⟨gb, i, none⟩ = false ∧ gb < w.heap.size := by
  obtain ⟨cur, h1, h2, h3⟩ := h
  exact ⟨h1.cell i (h3 i hi), h1.frozen i, h1.lt⟩
theorem GB.set {w : World} {gb n : Nat} {G : Nat → Bool} (h : GB w gb n G) (x : Nat) (hx : x < n) : GB (w.setCell ⟨gb, x, none⟩ (.bool true)) gb n (upd G x) := by
  obtain ⟨cur, h1, h2, h3⟩ := h
  refine ⟨_, h1.set x _, by simpa using h2, fun i hi => ?_⟩
  by_cases e : i = x
  · subst e
    rw [Array.getElem?_setIfInBounds, if_pos rfl, if_pos (by omega)]
    simp [upd]
  · rw [Array.getElem?_setIfInBounds, if_neg (by omega), h3 i hi]
    have : (i == x) = false := by simpa using e
    simp [upd, this]
/-- How many are left, read from the world. -/
def gOf (w : World) (gb : Nat) (i : Nat) : Bool := match w.cell? ⟨gb, i, none⟩ with
  | some (.bool b) => b
  | _ => false
theorem kl_of {w : World} {gb n : Nat} {G : Nat → Bool} (h : GB w gb n G) : kl (gOf w gb) n = kl G n := by
  unfold kl
  refine List.filter_congr (fun i hi => ?_)
  have : i < n := by simpa using hi
  simp [gOf, (h.cell this).1]
/-- What Outliers tells. -/
def OutP (w : World) (f : Nat → Int) (n : Nat) (M : Int) (e : Ending) (w' : World) : Prop := ∃ v A, e = .returned v ∧ Lst w' w.heap.size v A ∧ OutA f n M (outOk f n M) A ∧ Below w.heap.size w w'
set_option maxRecDepth 100000 in
set_option maxHeartbeats 6400000 in
theorem specOut_any {w : World} {g n c : Nat} {f : Nat → Int} {M : Int} (h : Recs 4 w g n f) (hn : n ≤ 1048576) :
    Calls Try.prog 11 #[.slice (some ⟨g, 0, none⟩) n c, .int .i64 M] w fun e w' => OutP w f n M e w' := by
  obtain ⟨i0, hi0, hz0, hz1, hz2⟩ := info_parts infoInt
  obtain ⟨V, hV, A0, B, -⟩ := boxed w 2 #[]
  have R : Lst V w.heap.size (.slice (some ⟨w.heap.size, 0, none⟩) 0 0) [] := Lst.start A0
  have hbs : ∀ w, (Instr.buildSlice 32 0 #[]).run Try.prog w = .ok (.slice (some ⟨w.heap.size, 0, none⟩) 0 0) (w.alloc (.cells #[] 2)) := fun _ => by kernel_rfl
  have hV1 := A0.lt
  clear A0
  by_cases h60 : n ≤ 60
  · have h60' : ¬ (n : Int) > 60 := by omega
    have hn' : (n : Int) ≤ 60 := by omega
    by_cases hM : 0 ≤ M ∧ M ≤ 1000000
    · go_enter Try.func11, Try.ntmps11
      go_wp2_with fail
      refine (in_b _ _ _ true (by simpa using hM) _).mono ?_
      rintro e w1 ⟨rfl, rfl⟩
      clear hV
      go_wp2
      go_loopw [6] (fun s wr => ∃ k : Nat, k ≤ n ∧ s = .int .i64 (k : Int) ∧ allO f k ∧ Lst wr w.heap.size (.slice (some ⟨w.heap.size, 0, none⟩) 0 0) [] ∧ w.heap.size < wr.heap.size ∧ Below w.heap.size w wr) (fun s _ => n - (intOf s).toNat)
      case atStart => exact ⟨0, Nat.zero_le _, rfl, fun i hi => by omega, R, hV1, B⟩
      case round =>
        clear R B hV1
        obtain ⟨k, hk, rfl, hA, R, hV1, B⟩ := hrel
        have HA : Hid (allO f k) := hA
        clear hA
        by_cases hlt : k < n
        · have hlt' : (k : Int) < (n : Int) := by omega
          obtain ⟨c0, c1, c2, c3⟩ := Obs.open (h.below B) k hlt
          by_cases ho : oOk (f (k * 4)) (f (k * 4 + 1)) (f (k * 4 + 2)) (f (k * 4 + 3))
          · have HO : Hid (allO f (k + 1)) := HA.out.step ho
            go_wp2_with fail
            refine (l14Obs_b _ _ _ _ true (by simpa using ho) _).mono ?_
            rintro e w2 ⟨rfl, b2⟩
            replace R := R.below b2
            replace B := B.trans (b2.mono B.size)
            have hV2 := Nat.lt_of_lt_of_le hV1 b2.size
            clear c0 c1 c2 c3 b2 ho hV1
            go_wp2
            exact ⟨⟨k + 1, by omega, by go_num, HO.out, R, hV2, B⟩, by simp [intOf]; omega⟩
          · go_wp2_with fail
            refine (l14Obs_b _ _ _ _ false (by simpa using ho) _).mono ?_
            rintro e w2 ⟨rfl, b2⟩
            replace R := R.below b2
            replace B := B.trans (b2.mono B.size)
            have HO : Hid (¬ outOk f n M) := fun hh => ho (hh.2.1 k hlt)
            clear c0 c1 c2 c3 b2 ho
            go_wp2
            exact bodyPost_ret (v := .slice (some ⟨w.heap.size, 0, none⟩) 0 0) (by simp [results, Try.results11, go_sem]) rfl ⟨_, _, rfl, R, .inr ⟨HO.out, rfl⟩, B⟩
        · have hlt' : ¬ (k : Int) < (n : Int) := by omega
          obtain rfl : n = k := by omega
          have HOK : Hid (outOk f n M) := ⟨h60, HA.out, hM⟩
          have hI : inI f n := fun i hi => (HA.out i hi).2
          clear HA
          obtain ⟨C, hC1, hC2, hmk⟩ := make_bools n hn
          obtain ⟨W1, hW1, a1, b1, -⟩ := boxed wr 4 C
          have HG : GB W1 wr.heap.size n (fun _ => false) := ⟨C, a1, hC1, hC2⟩
          replace R := R.below b1
          replace B := B.trans (b1.mono B.size)
          clear b1 a1 hC1 hC2
          obtain ⟨gb, hgb⟩ : ∃ gb, wr.heap.size = gb := ⟨_, rfl⟩
          rw [hgb] at HG hV1
          go_wp2
          go_loopw [8] (fun _ w2 => ∃ (l : List Nat) (G : Nat → Bool), chn f n M (fun _ => false) l G ∧ GB w2 gb n G ∧ Lst w2 w.heap.size (.slice (some ⟨w.heap.size, 0, none⟩) 0 0) [] ∧ Below w.heap.size w w2) (fun _ w2 => (kl (gOf w2 gb) n).length)
          case atStart => exact ⟨[], fun _ => false, rfl, HG, R, B⟩
          case round =>
            clear HG R B hmk hW1
            obtain ⟨l, G, hC, HG, R, B⟩ := hrel
            have HC : Hid (chn f n M (fun _ => false) l G) := hC
            clear hC
            have hkn := kl_le G n
            have hmem : ∀ x ∈ kl G n, x < n := fun x hx => (kl_mem.1 hx).1
            go_wp2
            go_loopw [8, 9, 10] (fun s t u w3 => ∃ k : Nat, k ≤ n ∧ s = .int .i64 ((kl G k).length : Int) ∧ t = .int .i64 (sm f (kl G k)) ∧ u = .int .i64 (k : Int) ∧ w3 = wr) (fun _ _ u _ => n - (intOf u).toNat)
            case atStart => exact ⟨0, Nat.zero_le _, rfl, rfl, rfl, rfl⟩
            case round =>
              obtain ⟨k, hk, rfl, rfl, rfl, rfl⟩ := hrel
              by_cases hk2 : k < n
              · have hklt : (k : Int) < (n : Int) := by omega
                have hlk := kl_le G k
                have hsm := sm_in hI (kl G k) (fun x hx => by have := (kl_mem.1 hx).1; omega)
                obtain ⟨c0, -, -⟩ := HG.cell hk2
                obtain ⟨q0, q1, q2, q3⟩ := Obs.open (h.below B) k hk2
                have hik := hI k hk2
                cases hGk : G k
                · rw [hGk] at c0
                  have HR : Hid ((kl G (k + 1)).length = (kl G k).length + 1) := by simp [kl_yes hGk, Hid]
                  have HS : Hid (sm f (kl G (k + 1)) = sm f (kl G k) + f (k * 4 + 3)) := by
                    show _ = _
                    rw [kl_yes hGk, sm_snoc]
                  clear hGk
                  go_wp2
                  refine ⟨⟨k + 1, by omega, ?_, by rw [HS.out], by go_num, by trivial⟩, by simp [intOf]; omega⟩
                  rw [HR.out]
                  go_num
                · rw [hGk] at c0
                  have HR : Hid (kl G (k + 1) = kl G k) := kl_no hGk
                  clear hGk
                  go_wp2
                  exact ⟨⟨k + 1, by omega, by rw [HR.out], by rw [HR.out], by go_num, by trivial⟩, by simp [intOf]; omega⟩
              · have hklt : ¬ (k : Int) < (n : Int) := by omega
                obtain rfl : n = k := by omega
                have hsm := sm_in hI (kl G n) hmem
                obtain ⟨m, hm⟩ : ∃ m, (kl G n).length = m := ⟨_, rfl⟩
                obtain ⟨sg, hsg⟩ : ∃ sg, sm f (kl G n) = sg := ⟨_, rfl⟩
                have HM : Hid ((kl G n).length = m) := hm
                have HSg : Hid (sm f (kl G n) = sg) := hsg
                rw [hm, hsg] at hsm
                rw [hm] at hkn ⊢
                rw [hsg]
                clear hm hsg
                obtain ⟨T, hT⟩ : ∃ T, M * (m : Int) = T := ⟨_, rfl⟩
                have hm60 : (m : Int) ≤ 60 := by omega
                have hTb : 0 ≤ T ∧ T ≤ 60000000 := by
                  rw [← hT]
                  refine ⟨Int.mul_nonneg hM.1 (by omega), ?_⟩
                  have := Int.mul_le_mul hM.2 hm60 (by omega) (by omega : (0 : Int) ≤ 1000000)
                  omega
                have w1 : IntKind.i64.wrap (M * (m : Int)) = T := by rw [hT, IntKind.wrap_i64]; omega
                have HT : Hid (M * ((kl G n).length : Int) = T) := by
                  show _ = _
                  rw [HM.out]; exact hT
                clear hT
                go_wp2
                go_loopw [11, 12, 13] (fun s t u w3 => ∃ (k : Nat) (a b : Int), k ≤ n ∧ s = .int .i64 a ∧ t = .int .i64 b ∧ u = .int .i64 (k : Int) ∧ AtK (df f m sg) G T k a b ∧ w3 = wr) (fun _ _ u _ => n - (intOf u).toNat)
                case atStart => exact ⟨0, -1, T, Nat.zero_le _, rfl, rfl, rfl, .inl ⟨rfl, rfl, fun i hi => by omega⟩, rfl⟩
                case round =>
                  obtain ⟨k, a, b, hk, rfl, rfl, rfl, hAt, rfl⟩ := hrel
                  have HAt : Hid (AtK (df f m sg) G T k a b) := hAt
                  clear hAt
                  by_cases hk2 : k < n
                  · have hklt : (k : Int) < (n : Int) := by omega
                    obtain ⟨c0, -, -⟩ := HG.cell hk2
                    obtain ⟨q0, q1, q2, q3⟩ := Obs.open (h.below B) k hk2
                    have hik := hI k hk2
                    obtain ⟨X, hX⟩ : ∃ X, (m : Int) * f (k * 4 + 3) = X := ⟨_, rfl⟩
                    have hXb : -60000000 ≤ X ∧ X ≤ 60000000 := by
                      have h1 : ((m : Int) * f (k * 4 + 3)).natAbs ≤ 60 * 1000000 := by
                        rw [Int.natAbs_mul]
                        exact Nat.mul_le_mul (by omega) (by omega)
                      rw [hX] at h1
                      omega
                    have w2' : IntKind.i64.wrap ((m : Int) * f (k * 4 + 3)) = X := by rw [hX, IntKind.wrap_i64]; omega
                    obtain ⟨D, hD⟩ : ∃ D, df f m sg k = D := ⟨_, rfl⟩
                    have HD : Hid (df f m sg k = D) := hD
                    have HX : Hid (mag (X - sg) = D) := by
                      show _ = _
                      rw [← hX, ← hD]; rfl
                    clear hX hD
                    go_wp2_with fail
                    refine (abs_any _ _ (by omega)).mono ?_
                    rintro e w4 ⟨rfl, rfl⟩
                    rw [HX.out]
                    cases hGk : G k
                    · rw [hGk] at c0
                      by_cases h1 : D > b
                      · have HA2 : Hid (AtK (df f m sg) G T (k + 1) (k : Int) D) := by
                          show AtK _ _ _ _ _ _
                          have := HAt.out.take hGk (.inl (by rw [HD.out]; exact h1))
                          rwa [HD.out] at this
                        clear hGk HAt
                        go_wp2
                        exact ⟨⟨k + 1, _, _, by omega, rfl, rfl, by go_num, HA2.out, by trivial⟩, by simp [intOf]; omega⟩
                      · by_cases h2 : 0 ≤ a
                        · by_cases h3 : D = b
                          · have HA2 : Hid (AtK (df f m sg) G T (k + 1) (k : Int) D) := by
                              show AtK _ _ _ _ _ _
                              have := HAt.out.take hGk (.inr ⟨h2, by rw [HD.out]; exact h3⟩)
                              rwa [HD.out] at this
                            have h3b : (D == b) = true := by simpa using h3
                            clear hGk HAt h3
                            go_wp2
                            exact ⟨⟨k + 1, _, _, by omega, rfl, rfl, by go_num, HA2.out, by trivial⟩, by simp [intOf]; omega⟩
                          · have HA2 : Hid (AtK (df f m sg) G T (k + 1) a b) := HAt.out.stay (by rw [HD.out]; exact h1) (by rw [HD.out]; exact fun hh => h3 hh.2)
                            have h3b : (D == b) = false := by simpa using h3
                            clear hGk HAt h3
                            go_wp2
                            exact ⟨⟨k + 1, _, _, by omega, rfl, rfl, by go_num, HA2.out, by trivial⟩, by simp [intOf]; omega⟩
                        · have HA2 : Hid (AtK (df f m sg) G T (k + 1) a b) := HAt.out.stay (by rw [HD.out]; exact h1) (fun hh => h2 hh.1)
                          clear hGk HAt
                          go_wp2
                          exact ⟨⟨k + 1, _, _, by omega, rfl, rfl, by go_num, HA2.out, by trivial⟩, by simp [intOf]; omega⟩
                    · rw [hGk] at c0
                      have HA2 : Hid (AtK (df f m sg) G T (k + 1) a b) := HAt.out.gone hGk
                      clear hGk HAt
                      go_wp2
                      exact ⟨⟨k + 1, _, _, by omega, rfl, rfl, by go_num, HA2.out, by trivial⟩, by simp [intOf]; omega⟩
                  · have hklt : ¬ (k : Int) < (n : Int) := by omega
                    obtain rfl : n = k := by omega
                    have HA3 : Hid (AtK (df f (kl G n).length (sm f (kl G n))) G (M * ((kl G n).length : Int)) n a b) := by
                      show AtK _ _ _ _ _ _
                      rw [HT.out, HM.out, HSg.out]
                      exact HAt.out
                    clear HAt
                    by_cases hm3 : m < 3
                    · have hm3' : (m : Int) < 3 := by omega
                      have HN : Hid (∀ x, ¬ Pick f n M G x) := few_none (by rw [HM.out]; exact hm3)
                      clear HA3
                      go_wp2
                      go_loopw [5, 15] (fun s t w5 => ∃ k : Nat, k ≤ n ∧ t = .int .i64 (k : Int) ∧ Lst w5 w.heap.size s (toI (gl G k)) ∧ GB w5 gb n G ∧ s.ownBlock ≠ some gb ∧ Below w.heap.size w w5) (fun _ t _ => n - (intOf t).toNat)
                      case atStart =>
                        refine ⟨0, Nat.zero_le _, rfl, R, HG, ?_, B⟩
                        intro e
                        have e : w.heap.size = gb := by simpa [Value.ownBlock] using e
                        omega
                      case round =>
                        clear R HG B
                        obtain ⟨k, hk', rfl, R, HG, hne, B⟩ := hrel
                        by_cases hk : k < n
                        · have hklt : (k : Int) < (n : Int) := by omega
                          obtain ⟨c0, -, hlt0⟩ := HG.cell hk
                          cases hGk : G k
                          · rw [hGk] at c0
                            have HR : Hid (gl G (k + 1) = gl G k) := by simp [gl, List.range_succ, hGk, Hid]
                            clear hGk
                            go_wp2
                            exact ⟨⟨k + 1, by omega, by go_num, by rw [HR.out]; exact R, HG, hne, B⟩, by simp [intOf]; omega⟩
                          · rw [hGk] at c0
                            have HR : Hid (toI (gl G (k + 1)) = toI (gl G k) ++ [(k : Int)]) := by simp [gl, toI, List.range_succ, hGk, Hid]
                            have hgk : (toI (gl G k)).length ≤ k := by
                              have := List.length_filter_le G (List.range k)
                              simpa [toI, gl] using this
                            clear hGk
                            obtain ⟨V9, hV9, A9, b10, -⟩ := boxed wr 2 #[.int .i64 (k : Int)]
                            have R9 := R.below b10
                            have HG9 := HG.below b10
                            have B9 := B.trans (b10.mono B.size)
                            have hgb9 := Nat.lt_of_lt_of_le hlt0 b10.size
                            obtain ⟨g9, hg9⟩ : ∃ g, wr.heap.size = g := ⟨_, rfl⟩
                            rw [hg9] at A9
                            have hb2 : ∀ w, (Instr.buildSlice 32 1 #[(0, .int .i64 (k : Int))]).run Try.prog w = .ok (.slice (some ⟨w.heap.size, 0, none⟩) 1 1) (w.alloc (.cells #[.int .i64 (k : Int)] 2)) := fun _ => by kernel_rfl
                            obtain ⟨ml, hml⟩ : ∃ ml, (toI (gl G k)).length = ml := ⟨_, rfl⟩
                            have hown := R9.own
                            rw [hml] at hown hgk
                            have hz9 := B9.size
                            clear b10 R HG B
                            go_wp2_with (at_builtin; refine wpList_append_own_at _ rfl _ _ _ rfl w.heap.size 2 i0 _ 1 8 Try.underlying32 hi0 hz0 hz1 hz2 rfl (by omega) u5 ml (lCells (toI (gl G k))) rfl hown ⟨g9, 0, none⟩ 1 1 (lCells [(k : Int)]) rfl rfl (news1 A9) (lCells_one _) (by unfold maxLen; omega) (by omega) (by omega) ?_; intro v2 w6 hown2 hgrow2 hne2 hat2; refine Hid.out (?_ : Hid _))
                            rw [← hml] at hown2
                            have R2 := R9.grown hown2 hne2
                            rw [← HR.out] at R2
                            have HG2 := HG9.keep hgrow2 hne
                            have B2 := grown_below B9 hgrow2 hz9 (fun j hj => (R9.ge hj).1)
                            have hne3 : v2.ownBlock ≠ some gb := by
                              rcases hat2 with e | e
                              · rw [e]; exact hne
                              · rw [e]
                                intro e2
                                have : V9.heap.size = gb := by simpa using e2
                                omega
                            clear R9 HG9 B9 hown hown2 hgrow2 hne2 hat2 A9 hV9 hne c0 hz9 hgb9
                            refine (?_ : wpList _ _ _ _ _ _)
                            go_wp2
                            exact ⟨⟨k + 1, by omega, by go_num, R2, HG2, hne3, B2⟩, by simp [intOf]; omega⟩
                        · have hklt : ¬ (k : Int) < (n : Int) := by omega
                          obtain rfl : k = n := by omega
                          go_wp2
                          exact bodyPost_ret (v := u5) (by simp [results, Try.results11, go_sem]) rfl ⟨_, _, rfl, R, .inl ⟨HOK.out, l, G, HC.out, HN.out, rfl⟩, B⟩
                    · have hm3' : ¬ (m : Int) < 3 := by omega
                      by_cases ha : a < 0
                      · have HN : Hid (∀ x, ¬ Pick f n M G x) := HA3.out.none ha
                        clear HA3
                        go_wp2
                        go_loopw [5, 15] (fun s t w5 => ∃ k : Nat, k ≤ n ∧ t = .int .i64 (k : Int) ∧ Lst w5 w.heap.size s (toI (gl G k)) ∧ GB w5 gb n G ∧ s.ownBlock ≠ some gb ∧ Below w.heap.size w w5) (fun _ t _ => n - (intOf t).toNat)
                        case atStart =>
                          refine ⟨0, Nat.zero_le _, rfl, R, HG, ?_, B⟩
                          intro e
                          have e : w.heap.size = gb := by simpa [Value.ownBlock] using e
                          omega
                        case round =>
                          clear R HG B
                          obtain ⟨k, hk', rfl, R, HG, hne, B⟩ := hrel
                          by_cases hk : k < n
                          · have hklt : (k : Int) < (n : Int) := by omega
                            obtain ⟨c0, -, hlt0⟩ := HG.cell hk
                            cases hGk : G k
                            · rw [hGk] at c0
                              have HR : Hid (gl G (k + 1) = gl G k) := by simp [gl, List.range_succ, hGk, Hid]
                              clear hGk
                              go_wp2
                              exact ⟨⟨k + 1, by omega, by go_num, by rw [HR.out]; exact R, HG, hne, B⟩, by simp [intOf]; omega⟩
                            · rw [hGk] at c0
                              have HR : Hid (toI (gl G (k + 1)) = toI (gl G k) ++ [(k : Int)]) := by simp [gl, toI, List.range_succ, hGk, Hid]
                              have hgk : (toI (gl G k)).length ≤ k := by
                                have := List.length_filter_le G (List.range k)
                                simpa [toI, gl] using this
                              clear hGk
                              obtain ⟨V9, hV9, A9, b10, -⟩ := boxed wr 2 #[.int .i64 (k : Int)]
                              have R9 := R.below b10
                              have HG9 := HG.below b10
                              have B9 := B.trans (b10.mono B.size)
                              have hgb9 := Nat.lt_of_lt_of_le hlt0 b10.size
                              obtain ⟨g9, hg9⟩ : ∃ g, wr.heap.size = g := ⟨_, rfl⟩
                              rw [hg9] at A9
                              have hb2 : ∀ w, (Instr.buildSlice 32 1 #[(0, .int .i64 (k : Int))]).run Try.prog w = .ok (.slice (some ⟨w.heap.size, 0, none⟩) 1 1) (w.alloc (.cells #[.int .i64 (k : Int)] 2)) := fun _ => by kernel_rfl
                              obtain ⟨ml, hml⟩ : ∃ ml, (toI (gl G k)).length = ml := ⟨_, rfl⟩
                              have hown := R9.own
                              rw [hml] at hown hgk
                              have hz9 := B9.size
                              clear b10 R HG B
                              go_wp2_with (at_builtin; refine wpList_append_own_at _ rfl _ _ _ rfl w.heap.size 2 i0 _ 1 8 Try.underlying32 hi0 hz0 hz1 hz2 rfl (by omega) u5 ml (lCells (toI (gl G k))) rfl hown ⟨g9, 0, none⟩ 1 1 (lCells [(k : Int)]) rfl rfl (news1 A9) (lCells_one _) (by unfold maxLen; omega) (by omega) (by omega) ?_; intro v2 w6 hown2 hgrow2 hne2 hat2; refine Hid.out (?_ : Hid _))
                              rw [← hml] at hown2
                              have R2 := R9.grown hown2 hne2
                              rw [← HR.out] at R2
                              have HG2 := HG9.keep hgrow2 hne
                              have B2 := grown_below B9 hgrow2 hz9 (fun j hj => (R9.ge hj).1)
                              have hne3 : v2.ownBlock ≠ some gb := by
                                rcases hat2 with e | e
                                · rw [e]; exact hne
                                · rw [e]
                                  intro e2
                                  have : V9.heap.size = gb := by simpa using e2
                                  omega
                              clear R9 HG9 B9 hown hown2 hgrow2 hne2 hat2 A9 hV9 hne c0 hz9 hgb9
                              refine (?_ : wpList _ _ _ _ _ _)
                              go_wp2
                              exact ⟨⟨k + 1, by omega, by go_num, R2, HG2, hne3, B2⟩, by simp [intOf]; omega⟩
                          · have hklt : ¬ (k : Int) < (n : Int) := by omega
                            obtain rfl : k = n := by omega
                            go_wp2
                            exact bodyPost_ret (v := u5) (by simp [results, Try.results11, go_sem]) rfl ⟨_, _, rfl, R, .inl ⟨HOK.out, l, G, HC.out, HN.out, rfl⟩, B⟩
                      · obtain ⟨x, rfl, hx, hp⟩ := HA3.out.pick (by rw [HM.out]; omega) ha
                        have HP : Hid (Pick f n M G x) := hp
                        clear HA3 hp ha
                        have hxn : (x : Int) < (n : Int) := by omega
                        obtain ⟨c0, f0, hlb⟩ := HG.cell hx
                        obtain ⟨W9, hW9, HG9, B9, R9⟩ : ∃ W, wr.setCell ⟨gb, x, none⟩ (.bool true) = W ∧ GB W gb n (upd G x) ∧ Below w.heap.size w W ∧ Lst W w.heap.size (.slice (some ⟨w.heap.size, 0, none⟩) 0 0) [] := by
                          refine ⟨_, rfl, HG.set x hx, B.setCell (show w.heap.size ≤ gb by omega) _, ?_⟩
                          refine R.keep (r := some gb) ⟨rfl, rfl, rfl, by simp [World.setCell], fun k _ hk => Below.heap_setCell _ _ _ _ (fun e => hk (by rw [e]))⟩ ?_
                          intro e
                          have e : w.heap.size = gb := by simpa [Value.ownBlock] using e
                          omega
                        have hms : (kl (gOf W9 gb) n).length < (kl (gOf wr gb) n).length := by
                          rw [kl_of HG9, kl_of HG]
                          have := kl_cut_len HP.out.2.1 HP.out.2.2.1
                          omega
                        have HMs : Hid ((kl (gOf W9 gb) n).length < (kl (gOf wr gb) n).length) := hms
                        clear hms HG R B
                        go_wp2
                        exact ⟨⟨l ++ [x], upd G x, HC.out.snoc HP.out, HG9, R9, B9⟩, HMs.out⟩
    · go_enter Try.func11, Try.ntmps11
      go_wp2_with fail
      refine (in_b _ _ _ false (by simpa using hM) _).mono ?_
      rintro e w1 ⟨rfl, rfl⟩
      go_wp2
      exact bodyPost_ret (v := .slice (some ⟨w.heap.size, 0, none⟩) 0 0) (by simp [results, Try.results11, go_sem]) rfl ⟨_, _, rfl, R, .inr ⟨fun hh => hM hh.2.2, rfl⟩, B⟩
  · have h60' : (n : Int) > 60 := by omega
    go_enter Try.func11, Try.ntmps11
    go_wp2
    exact bodyPost_ret (v := .slice (some ⟨w.heap.size, 0, none⟩) 0 0) (by simp [results, Try.results11, go_sem]) rfl ⟨_, _, rfl, R, .inr ⟨fun hh => h60 hh.1, rfl⟩, B⟩
end Go.Proofs.Ytnlbnjdfkbhkhaa
