/-
  Table by the program: walked.
-/
import Derived.Test.YtpolnkjmojofoaaE8b
namespace Go.Proofs.Ytpolnkjmojofoaa
open Go.RowKit

set_option maxRecDepth 100000 in
set_option maxHeartbeats 3000000 in
theorem implTable_any {w : World} {g n c : Nat} {A : Nat → OpD} (hL : OpsL w g n A) (hn : n ≤ 1048576) :
    Calls Try.prog 20 #[.slice (some ⟨g, 0, none⟩) n c] w fun e w' => (∃ v, e = .returned v ∧ TabP w' w.heap.size v n A) ∧ Below w.heap.size w w' := by
  have hbs : ∀ w, (Instr.buildSlice 31 0 #[]).run Try.prog w = .ok (.slice (some ⟨w.heap.size, 0, none⟩) 0 0) (w.alloc (.cells #[] 2)) := fun _ => by kernel_rfl
  obtain ⟨i0, hi0, hz0, hz1, hz2⟩ := info_parts Try.info2
  go_enter Try.func20, Try.ntmps20
  go_wp2_with fail
  refine (groupOf_any hL hn).mono ?_
  rintro e w4 ⟨⟨v6, rfl, hG⟩, b4⟩
  obtain ⟨g6, m, c6, rfl, hO, hm, hmn, hGm⟩ := grp_one hG
  have HGm : Hid (isG n A ∧ m = n ∨ ¬ isG n A ∧ m = 0) := hGm
  have HR : Hid (∀ i, i < m → isG n A ∧ m = n ∧ kR (A i).key) := fun i hi => by
    rcases HGm.out with h | h
    · exact ⟨h.1, h.2, ok_R (h.1.2.1 i (by omega))⟩
    · omega
  go_wp2_with fail
  refine (membersOf_any hO (fun i hi => small_R (HR.out i hi).2.2) (fun i j hij hj e => by
    have h1 := (HR.out j hj).1.2.2.1.lt hij (by have := (HR.out j hj).2.1; omega)
    rw [kV_inj.1 e] at h1
    omega) hm).mono ?_
  rintro e w5 ⟨b, rfl, hM5, hb5, b5⟩
  obtain ⟨W2, hW2, a2, B2, -⟩ := boxed w5 2 #[]
  obtain ⟨p2, hp2⟩ : ∃ q, w5.heap.size = q := ⟨_, rfl⟩
  have o1 : Hid (IntG W2 w5.heap.size (.slice (some ⟨p2, 0, none⟩) 0 0) 0 (tab n A)) := hp2 ▸ intG_new a2
  have B5 := b4.trans (b5.mono b4.size)
  have M2 : Hid (MapN W2 b ((List.range m).map (fun i => (A i).key))) := hM5.below B2
  have O2 : Hid (Oprs W2 w.heap.size (.slice (some ⟨g6, 0, none⟩) m c6) m (fun i => (A i).key)) := (hO.below b5).below B2
  have hbl : b < w5.heap.size := hM5.lt
  have hgl : g6 < w5.heap.size := (hO.below b5).lt.2
  have hm' : (m : Int) ≤ 192 := by omega
  have HB5 := hid_of B5
  clear hG hO hGm b4 b5 hM5 hb5 B5 a2
  go_wp2
  clear hW2 hp2
  go_loopw [5, 17] (fun v s wr => ∃ i : Nat, i ≤ m ∧ s = .int .i64 (i : Int) ∧ Hid (IntG wr w5.heap.size v (i * m) (tab n A)) ∧ Hid (MapN wr b ((List.range m).map (fun i => (A i).key))) ∧ Hid (Oprs wr w.heap.size (.slice (some ⟨g6, 0, none⟩) m c6) m (fun i => (A i).key)) ∧ Below w5.heap.size w5 wr) (fun _ s _ => m - (intOf s).toNat)
  case atStart => exact ⟨0, Nat.zero_le _, rfl, by rw [Nat.zero_mul]; exact o1, M2, O2, B2⟩
  case round =>
    clear o1 B2 M2 O2
    obtain ⟨i, hi, rfl, own, M, HO, B⟩ := hrel
    by_cases hlt : i < m
    · have hlt' : (i : Int) < (m : Int) := by omega
      obtain ⟨e0, e1, e2, e3, e4, e5, e6, e7, e8, e9, e10, e11⟩ := HO.out.open i hlt
      obtain ⟨hGG, hmn2, hRi⟩ := HR.out i hlt
      subst hmn2
      have HGG := hid_of hGG
      clear hGG
      have HRi := hid_of hRi
      obtain ⟨K, hK⟩ : ∃ K, (A i).key = K := ⟨_, rfl⟩
      have HK : Hid ((A i).key = K) := hK
      rw [hK] at HRi
      simp only [hK] at e0 e1 e2 e3 e4 e5 e6 e7 e8 e9 e10 e11
      obtain ⟨W7, hW7, a7, b7, -⟩ := boxed wr 70 (kc K).toArray
      obtain ⟨p7, hp7⟩ : ∃ p, wr.heap.size = p := ⟨_, rfl⟩
      rw [hp7] at a7
      have own7 := hid_of (own.out.below b7)
      have M7 := hid_of (M.out.below b7)
      have O7 := hid_of (HO.out.below b7)
      have B7 := B.trans (b7.mono B.size)
      have hp7l : w5.heap.size ≤ p7 := by have := B.size; omega
      have A7 : At 70 W7 p7 (kc K).toArray := a7
      clear hK hRi own M HO B b7 a7
      unfold kc at hW7
      go_wp2
      clear e0 e1 e2 e3 e4 e5 e6 e7 e8 e9 e10 e11 hW7 hp7
      go_loopw [5, 23] (fun v s wr => ∃ k : Nat, k ≤ m ∧ s = .int .i64 (k : Int) ∧ Hid (IntG wr w5.heap.size v (i * m + k) (tab m A)) ∧ Hid (MapN wr b ((List.range m).map (fun i => (A i).key))) ∧ Hid (Oprs wr w.heap.size (.slice (some ⟨g6, 0, none⟩) m c6) m (fun i => (A i).key)) ∧ At 70 wr p7 (kc K).toArray ∧ Below w5.heap.size w5 wr) (fun _ s _ => m - (intOf s).toNat)
      case atStart => exact ⟨0, Nat.zero_le _, rfl, own7, M7, O7, A7, B7⟩
      case round =>
        clear own7 M7 O7 A7 B7
        obtain ⟨k, hk, rfl, own, M, HO, A7, B⟩ := hrel
        by_cases hkn : k < m
        · have hk' : (k : Int) < (m : Int) := by omega
          obtain ⟨e0, e1, e2, e3, e4, e5, e6, e7, e8, e9, e10, e11⟩ := HO.out.open k hkn
          have HRk := hid_of (HR.out k hkn).2.2
          obtain ⟨L, hL'⟩ : ∃ K, (A k).key = K := ⟨_, rfl⟩
          have HMEM : Hid (kV (mulQ K L) ∈ ((List.range m).map (fun i => (A i).key)).map kV ∧ small (mulQ K L)) := by
            obtain ⟨j, hj, he⟩ := HGG.out.2.2.2.2 i k hlt hkn
            rw [← HK.out, ← hL']
            exact ⟨by rw [← mulK_key, ← kV_inj.2 he]; exact List.mem_map_of_mem (List.mem_map.2 ⟨j, List.mem_range.2 hj, rfl⟩), small_mul (by rw [HK.out]; exact HRi.out) HRk.out⟩
          have HT : Hid (∀ j k', ((List.range m).map (fun i => (A i).key))[j]? = some k' → kV k' = kV (mulQ K L) → ((j : Nat) : Int) = tab m A (i * m + k)) := fun j k' hj e => by
            have hjm : j < m := by
              have := (List.getElem?_eq_some_iff.1 hj).1
              simpa using this
            have e2 : (A j).key = k' := by
              simpa [hjm] using hj
            rw [tab_at A hkn, plc_eq HGG.out.2.2.1 hjm (by rw [e2, HK.out, hL']; exact e)]
          rw [hL'] at HRk
          simp only [hL'] at e0 e1 e2 e3 e4 e5 e6 e7 e8 e9 e10 e11
          clear hL'
          have CB : Hid (∀ wq, Calls Try.prog 46 #[.agg #[.int .i64 (K 0), .int .i64 (K 1), .int .i64 (K 2), .int .i64 (K 3), .int .i64 (K 4), .int .i64 (K 5), .int .i64 (K 6), .int .i64 (K 7), .int .i64 (K 8), .int .i64 (K 9), .int .i64 (K 10), .int .i64 (K 11)], .agg #[.int .i64 (L 0), .int .i64 (L 1), .int .i64 (L 2), .int .i64 (L 3), .int .i64 (L 4), .int .i64 (L 5), .int .i64 (L 6), .int .i64 (L 7), .int .i64 (L 8), .int .i64 (L 9), .int .i64 (L 10), .int .i64 (L 11)]] wq fun e w' => e = .returned (kV (mulQ K L)) ∧ Below wq.heap.size wq w') := fun wq => behind_k HRi.out HRk.out wq
          obtain ⟨W8, hW8, a8, b8, -⟩ := boxed wr 70 (kc L).toArray
          obtain ⟨p8, hp8⟩ : ∃ p, wr.heap.size = p := ⟨_, rfl⟩
          rw [hp8] at a8
          have own8 := hid_of (own.out.below b8)
          have M8 := hid_of (M.out.below b8)
          have O8 := hid_of (HO.out.below b8)
          have A78 := A7.below b8
          have B8 := B.trans (b8.mono B.size)
          have A8 : At 70 W8 p8 (kc L).toArray := a8
          have hp8l : w5.heap.size ≤ p8 := by have := B.size; omega
          clear own M HO B b8 a8 A7
          have htb : i * m + k ≤ 40000 := by
            have h1 : i * m ≤ 192 * 192 := Nat.mul_le_mul (by omega) (by omega)
            omega
          obtain ⟨tt, htt⟩ : ∃ t, i * m + k = t := ⟨_, rfl⟩
          rw [htt] at HT htb own8
          have HTT : Hid (i * m + k = tt) := htt
          obtain ⟨g3, c3, eu, -⟩ := own8.out.arr
          subst eu
          obtain ⟨TV, hTV⟩ : ∃ x, tab m A tt = x := ⟨_, rfl⟩
          rw [hTV] at HT
          clear htt
          unfold kc at hW8
          obtain ⟨d0, d1, d2, d3, d4, d5, d6, d7, d8, d9, d10, d11⟩ := At.openk (x := K) A78
          obtain ⟨f0, f1, f2, f3, f4, f5, f6, f7, f8, f9, f10, f11⟩ := At.openk (x := L) A8
          go_wp2_with fail
          clear d0 d1 d2 d3 d4 d5 d6 d7 d8 d9 d10 d11 f0 f1 f2 f3 f4 f5 f6 f7 f8 f9 f10 f11 e0 e1 e2 e3 e4 e5 e6 e7 e8 e9 e10 e11 hW8 hp8
          refine (CB.out _).mono ?_
          rintro e w9 ⟨rfl, b9⟩
          obtain ⟨j, k', hlook, hj1, hj2⟩ := (M8.out.below b9).look HMEM.out.2 HMEM.out.1
          rw [HT.out j k' hj1 hj2] at hlook
          have own9 := hid_of (own8.out.below b9)
          have M9 := hid_of (M8.out.below b9)
          have O9 := hid_of (O8.out.below b9)
          have A9 := A78.below b9
          have B9 := B8.trans (b9.mono B8.size)
          obtain ⟨W6, hW6, a6, b6, -⟩ := boxed w9 2 #[.int .i64 TV]
          obtain ⟨p6, hp6⟩ : ∃ p, w9.heap.size = p := ⟨_, rfl⟩
          rw [hp6] at a6
          have row6 := hid_of (own9.out.below b6).row
          have B6 := B9.trans (b6.mono B9.size)
          have hm1 : tt + 1 ≤ maxLen := by unfold maxLen; omega
          have hm2 : (tt + 1) * 8 ≤ 140737488355328 := by omega
          have b6' := hid_of b6
          clear b9 own8 M8 O8 A78 A8 B8 hj1 hj2 b6
          go_wp2_with (at_builtin; refine Hid.out (?_ : Hid _))
          refine (?_ : wpList _ _ _ _ _ _)
          refine wpList_append_own_at _ rfl _ _ _ rfl w5.heap.size 2 i0 _ 1 8 Try.underlying31 hi0 hz0 hz1 hz2 rfl (by omega) (.slice (some ⟨g3, 0, none⟩) tt c3) tt (ic (tab m A) tt) rfl row6.out ⟨p6, 0, none⟩ 1 1 [.int .i64 TV] rfl rfl (news1 a6) (by intro u hu; simp at hu; subst hu; rfl) hm1 hm2 B6.size ?_
          intro v7 w7 hown7 hgrow7 hne7 hblk7
          rw [← hTV] at hown7
          have OF : Hid (IntG w7 w5.heap.size v7 (i * m + (k + 1)) (tab m A)) := by
            rw [show i * m + (k + 1) = tt + 1 by have := HTT.out; omega]
            exact IntG.next hown7 (fun e => by have := (hne7.1 e).2; omega)
          have BF : Below w5.heap.size w5 w7 := B6.grown hgrow7 B6.size (fun x hx => ownBlock_ge row6.out hx)
          have own6 := own9.out.below b6'.out
          obtain ⟨g3', c3', e3', ar6, -, -⟩ := own6.arr
          cases e3'
          have M10 : Hid (MapN w7 b ((List.range m).map (fun i => (A i).key))) := (M9.out.below b6'.out).of_block (BF.block b hbl |>.trans (B6.block b hbl).symm)
          have O10 : Hid (Oprs w7 w.heap.size (.slice (some ⟨g6, 0, none⟩) m c6) m (fun i => (A i).key)) := (O9.out.below b6'.out).of_block (BF.block g6 hgl |>.trans (B6.block g6 hgl).symm)
          have A10 : At 70 w7 p7 (kc K).toArray := by
            have h1 := A9.below b6'.out
            refine (hgrow7.block p7 h1.lt (fun e => ?_)).trans h1
            simp only [Value.ownBlock, Option.some.injEq] at e
            rcases ar6 with ⟨h2, -⟩ | ⟨gq, cq, h2, -, -, -, cur, h4, -⟩
            · cases h2
            · cases h2
              rw [← e] at h4
              have h5 := h4.symm.trans h1
              simp at h5
          clear hown7 hgrow7 hne7 hblk7 row6 B6 a6 hW6 hp6 hm1 hm2 htb own6 ar6 b6' own9 M9 O9 A9 B9 hlook HT HMEM CB HRk
          go_wp2
          exact ⟨⟨k + 1, by omega, by go_num, OF, M10, O10, A10, BF⟩, by simp [intOf]; omega⟩
        · obtain rfl : k = m := by omega
          have hk' : ¬ (k : Int) < (k : Int) := by omega
          have own2 : Hid (IntG wr w5.heap.size u5 ((i + 1) * k) (tab k A)) := by
            have := own.out
            rwa [show i * k + k = (i + 1) * k by rw [Nat.add_mul, Nat.one_mul]] at this
          clear own A7
          go_wp2
          exact ⟨⟨i + 1, by omega, by go_num, own2, M, HO, B⟩, by simp [intOf]; omega⟩
    · obtain rfl : i = m := by omega
      have hlt' : ¬ (i : Int) < (i : Int) := by omega
      have FI : Hid (TabP wr w.heap.size u5 n A) := by
        have h := own.out
        rcases HGm.out with ⟨h1, rfl⟩ | ⟨h1, rfl⟩
        · exact TabP.lower (.inl ⟨h1, h⟩) HB5.out.size
        · rw [Nat.zero_mul] at h
          exact TabP.lower (.inr ⟨h1, h⟩) HB5.out.size
      clear own
      go_wp2
      go_ret
      exact ⟨⟨_, rfl, FI.out⟩, HB5.out.trans (B.mono HB5.out.size)⟩
end Go.Proofs.Ytpolnkjmojofoaa
