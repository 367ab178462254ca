/-
  Cosets by the program: walked.
-/
import Derived.Test.YtehbpcoiciodhaaB17t
import Derived.Test.YtehbpcoiciodhaaB17k
namespace Go.Proofs.Ytehbpcoiciodhaa
open Go.RowKit

/-- The keys are those of the parts of the first i, and the first t of one part more. -/
def PlI (ks : List (Nat → Int)) (n : Nat) (A : Nat → OpD) (m : Nat) (C : Nat → OpD) (i t : Nat) (G : Nat → Nat → Int) : Prop :=
  ∀ j, j < n → (kV (A j).key ∈ ks.map kV ↔ dn A m C i j = true ∨ ∃ u, u < t ∧ kV (A j).key = kV (G u))
theorem PlI.start (n : Nat) (A : Nat → OpD) (m : Nat) (C : Nat → OpD) (G : Nat → Nat → Int) : PlI [] n A m C 0 0 G := fun j _ => by
  rw [dn_none]
  constructor
  · intro h; simp at h
  · rintro (h | ⟨u, h, -⟩)
    · cases h
    · omega
theorem PlI.old {ks : List (Nat → Int)} {n : Nat} {A : Nat → OpD} {m : Nat} {C : Nat → OpD} {i : Nat} {G G' : Nat → Nat → Int} (h : PlI ks n A m C i 0 G) (e : dn A m C i i = true) : PlI ks n A m C (i + 1) 0 G' := fun j hj => by
  rw [(dn_old e j).1, h j hj]
  constructor
  · rintro (h | ⟨u, h, -⟩)
    · exact .inl h
    · omega
  · rintro (h | ⟨u, h, -⟩)
    · exact .inl h
    · omega
theorem PlI.open {ks : List (Nat → Int)} {n : Nat} {A : Nat → OpD} {m : Nat} {C : Nat → OpD} {i : Nat} {G G' : Nat → Nat → Int} (h : PlI ks n A m C i 0 G) : PlI ks n A m C i 0 G' := fun j hj => by
  rw [h j hj]
  constructor
  · rintro (h | ⟨u, h, -⟩)
    · exact .inl h
    · omega
  · rintro (h | ⟨u, h, -⟩)
    · exact .inl h
    · omega
theorem PlI.next {ks ks' : List (Nat → Int)} {n : Nat} {A : Nat → OpD} {m : Nat} {C : Nat → OpD} {i t : Nat} {G : Nat → Nat → Int} {K : Nat → Int} (h : PlI ks n A m C i t G) (hk : ∀ v, v ∈ ks'.map kV ↔ v ∈ ks.map kV ∨ v = kV K) (e : G t = K) : PlI ks' n A m C i (t + 1) G := fun j hj => by
  rw [hk, h j hj]
  constructor
  · rintro ((h | ⟨u, h, h2⟩) | h)
    · exact .inl h
    · exact .inr ⟨u, by omega, h2⟩
    · exact .inr ⟨t, by omega, by rw [e]; exact h⟩
  · rintro (h | ⟨u, h, h2⟩)
    · exact .inl (.inl h)
    · by_cases c : u = t
      · subst c; rw [e] at h2; exact .inr h2
      · exact .inl (.inr ⟨u, by omega, h2⟩)
theorem sortOf_part {A : Nat → OpD} {m : Nat} {C : Nat → OpD} {i : Nat} {G : Nat → Nat → Int} (h : SortOf m (fun k => mulQ (A i).key (C k).key) G) : PartB A m C i (fun k => opD (G k)) := by
  refine ⟨?_, fun a b hab hb => ?_⟩
  · have := h.1.map kV
    rw [List.map_map, List.map_map] at this
    refine (List.Perm.of_eq ?_).trans this
    exact List.map_congr_left (fun k _ => opD_keyK (G k))
  · rw [lexC_keysK (opD_keyK (G b)) (opD_keyK (G a))]
    exact h.2 a b hab hb
open Classical in
theorem PlI.done {ks : List (Nat → Int)} {n : Nat} {A : Nat → OpD} {m : Nat} {C : Nat → OpD} {i : Nat} {G G' : Nat → Nat → Int} (h : PlI ks n A m C i m G) (e : dn A m C i i = false) (hs : PartB A m C i (fun k => opD (G k))) : PlI ks n A m C (i + 1) 0 G' := fun j hj => by
  rw [h j hj, (dn_new e j).1]
  unfold dk
  simp only [Bool.or_eq_true, decide_eq_true_eq]
  constructor
  · rintro (h | ⟨u, h, h2⟩)
    · exact .inl (.inl h)
    · obtain ⟨k, hk, e2⟩ := hs.at h
      exact .inl (.inr ⟨k, hk, h2.trans ((opD_keyK (G u)).symm.trans e2)⟩)
  · rintro ((h | ⟨u, h, h2⟩) | ⟨u, h, -⟩)
    · exact .inl h
    · obtain ⟨k, hk, e2⟩ := hs.of h
      exact .inr ⟨k, hk, h2.trans (e2.symm.trans (opD_keyK (G k)))⟩
    · omega
/-- How the program's Cosets ends. -/
def CosF (w : World) (n : Nat) (A : Nat → OpD) (m : Nat) (C : Nat → OpD) (e : Ending) (w' : World) : Prop :=
  (∃ (v : Value) (L : Nat) (V : Nat → Value) (S T : Nat → Nat) (B : Nat → Nat → Nat → Int), e = .returned v ∧ LsA w' w.heap.size v L V m S T (fun s k => opD (B s k)) ∧ CosT n A m C L (fun s k => opD (B s k))) ∧ Below w.heap.size w w'
/-- In between. -/
def CosJ (W wr : World) (n : Nat) (A : Nat → OpD) (m : Nat) (C : Nat → OpD) (b i L : Nat) (v : Value) : Prop :=
  ∃ (V : Nat → Value) (S T : Nat → Nat) (B : Nat → Nat → Nat → Int) (ks : List (Nat → Int)), LsA wr W.heap.size v L V m S T (fun s k => opD (B s k)) ∧ MapV wr b ks ∧ ks.length ≤ 200 * i ∧ PlI ks n A m C i 0 (fun _ => oneK) ∧ PrtS A m C i L (fun s k => opD (B s k)) ∧ Below W.heap.size W wr
theorem addAt_op {B : Nat → Nat → Nat → Int} {L : Nat} {G : Nat → Nat → Int} : addAt (fun s k => opD (B s k)) L (fun k => opD (G k)) = fun s k => opD (addAt B L G s k) := by
  funext s k
  unfold addAt
  split <;> rfl
set_option maxRecDepth 100000 in
set_option maxHeartbeats 6000000 in
theorem implCosets_any {w : World} {g n c h m d : Nat} {A C : Nat → OpD} (hL : OpsL w g n A) (hH : OpsL w h m C) (hn : n ≤ 1048576) (hm : m ≤ 1048576) :
    Calls Try.prog 16 #[.slice (some ⟨g, 0, none⟩) n c, .slice (some ⟨h, 0, none⟩) m d] w fun e w' => CosF w n A m C e w' := by
  have hbs : ∀ w, (Instr.buildSlice 37 0 #[]).run Try.prog w = .ok (.slice (some ⟨w.heap.size, 0, none⟩) 0 0) (w.alloc (.cells #[] 28)) := fun _ => by kernel_rfl
  have hmk := makeMap75
  obtain ⟨i0, hi0, hz0, hz1, hz2⟩ := info_parts infoSlO
  have NO : Hid (∀ wq, Below w.heap.size w wq → ¬ SubG n A m C → CosF w n A m C (.returned (.slice (some ⟨wq.heap.size, 0, none⟩) 0 0)) (wq.alloc (.cells #[] 28))) := fun wq hq hno =>
    ⟨⟨_, 0, _, _, _, fun _ _ => oneK, rfl, (lsA_new (at_new _ wq #[])).lower hq.size, .inr ⟨hno, rfl⟩⟩, hq.trans ((below_alloc _ _).mono hq.size)⟩
  have HH := hid_of hH
  clear hH
  go_enter Try.func16, Try.ntmps16
  go_wp2_with fail
  refine (groupOf_any hL hn).mono ?_
  rintro e w2 ⟨⟨v6, rfl, hG⟩, b2⟩
  obtain ⟨g6, n6, c6, rfl, hO, hn6, hnn, hGm⟩ := grp_one hG
  have HO2 := hid_of hO
  have HGm := hid_of hGm
  have HHb := HH.out.below b2
  clear hG hO hGm
  go_wp2_with fail
  refine (groupOf_any HHb hm).mono ?_
  rintro e w3 ⟨⟨v7, rfl, hG⟩, b3⟩
  obtain ⟨g7, m7, c7, rfl, hO, hm7, hmm, hGm⟩ := grp_one hG
  have HO7 := hid_of (oprs_base hO b2.size)
  have HGm7 := hid_of hGm
  have HO6 := hid_of (HO2.out.below b3)
  have B3 := b2.trans (b3.mono b2.size)
  have hn6' : (n6 : Int) ≤ 192 := by omega
  have hm7' : (m7 : Int) ≤ 192 := by omega
  clear hG hO hGm b2 b3 HHb HO2 hL
  by_cases hz : m7 = 0
  · subst hz
    have N0 := hid_of (NO.out _ B3 (fun h => by
      rcases HGm7.out with ⟨h1, h2⟩ | ⟨h1, -⟩
      · obtain ⟨o, ho, -⟩ := h.h.one
        omega
      · exact h1 h.h))
    clear NO B3 HO6 HO7 HGm HGm7
    go_wp2
    go_ret
    exact N0.out
  have hC : isG m C ∧ m7 = m := by
    rcases HGm7.out with h | h
    · exact h
    · exact absurd h.2 hz
  obtain ⟨hCg, rfl⟩ := hC
  have HC := hid_of hCg
  have hz' : ((m7 : Int) == 0) = false := by simp; omega
  have HR : Hid (∀ i, i < n6 → isG n A ∧ n6 = n ∧ kR (A i).key) := fun i hi => by
    rcases HGm.out with h | h
    · exact ⟨h.1, h.2, ok_R (h.1.2.1 i (by omega))⟩
    · omega
  have HRC : Hid (∀ i, i < m7 → kR (C i).key) := fun i hi => HC.out.key hi
  clear hCg HGm7 hm hmm
  go_wp2_with fail
  refine (membersOf_any HO6.out (fun i hi => small_R (HR.out i hi).2.2) (fun i j hij hj e => by
    have h1 := (HR.out j hj).1.2.2.1.lt hij (by have := (HR.out j hj).2.1; omega)
    rw [kV_inj.1 e] at h1
    omega) hn6).mono ?_
  rintro e w4 ⟨b0, rfl, hM4, hb4, b4⟩
  have HO64 := hid_of (HO6.out.below b4)
  have HO74 := hid_of (HO7.out.below b4)
  have B4 := B3.trans (b4.mono B3.size)
  clear HO6 HO7 B3 b4 hb4
  go_wp2_with fail
  refine (haveAll_any hM4.keys HO74.out (fun i hi => small_R (HRC.out i hi)) hm7).mono ?_
  rintro e w5 ⟨⟨r, rfl, hr⟩, b5⟩
  have HO65 := hid_of (HO64.out.below b5)
  have HO75 := hid_of (HO74.out.below b5)
  have B5 := B4.trans (b5.mono B4.size)
  have HSB : Hid (r = true ↔ SubG n A m7 C) := by
    refine ⟨fun e => ?_, fun hS => hr.2 (fun i hi => ?_)⟩
    · have h1 := hr.1 e
      have hG : isG n A ∧ n6 = n := by
        rcases HGm.out with h | h
        · exact h
        · have := h1 0 (by omega)
          rw [h.2] at this
          simp at this
      refine ⟨hG.1, HC.out, fun t ht => ?_⟩
      obtain ⟨k', hk', e2⟩ := List.mem_map.1 (h1 t ht)
      obtain ⟨j, hj, rfl⟩ := List.mem_map.1 hk'
      have := List.mem_range.1 hj
      exact ⟨j, by have := hG.2; omega, e2⟩
    · obtain ⟨j, hj, e2⟩ := hS.s i hi
      have hG : n6 = n := by
        rcases HGm.out with h | h
        · exact h.2
        · exact absurd hS.g h.1
      rw [← e2]
      exact List.mem_map_of_mem (List.mem_map.2 ⟨j, List.mem_range.2 (by omega), rfl⟩)
  clear HO64 HO74 B4 b5 hr hM4
  cases r
  · have N0 := hid_of (NO.out _ B5 (fun h => absurd (HSB.out.2 h) (by decide)))
    clear NO B5 HO65 HO75 HGm HSB
    go_wp2
    go_ret
    exact N0.out
  have HS := hid_of (HSB.out.1 rfl)
  have hnn6 : n6 = n := by
    rcases HGm.out with h | h
    · exact h.2
    · exact absurd HS.out.g h.1
  subst hnn6
  have HB5 := hid_of B5
  obtain ⟨W6, hW6, a6, b6, -⟩ := boxed w5 28 #[]
  obtain ⟨p6, hp6⟩ : ∃ q, w5.heap.size = q := ⟨_, rfl⟩
  have L6 : LsA W6 w5.heap.size (.slice (some ⟨p6, 0, none⟩) 0 0) 0 (fun _ => undef) m7 (fun _ => 0) (fun _ => 0) (fun s k => opD ((fun _ _ => oneK) s k)) := hp6 ▸ lsA_new a6
  obtain ⟨W7, hW7⟩ : ∃ W, W6.alloc (.map #[] 0) = W := ⟨_, rfl⟩
  obtain ⟨b, hb⟩ : ∃ b, W6.heap.size = b := ⟨_, rfl⟩
  have M7 : MapV W7 b [] := by rw [← hW7, ← hb]; exact mapV_new W6
  have b7 : Below W6.heap.size W6 W7 := hW7 ▸ below_alloc _ _
  have B7 : Below w5.heap.size w5 W7 := b6.trans (b7.mono b6.size)
  have hbl : w5.heap.size ≤ b := hb ▸ b6.size
  have J7 : Hid (CosJ w5 W7 n6 A m7 C b 0 0 (.slice (some ⟨p6, 0, none⟩) 0 0)) := ⟨_, _, _, fun _ _ => oneK, [], L6.below b7, M7, by simp, PlI.start _ _ _ _ _, PrtS.start _ _ _ _, B7⟩
  clear NO hn hnn HGm HSB L6 a6 M7 b6 b7 B7 B5 hz'
  go_wp2
  clear hW6 hp6 hW7 hb hmk
  go_loopw [7, 33] (fun v s wr => ∃ i L q cc : Nat, i ≤ n6 ∧ L ≤ i ∧ s = .int .i64 (i : Int) ∧ v = .slice (some ⟨q, 0, none⟩) L cc ∧ Hid (CosJ w5 wr n6 A m7 C b i L v)) (fun _ s _ => n6 - (intOf s).toNat)
  case atStart => exact ⟨0, 0, _, _, Nat.zero_le _, Nat.le_refl _, rfl, rfl, J7⟩
  case round =>
    clear J7
    obtain ⟨i, L, q, cc, hi, hLi, rfl, rfl, CJ⟩ := hrel
    by_cases hin : i < n6
    rotate_left
    · obtain rfl : i = n6 := by omega
      have hin' : ¬ (i : Int) < (i : Int) := by omega
      have FI : Hid (CosF w i A m7 C (.returned (.slice (some ⟨q, 0, none⟩) L cc)) wr) := by
        obtain ⟨V, S, T, B, ks, h1, -, -, -, h5, h6⟩ := CJ.out
        exact ⟨⟨_, L, V, S, T, B, rfl, h1.lower HB5.out.size, h5.cosT HS.out⟩, HB5.out.trans (h6.mono HB5.out.size)⟩
      clear CJ
      go_wp2
      go_ret
      exact FI.out
    have hin' : (i : Int) < (n6 : Int) := by omega
    obtain ⟨V, S, T, B, ks, CL, CM, ck, CP, CS, CW⟩ := CJ.out
    obtain ⟨e0, e1, e2, e3, e4, e5, e6, e7, e8, e9, e10, e11⟩ := (HO65.out.below CW).open i hin
    have HRi := hid_of (HR.out i hin).2.2
    obtain ⟨K, hK⟩ : ∃ K, (A i).key = K := ⟨_, rfl⟩
    have HK := hid_of hK
    rw [hK] at HRi
    simp only [hK] at e0 e1 e2 e3 e4 e5 e6 e7 e8 e9 e10 e11
    clear hK
    obtain ⟨W7, hW7, a7, b7, -⟩ := boxed wr 76 (kc K).toArray
    obtain ⟨p7, hp7⟩ : ∃ p, wr.heap.size = p := ⟨_, rfl⟩
    rw [hp7] at a7
    have B7 := CW.trans (b7.mono CW.size)
    obtain ⟨f0, f1, f2, f3, f4, f5, f6, f7, f8, f9, f10, f11⟩ := At.openk (x := K) a7
    have CH : Hid (Calls Try.prog 41 #[.map (some b), .agg #[.int .i64 (K 0), .int .i64 (K 1), .int .i64 (K 2), .int .i64 (K 3), .int .i64 (K 4), .int .i64 (K 5), .int .i64 (K 6), .int .i64 (K 7), .int .i64 (K 8), .int .i64 (K 9), .int .i64 (K 10), .int .i64 (K 11)]] W7 fun e w' => (∃ r, e = .returned (.bool r) ∧ (r = true ↔ kV K ∈ ks.map kV)) ∧ Below W7.heap.size W7 w') := have_any (CM.below b7) (small_R HRi.out)
    have CL7 := hid_of (CL.below b7)
    have CM7 := hid_of (CM.below b7)
    have HCP := hid_of CP
    have HCS := hid_of CS
    clear CJ CL CM CP CS CW b7
    unfold kc at hW7
    go_wp2_with fail
    refine CH.out.mono ?_
    rintro e w8 ⟨⟨r, rfl, hr⟩, b8⟩
    have B8 := B7.trans (b8.mono B7.size)
    have CL8 := hid_of (CL7.out.below b8)
    have CM8 := hid_of (CM7.out.below b8)
    have a78 := hid_of (a7.below b8)
    have HD : Hid (r = true ↔ dn A m7 C i i = true) := by
      rw [hr, ← HK.out, HCP.out i hin]
      constructor
      · rintro (h | ⟨u, h, -⟩)
        · exact h
        · omega
      · exact .inl
    clear f0 f1 f2 f3 f4 f5 f6 f7 f8 f9 f10 f11 e0 e1 e2 e3 e4 e5 e6 e7 e8 e9 e10 e11 hW7 hp7 a7 CH b8 B7 hr CL7 CM7
    cases r
    rotate_left
    · have e1 := HD.out.1 rfl
      have J8 : Hid (CosJ w5 w8 n6 A m7 C b (i + 1) L (.slice (some ⟨q, 0, none⟩) L cc)) := by
        refine ⟨V, S, T, B, ks, CL8.out, CM8.out, by omega, HCP.out.old e1, ?_, B8⟩
        have := HCS.out
        unfold PrtS at this ⊢
        rw [(dn_old e1 0).2]
        exact this
      clear HD e1 HCP HCS CL8 CM8 B8 a78
      go_wp2
      exact ⟨⟨i + 1, L, q, cc, by omega, by omega, by go_num, rfl, J8⟩, by simp [intOf]; omega⟩
    have hdf : dn A m7 C i i = false := by
      cases e : dn A m7 C i i
      · rfl
      · exact absurd (HD.out.2 e) (by decide)
    have HDF := hid_of hdf
    have CO : Hid (Calls Try.prog 42 #[.agg #[.int .i64 (K 0), .int .i64 (K 1), .int .i64 (K 2), .int .i64 (K 3), .int .i64 (K 4), .int .i64 (K 5), .int .i64 (K 6), .int .i64 (K 7), .int .i64 (K 8), .int .i64 (K 9), .int .i64 (K 10), .int .i64 (K 11)], .slice (some ⟨g7, 0, none⟩) m7 c7] w8 fun e w' => (∃ g' c' G, e = .returned (.slice (some ⟨g', 0, none⟩) m7 c') ∧ Oprs w' w8.heap.size (.slice (some ⟨g', 0, none⟩) m7 c') m7 G ∧ SortOf m7 (fun i => mulQ K (C i).key) G) ∧ Below w8.heap.size w8 w') := cosetOf_any (HO75.out.below B8) HRC.out HRi.out hm7
    obtain ⟨f0, f1, f2, f3, f4, f5, f6, f7, f8, f9, f10, f11⟩ := At.openk (x := K) a78.out
    clear HD hdf
    go_wp2_with fail
    refine CO.out.mono ?_
    rintro e w9 ⟨⟨g9, c9, G, rfl, hP9, hS9⟩, b9⟩
    have B9 := B8.trans (b9.mono B8.size)
    have CL9 := hid_of (CL8.out.below b9)
    have CM9 := hid_of (CM8.out.below b9)
    have HP9 := hid_of hP9
    have HPB : Hid (PartB A m7 C i (fun k => opD (G k))) := sortOf_part (by rw [HK.out]; exact hS9)
    have HSM : Hid (∀ k, k < m7 → small (G k)) := fun k hk => by
      obtain ⟨k', hk', e⟩ := HPB.out.at hk
      obtain ⟨j, hj, ej⟩ := HS.out.prod hin hk'
      have h1 : kV (A j).key = kV (G k) := ej.trans (e.symm.trans (opD_keyK (G k)))
      exact small_R (kR_congr h1 (HS.out.g.key hj))
    have hb9 : b < w8.heap.size := CM8.out.lt
    have hg9 := hP9.lt.1
    have PI : Hid (MapV w9 b ks ∧ ks.length ≤ 200 * i + 0 ∧ PlI ks n6 A m7 C i 0 G ∧ w9.grownBy w9 (some b)) := ⟨CM9.out, by omega, HCP.out.open, grown_refl _ _⟩
    clear f0 f1 f2 f3 f4 f5 f6 f7 f8 f9 f10 f11 CO CL8 CM8 hP9 hS9 HCP ck a78

    go_wp2
    go_loopw [45] (fun s wz => ∃ (t : Nat) (ks : List (Nat → Int)), t ≤ m7 ∧ s = .int .i64 (t : Int) ∧ Hid (MapV wz b ks ∧ ks.length ≤ 200 * i + t ∧ PlI ks n6 A m7 C i t G ∧ w9.grownBy wz (some b))) (fun s _ => m7 - (intOf s).toNat)
    case atStart => exact ⟨0, _, Nat.zero_le _, rfl, PI⟩
    case round =>
      clear PI
      obtain ⟨t, ks, ht, rfl, PI⟩ := hrel
      rename World => wz
      obtain ⟨CM, ck, CP, GB⟩ := PI.out
      by_cases htm : t < m7
      rotate_left
      · obtain rfl : t = m7 := by omega
        have htm' : ¬ (t : Int) < (t : Int) := by omega
        have Bz : Below w5.heap.size w5 wz := B9.grown GB B9.size (fun q hq => by simp only [Option.some.injEq] at hq; omega)
        have Lz := hid_of (CL9.out.alien GB (alien_map CM9.out))
        have Pz : Oprs wz w8.heap.size (.slice (some ⟨g9, 0, none⟩) t c9) t G := HP9.out.of_block (GB.block g9 HP9.out.lt.2 (fun e => by simp only [Option.some.injEq] at e; omega))
        have HCP2 : Hid (PlI ks n6 A t C (i + 1) 0 (fun _ => oneK)) := CP.done HDF.out HPB.out
        have HM := hid_of CM
        clear PI CM CP GB
        go_wp2_with fail
        refine (toldOps_any Pz (by omega)).mono ?_
        rintro e w10 ⟨⟨ga, ca, X, Y, rfl, hOA⟩, b10⟩
        obtain ⟨W11, hW11, a11, b11, -⟩ := boxed w10 28 #[.slice (some ⟨ga, 0, none⟩) t ca]
        obtain ⟨p11, hp11⟩ : ∃ q, w10.heap.size = q := ⟨_, rfl⟩
        rw [hp11] at a11
        have b1011 := b10.trans (b11.mono b10.size)
        have B11 := hid_of (Bz.trans (b1011.mono Bz.size))
        have L11 := hid_of (Lz.out.below b1011)
        have M11 := hid_of (HM.out.below b1011)
        have OA := hid_of (hOA.below b11)
        have hhi : Hid (w10.heap.size ≤ W11.heap.size) := b11.size
        have hb1011 := hid_of b1011
        have hBzs : Hid (w5.heap.size ≤ wz.heap.size) := Bz.size
        have row11 := hid_of L11.out.row
        have hm1 : L + 1 ≤ maxLen := by unfold maxLen; omega
        have hm2 : (L + 1) * 24 ≤ 140737488355328 := by omega
        clear hOA b10 b11 b1011 Bz Pz HM
        go_wp2_with (at_builtin; refine Hid.out (?_ : Hid _))
        refine (?_ : wpList _ _ _ _ _ _)
        refine wpList_append_own_at _ rfl _ _ _ rfl w5.heap.size 28 i0 _ 1 24 Try.underlying37 hi0 hz0 hz1 hz2 rfl (by omega) (.slice (some ⟨q, 0, none⟩) L cc) L ((List.range L).map V) rfl row11.out ⟨p11, 0, none⟩ 1 1 [.slice (some ⟨ga, 0, none⟩) t ca] rfl rfl (news1 a11) (by intro u hu; simp at hu; subst hu; rfl) hm1 hm2 B11.out.size ?_
        intro v12 w12 hown12 hgrow12 hne12 hblk12
        have N12 := Lz.out.next (c := ca) hBzs.out hb1011.out OA.out hhi.out hgrow12 hown12 (fun e => by have := (hne12.1 e).2; omega) hblk12
        obtain ⟨q12, c12, cur12, e12, -⟩ := N12.open
        subst e12
        have M12 : MapV w12 b ks := M11.out.of_block (hgrow12.block b M11.out.lt (fun e => by
          have e' : Value.ownBlock (.slice (some ⟨q, 0, none⟩) L cc) = some b := e.symm
          have h1 := row_open L11.out.row L11.out.nn
          obtain ⟨qq, dd, cur, e2, -, a, -⟩ := h1
          cases e2
          cases e'
          exact absurd rfl (M11.out.ne_at a)))
        rw [addAt_op] at N12
        have PS : PrtS A t C (i + 1) (L + 1) (fun s k => opD (addAt B L G s k)) := by
          rw [← addAt_op]
          exact HCS.out.add (dn_new HDF.out 0).2 HPB.out (fun _ _ => ⟨rfl, rfl⟩)
        have J12 : Hid (CosJ w5 w12 n6 A t C b (i + 1) (L + 1) (.slice (some ⟨q12, 0, none⟩) (L + 1) c12)) := ⟨_, _, _, _, ks, N12, M12, by omega, HCP2.out, PS, B11.out.grown hgrow12 B11.out.size (fun x hx => ownBlock_ge row11.out hx)⟩
        clear hown12 hgrow12 hne12 hblk12 N12 M12 PS Lz L11 M11 OA hhi hb1011 hBzs B11 row11 a11 hW11 hp11 hm1 hm2 HCP2 HCS CL9 CM9 HP9 HPB HDF
        go_wp2
        exact ⟨⟨i + 1, L + 1, q12, c12, by omega, by omega, by go_num, rfl, J12⟩, by simp [intOf]; omega⟩
      have htm' : (t : Int) < (m7 : Int) := by omega
      have Pz : Oprs wz w8.heap.size (.slice (some ⟨g9, 0, none⟩) m7 c9) m7 G := HP9.out.of_block (GB.block g9 HP9.out.lt.2 (fun e => by simp only [Option.some.injEq] at e; omega))
      obtain ⟨e0, e1, e2, e3, e4, e5, e6, e7, e8, e9, e10, e11⟩ := Pz.open t htm
      have hsm := HSM.out t htm
      obtain ⟨P, hP⟩ : ∃ P, G t = P := ⟨_, rfl⟩
      have HP := hid_of hP
      rw [hP] at hsm
      simp only [hP] at e0 e1 e2 e3 e4 e5 e6 e7 e8 e9 e10 e11
      clear hP
      obtain ⟨Wb, hWb, ab, bb, -⟩ := boxed wz 76 (kc P).toArray
      obtain ⟨pb, hpb⟩ : ∃ p, wz.heap.size = p := ⟨_, rfl⟩
      rw [hpb] at ab
      obtain ⟨wc, ks', hst, hMc, hkc, hlc, gc, zc⟩ := (CM.below bb).any (n := (L : Int)) hsm (wf_small (by omega)) (by unfold maxLen; omega)
      have PI2 : Hid (MapV wc b ks' ∧ ks'.length ≤ 200 * i + (t + 1) ∧ PlI ks' n6 A m7 C i (t + 1) G ∧ w9.grownBy wc (some b)) := ⟨hMc, by omega, CP.next hkc HP.out, gb_same (gb_below GB bb) gc⟩
      obtain ⟨f0, f1, f2, f3, f4, f5, f6, f7, f8, f9, f10, f11⟩ := At.openk (x := P) ab
      clear PI CM ck CP GB Pz hMc hkc hlc gc zc bb hsm
      unfold kV at hst
      unfold kc at hst hWb
      go_wp2
      exact ⟨⟨t + 1, ks', by omega, by go_num, PI2⟩, by simp [intOf]; omega⟩
end Go.Proofs.Ytehbpcoiciodhaa
