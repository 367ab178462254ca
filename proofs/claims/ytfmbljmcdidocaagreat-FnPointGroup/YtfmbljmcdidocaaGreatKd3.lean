/-
  Kinds by the program: walked.
-/
import Derived.Test.YtfmbljmcdidocaaGreatOA
import Derived.Test.YtfmbljmcdidocaaGreatMpKb
import Derived.Test.YtfmbljmcdidocaaGreatOB
import Derived.Deep.CutRange
namespace Go.Proofs.YtfmbljmcdidocaaGreat
open Go.RowKit

/-- Rows laid one behind the other. -/
def flL (l : List Q4Kn) (i : Nat) : Int := t4f (l.getD (i / 4) (0, 0, 0, 0)) (i % 4)
def flR (R : Nat → Q4Kn) (i : Nat) : Int := t4f (R (i / 4)) (i % 4)
theorem flL_add (l : List Q4Kn) (x : Q4Kn) : ∀ i, i < (l.length + 1) * 4 → catK (flL l) (l.length * 4) (flL [x]) i = flL (l ++ [x]) i := by
  intro i hi
  unfold catK flL
  by_cases e : i < l.length * 4
  · rw [if_pos e, List.getD_eq_getElem?_getD, List.getD_eq_getElem?_getD, List.getElem?_append_left (by omega)]
  · rw [if_neg e, show (i - l.length * 4) / 4 = 0 by omega, show i / 4 = l.length by omega, show (i - l.length * 4) % 4 = i % 4 by omega]
    simp
theorem arL_c4 {w : World} {lo hi : Nat} {v : Value} {l : List Q4Kn} (h : ArK 4 36 w lo hi v l.length (flL l)) (hv : v ≠ .slice none 0 0) : ∃ g c, v = .slice (some ⟨g, 0, none⟩) l.length c ∧ lo ≤ g ∧ l.length ≤ c ∧ c ≤ maxLen ∧ C4 w g c l.toArray := by
  obtain ⟨g, c, e, h1, h2, h3, cur, a, hs, hc⟩ := h.nn hv
  refine ⟨g, c, e, h1, h2, h3, cur, a, hs, fun i hi => ?_⟩
  have hi' : i < l.length := by simpa using hi
  have e0 : l.toArray[i]! = l.getD i (0, 0, 0, 0) := by
    rw [getElem!_pos _ i hi, List.getD_eq_getElem?_getD, List.getElem?_eq_getElem hi']; simp
  rw [e0]
  have at4 : ∀ j, j < 4 → cur[i * 4 + j]? = some (.int .i64 (t4f (l.getD i (0, 0, 0, 0)) j)) := fun j hj => by
    rw [hc _ (by omega)]
    unfold flL
    rw [show (i * 4 + j) / 4 = i by omega, show (i * 4 + j) % 4 = j by omega]
  exact ⟨at4 0 (by omega), at4 1 (by omega), at4 2 (by omega), at4 3 (by omega)⟩
theorem c4_arR {w : World} {lo g c n : Nat} {d : Array Q4Kn} (h : C4 w g c d) (hd : d.size = n) (hl : lo ≤ g) (hn : n ≤ c) (hc : c ≤ maxLen) : ArK 4 36 w lo w.heap.size (.slice (some ⟨g, 0, none⟩) n c) n (flR (fun t => d[t]!)) := by
  obtain ⟨cur, a, hs, hH⟩ := h
  refine ArK.own ⟨cur, a, hs, fun i hi => ?_⟩ hl hn hc
  obtain ⟨p0, p1, p2, p3⟩ := hH (i / 4) (by omega)
  unfold flR
  rcases (by omega : i % 4 = 0 ∨ i % 4 = 1 ∨ i % 4 = 2 ∨ i % 4 = 3) with e | e | e | e <;> rw [e]
  · rw [show i = i / 4 * 4 by omega, show i / 4 * 4 / 4 = i / 4 by omega]; exact p0
  · rw [show i = i / 4 * 4 + 1 by omega, show (i / 4 * 4 + 1) / 4 = i / 4 by omega]; exact p1
  · rw [show i = i / 4 * 4 + 2 by omega, show (i / 4 * 4 + 2) / 4 = i / 4 by omega]; exact p2
  · rw [show i = i / 4 * 4 + 3 by omega, show (i / 4 * 4 + 3) / 4 = i / 4 by omega]; exact p3
theorem FinK.zero {q q' : Nat → Q4Kn} {L : Nat} {R : Nat → Q4Kn} (h : FinK q 0 L R) : FinK q' 0 L R := ⟨h.up, h.cnt, fun t ht => by obtain ⟨j, hj, -⟩ := h.of t ht; omega, fun j hj => by omega⟩
/-- The kinds of a group's turns, one by one. -/
def qK (A : Nat → OpD) (n : Nat) (j : Nat) : Q4Kn := kdQ (A (kI (dk A) n j)).f
theorem qK_zero (A : Nat → OpD) (n j : Nat) : pr0 (qK A n j) 0 = qK A n j := rfl
/-- The map behind k turns. -/
def KdI (wr : World) (bm k : Nat) (q : Nat → Q4Kn) : Prop :=
  ∃ ks F, MapKn wr bm ks F ∧ (∀ x, F x = cntK q k x) ∧ (∀ y, y ∈ ks ↔ ∃ i, i < k ∧ q i = y) ∧ ks.length ≤ k
theorem KdI.below {w w' : World} {bm k : Nat} {q : Nat → Q4Kn} (h : KdI w bm k q) (hb : Below w.heap.size w w') : KdI w' bm k q := by
  obtain ⟨ks, F, h1, h2⟩ := h
  exact ⟨ks, F, h1.below hb, h2⟩
theorem Oprs.openT {w : World} {base gu n c : Nat} {T : Nat → Nat → Int} (h : Oprs w base (.slice (some ⟨gu, 0, none⟩) n c) n (fun j => cat 9 (T j) (fun _ => 0))) (i : Nat) (hi : i < n) : w.cell? ⟨gu, i * 12, none⟩ = some (.int .i64 (T i 0)) ∧ w.cell? ⟨gu, i * 12 + 1, none⟩ = some (.int .i64 (T i 1)) ∧ w.cell? ⟨gu, i * 12 + 2, none⟩ = some (.int .i64 (T i 2)) ∧ w.cell? ⟨gu, i * 12 + 3, none⟩ = some (.int .i64 (T i 3)) ∧ w.cell? ⟨gu, i * 12 + 4, none⟩ = some (.int .i64 (T i 4)) ∧ w.cell? ⟨gu, i * 12 + 5, none⟩ = some (.int .i64 (T i 5)) ∧ w.cell? ⟨gu, i * 12 + 6, none⟩ = some (.int .i64 (T i 6)) ∧ w.cell? ⟨gu, i * 12 + 7, none⟩ = some (.int .i64 (T i 7)) ∧ w.cell? ⟨gu, i * 12 + 8, none⟩ = some (.int .i64 (T i 8)) ∧ w.cell? ⟨gu, i * 12 + 9, none⟩ = some (.int .i64 0) ∧ w.cell? ⟨gu, i * 12 + 10, none⟩ = some (.int .i64 0) ∧ w.cell? ⟨gu, i * 12 + 11, none⟩ = some (.int .i64 0) := h.open i hi
theorem Oprs.congrK {w : World} {base n : Nat} {v : Value} {F G : Nat → Nat → Int} (h : Oprs w base v n F) (e : ∀ i, i < n → kV (F i) = kV (G i)) : Oprs w base v n G := by
  have : kCells F n = kCells G n := kCells_congr (fun i hi j hj => lexC_zero.1 (kV_inj.1 (e i hi)) j hj)
  refine ⟨?_, h.2⟩
  rw [← this]
  exact h.1
theorem kept_gb {p : Nat} {w w' : World} (h : w.grownBy w' (some p)) : Kept p w w' := ⟨h.os, h.tape, h.output, h.size, fun k hk hne => h.block k hk (fun e => hne (by injection e))⟩
theorem four_recsK {w : World} {g : Nat} {x : Q4Kn} (a : At 36 w g #[.int .i64 x.1, .int .i64 x.2.1, .int .i64 x.2.2.1, .int .i64 x.2.2.2]) : Recs 4 w g 1 (flL [x]) :=
  ⟨a.lt, fun i hi => by
    rcases (by omega : i = 0 ∨ i = 1 ∨ i = 2 ∨ i = 3) with rfl | rfl | rfl | rfl
    · exact a.cell 0 rfl
    · exact a.cell 1 rfl
    · exact a.cell 2 rfl
    · exact a.cell 3 rfl⟩
/-- How Kinds ends. -/
def KdE (w : World) (n : Nat) (A : Nat → OpD) (e : Ending) (w' : World) : Prop :=
  (∃ (v : Value) (L m : Nat) (R : Nat → Q4Kn), e = .returned v ∧ v ≠ .slice none 0 0 ∧ ArK 4 36 w' w.heap.size w'.heap.size v L (flR R) ∧ L ≤ 192 ∧ (isG n A ∧ m = kN (dk A) n ∨ ¬ isG n A ∧ m = 0) ∧ FinK (qK A n) m L R) ∧ Below w.heap.size w w'
set_option maxRecDepth 100000 in
set_option maxHeartbeats 4000000 in
theorem implKinds_any {w : World} {g n c : Nat} {A : Nat → OpD} (hL : OpsL w g n A) (hn : n ≤ 1048576) :
    Calls Tryz.prog 13 #[.slice (some ⟨g, 0, none⟩) n c] w fun e w' => KdE w n A e w' := by
  have hmk := makeMapKn
  have HL := hid_of hL
  obtain ⟨W2, hW2⟩ : ∃ W, w.alloc (.map #[] 0) = W := ⟨_, rfl⟩
  obtain ⟨bm, hbm⟩ : ∃ q, w.heap.size = q := ⟨_, rfl⟩
  have B2 : Below w.heap.size w W2 := hW2 ▸ below_alloc _ _
  have M2 : Hid (MapKn W2 bm [] (fun _ => 0)) := by rw [← hbm, ← hW2]; exact mapKn_new w
  have hbw : w.heap.size ≤ bm := by omega
  have HBM := hid_of hbm
  clear hL
  go_enter Tryz.func13, Tryz.ntmps13
  go_wp2_with fail
  refine (groupOf_any (HL.out.below B2) hn).mono ?_
  rintro e w3 ⟨⟨v3, rfl, hG⟩, b3⟩
  obtain ⟨g3, n3, c3, rfl, hO, hn3, -, hGm⟩ := grp_one hG
  have HGm := hid_of hGm
  have HO := hid_of hO
  have B3 := B2.trans (b3.mono B2.size)
  have M3 := hid_of (M2.out.below b3)
  clear hG hO hGm hW2 B2 M2 b3
  go_wp2_with fail
  refine (turnsOf_any HO.out hn3).mono ?_
  rintro e w4 ⟨⟨v4, rfl, hT⟩, b4⟩
  have HR : Hid (∀ i, i < n3 → (A i).ok ∧ isG n A ∧ n3 = n) := fun i hi => by
    rcases HGm.out with ⟨h, e⟩ | ⟨-, e⟩
    · exact ⟨h.2.1 i (by omega), h, e⟩
    · omega
  obtain ⟨T, hTd⟩ : ∃ T : Nat → Nat → Int, (fun j => (A (kI (dk A) n3 j)).f) = T := ⟨_, rfl⟩
  obtain ⟨m, hm⟩ : ∃ m, kN (dk A) n3 = m := ⟨_, rfl⟩
  have hO4 : Oprs w4 w3.heap.size v4 m (fun j => cat 9 (T j) (fun _ => 0)) := by
    rw [← hm, ← hTd]
    exact hT.congrK (fun i _ => zk_key _)
  have hm3 : m ≤ n3 := by rw [← hm]; exact kN_le _ _
  have HTR : Hid (∀ j, j < m → isR (T j) (fun _ => 0)) := fun j hj => by
    rw [← hTd]
    exact isR_turn (HR.out _ (kI_lt (by rw [hm]; exact hj))).1.2.2
  obtain ⟨q, hq⟩ : ∃ q : Nat → Q4Kn, (fun j => kdQ (T j)) = q := ⟨_, rfl⟩
  have HQD : Hid (∀ j, q j = kdQ (T j)) := fun j => by rw [← hq]
  have HFIN : Hid (∀ L R, FinK q m L R → ∃ m', (isG n A ∧ m' = kN (dk A) n ∨ ¬ isG n A ∧ m' = 0) ∧ FinK (qK A n) m' L R) := fun L R hf => by
    rcases HGm.out with ⟨h, e⟩ | ⟨h, e⟩
    · refine ⟨m, .inl ⟨h, by rw [← hm, e]⟩, ?_⟩
      have : q = qK A n := by rw [← hq, ← hTd, e]; rfl
      rwa [this] at hf
    · have e0 : m = 0 := by omega
      exact ⟨0, .inr ⟨h, rfl⟩, by rw [e0] at hf; exact hf.zero⟩
  have M4 : Hid (KdI w4 bm 0 q) := ⟨[], fun _ => 0, M3.out.below b4, fun _ => rfl, fun y => ⟨fun h => (by cases h), fun ⟨i, hi, _⟩ => (by omega)⟩, by simp⟩
  have B4 := B3.trans (b4.mono B3.size)
  obtain ⟨g4, c4', rfl⟩ := oprs_open hO4
  have HO4 := hid_of hO4
  have hm' : (m : Int) ≤ 192 := by omega
  have hbl3 : bm < w3.heap.size := M3.out.lt
  clear hT hO4 hTd hm hq M3 B3 b4 HR HGm HO
  go_wp2
  go_loopw [14] (fun s wr => ∃ k : Nat, k ≤ m ∧ s = .int .i64 (k : Int) ∧ Hid (KdI wr bm k q) ∧ Kept bm w4 wr) (fun s _ => m - (intOf s).toNat)
  case atStart => exact ⟨0, Nat.zero_le _, rfl, M4, Kept.refl _ _⟩
  case round =>
    clear M4
    obtain ⟨k, hk, rfl, MI, B⟩ := hrel
    have hg4 : g4 < w4.heap.size ∧ g4 ≠ bm := by
      have h1 := HO4.out.lt
      exact ⟨h1.2, by omega⟩
    by_cases hlt : k < m
    · have hlt' : (k : Int) < (m : Int) := by omega
      have HOr := HO4.out.of_block (B.block g4 hg4.1 hg4.2)
      obtain ⟨e0, e1, e2, e3, e4, e5, e6, e7, e8, e9, e10, e11⟩ := HOr.openT k hlt
      have HRT := hid_of (HTR.out k hlt)
      have HQk := HQD.out k
      obtain ⟨f, hf⟩ : ∃ f, T k = f := ⟨_, rfl⟩
      rw [hf] at e0 e1 e2 e3 e4 e5 e6 e7 e8 HRT HQk
      obtain ⟨xa, hxa⟩ : ∃ x, (kdQ f).1 = x := ⟨_, rfl⟩
      obtain ⟨xb, hxb⟩ : ∃ x, (kdQ f).2.1 = x := ⟨_, rfl⟩
      obtain ⟨xc, hxc⟩ : ∃ x, (kdQ f).2.2.1 = x := ⟨_, rfl⟩
      have hX : kdQ f = (xa, xb, xc, 0) := by rw [← hxa, ← hxb, ← hxc]; rfl
      have HQ : Hid (q k = (xa, xb, xc, 0)) := hid_of (HQk.trans hX)
      have HAV : Hid (aVKn (kdQ f) = .agg #[.int .i64 xa, .int .i64 xb, .int .i64 xc, .int .i64 0]) := hid_of (by rw [hX]; rfl)
      have hsm : smKn (xa, xb, xc, 0) := by rw [← hX]; exact kdQ_sm HRT.out
      obtain ⟨W3, hW3, A5, bb, -⟩ := boxed wr 62 #[.int .i64 (f 0), .int .i64 (f 1), .int .i64 (f 2), .int .i64 (f 3), .int .i64 (f 4), .int .i64 (f 5), .int .i64 (f 6), .int .i64 (f 7), .int .i64 (f 8), .int .i64 0, .int .i64 0, .int .i64 0]
      obtain ⟨q5, hq5⟩ : ∃ q, wr.heap.size = q := ⟨_, rfl⟩
      have HQ5 := hid_of hq5
      rw [hq5] at A5
      replace B := B.trans (Kept.of_below bb)
      replace MI := hid_of (MI.out.below bb)
      have HW3 := hid_of hW3
      clear bb HOr HQk hf hxa hxb hxc hX hq5 hW3
      go_wp2_with fail
      rw [HW3.out, HQ5.out]
      clear HW3 HQ5 e0 e1 e2 e3 e4 e5 e6 e7 e8 e9 e10 e11
      obtain ⟨ks, F, hM, hF, hks, hle⟩ := MI.out
      have M := hid_of hM
      have hqm : q5 ≠ bm := hM.ne_at A5
      have hroom : ks.length < maxLen := by unfold maxLen; omega
      obtain ⟨n0, hn0⟩ : ∃ x, F (xa, xb, xc, 0) = x := ⟨_, rfl⟩
      have hbd := cntK_le q (xa, xb, xc, 0) k
      rw [← hF, hn0] at hbd
      obtain ⟨n1, hn1⟩ : ∃ x, x = n0 + 1 := ⟨_, rfl⟩
      have hw : IntKind.i64.wrap (n0 + 1) = n1 := by rw [hn1]; exact IntWalk.i64_in _ (by omega)
      have hwf : (Lit.int .i64 n1).wf = true := wfKn ⟨by omega, by omega⟩
      have HN := hid_of hn1
      have HF := hid_of hF
      have HKS := hid_of hks
      clear MI hM hn1 hF hks hbd
      obtain ⟨u0, hu0, bb⟩ : ∃ uu, W3.drew = uu ∧ Below W3.heap.size W3 uu := ⟨_, rfl, (Below.refl _ _).drew⟩
      replace A5 := A5.below bb
      replace B := B.trans (Kept.of_below bb)
      replace M := hid_of (M.out.below bb)
      clear bb
      refine wp_region_held_drew (S := fun w' => At 62 w' q5 #[.int .i64 (f 0), .int .i64 (f 1), .int .i64 (f 2), .int .i64 (f 3), .int .i64 (f 4), .int .i64 (f 5), .int .i64 (f 6), .int .i64 (f 7), .int .i64 (f 8), .int .i64 0, .int .i64 0, .int .i64 0]) (by kernel_rfl) (by rw [hu0]; exact A5) (fun hHeld => ?_)
      rw [hu0] at hHeld ⊢
      clear hu0
      change wpAnyH _ _ _ _ _ 8 #[false, false, false, false, false, false, false, false] _ _
      refine wpAnyH_take (i := 0) (v := .map (some bm)) rfl (by kernel_rfl) (by kernel_rfl) (by kernel_rfl) (fun _ _ _ h => h) (Or.inl ⟨by kernel_rfl, ?_⟩) hHeld ?_
      · intro w' hSw; go_simp
      try simp only [Act.put, List.setIfInBounds_toArray, List.set_cons_zero, List.set_cons_succ, List.getElem_toArray, List.getElem_cons_zero]
      refine wpAnyH_take (i := 1) (v := .agg #[.int .i64 (f 0), .int .i64 (f 1), .int .i64 (f 2), .int .i64 (f 3), .int .i64 (f 4), .int .i64 (f 5), .int .i64 (f 6), .int .i64 (f 7), .int .i64 (f 8), .int .i64 0, .int .i64 0, .int .i64 0]) rfl (by kernel_rfl) (by kernel_rfl) (by kernel_rfl) (fun _ _ _ h => h) (Or.inl ⟨by kernel_rfl, ?_⟩) hHeld ?_
      · intro w' hSw; obtain ⟨z0, z1, z2, z3, z4, z5, z6, z7, z8, z9, z10, z11⟩ := openT hSw; go_simp
      try simp only [Act.put, List.setIfInBounds_toArray, List.set_cons_zero, List.set_cons_succ, List.getElem_toArray, List.getElem_cons_succ, List.getElem_cons_zero]
      refine wpAnyH_ready (rs := [2]) (by kernel_rfl) (by simp) ?_
      refine AllReadyH.cons rfl (fun KK hK' => ?_) AllReadyH.nil
      go_simp
      refine (kind_any HRT.out _).mono ?_
      rintro e u1 ⟨rfl, bb⟩
      rw [HAV.out]
      replace A5 := A5.below bb
      replace M := hid_of (M.out.below bb)
      replace B := B.trans (Kept.of_below bb)
      clear bb
      try go_wp2_with fail
      clear hHeld
      refine hK'.out _ _ (A5) (fun hHeld => ?_)
      clear hK' KK
      try simp only [List.setIfInBounds_toArray, List.set_cons_zero, List.set_cons_succ]
      refine wpAnyH_ready (rs := [3, 5]) (by kernel_rfl) (by simp) ?_
      refine AllReadyH.cons rfl (fun KK hK' => ?_) (AllReadyH.cons rfl (fun KK hK' => ?_) AllReadyH.nil)
      · have hlk : (Instr.lookup 56 (.map (some bm)) (.agg #[.int .i64 xa, .int .i64 xb, .int .i64 xc, .int .i64 0]) false).run Tryz.prog u1 = .ok (.int .i64 n0) u1 := by rw [← hn0]; exact M.out.look (x := (xa, xb, xc, 0)) hsm
        go_simp
        clear hlk
        clear hHeld
        refine hK'.out _ _ (A5) (fun hHeld => ?_)
        clear hK' KK
        try simp only [List.setIfInBounds_toArray, List.set_cons_zero, List.set_cons_succ]
        refine wpAnyH_take (i := 4) (v := .int .i64 (n1)) rfl (by kernel_rfl) (by kernel_rfl) (by kernel_rfl) (fun _ _ _ h => h) (Or.inl ⟨by kernel_rfl, ?_⟩) hHeld ?_
        · intro w' hSw; go_simp
        try simp only [Act.put, List.setIfInBounds_toArray, List.set_cons_zero, List.set_cons_succ, List.getElem_toArray, List.getElem_cons_succ, List.getElem_cons_zero]
        refine wpAnyH_ready (rs := [5]) (by kernel_rfl) (by simp) ?_
        refine AllReadyH.cons rfl (fun KK hK' => ?_) AllReadyH.nil
        obtain ⟨v0, st, u3, he, hg1, hs1, hlk2, hst⟩ := M.out.bump (x := (xa, xb, xc, 0)) hsm hroom
        replace he : (Instr.mapEntry 56 (.map (some bm)) (.agg #[.int .i64 xa, .int .i64 xb, .int .i64 xc, .int .i64 0])).run Tryz.prog u1 = .ok (.tuple #[v0, .int .i64 (st : Int)]) u3 := he
        replace hlk2 : (Instr.lookup 56 (.map (some bm)) (.agg #[.int .i64 xa, .int .i64 xb, .int .i64 xc, .int .i64 0]) false).run Tryz.prog u3 = .ok (.int .i64 n0) u3 := by rw [← hn0]; exact hlk2
        go_simp
        have A5o := A5
        replace A5 : At 62 u3 q5 #[.int .i64 (f 0), .int .i64 (f 1), .int .i64 (f 2), .int .i64 (f 3), .int .i64 (f 4), .int .i64 (f 5), .int .i64 (f 6), .int .i64 (f 7), .int .i64 (f 8), .int .i64 0, .int .i64 0, .int .i64 0] := (hg1.block q5 A5.lt (fun e => hqm (by injection e))).trans A5
        clear he
        clear hHeld
        refine hK'.out _ _ (A5) (fun hHeld => ?_)
        clear hK' KK
        try simp only [List.setIfInBounds_toArray, List.set_cons_zero, List.set_cons_succ]
        refine wpAnyH_take (i := 6) (v := .int .i64 ((st : Int))) rfl (by kernel_rfl) (by kernel_rfl) (by kernel_rfl) (fun _ _ _ h => h) (Or.inl ⟨by kernel_rfl, ?_⟩) hHeld ?_
        · intro w' hSw; go_simp
        try simp only [Act.put, List.setIfInBounds_toArray, List.set_cons_zero, List.set_cons_succ, List.getElem_toArray, List.getElem_cons_succ, List.getElem_cons_zero]
        refine wpAnyH_ready (rs := [7]) (by kernel_rfl) (by simp) ?_
        refine AllReadyH.cons rfl (fun KK hK' => ?_) AllReadyH.nil
        obtain ⟨u4, ks2, he, M2, hks2, hle2, hg2, hs2⟩ := hst n1 hwf
        go_simp
        replace A5 : At 62 u4 q5 #[.int .i64 (f 0), .int .i64 (f 1), .int .i64 (f 2), .int .i64 (f 3), .int .i64 (f 4), .int .i64 (f 5), .int .i64 (f 6), .int .i64 (f 7), .int .i64 (f 8), .int .i64 0, .int .i64 0, .int .i64 0] := (hg2.block q5 A5o.lt (fun e => hqm (by injection e))).trans A5o
        clear he hst hg1 hs1 A5o
        clear hHeld
        refine hK'.out _ _ (A5) (fun hHeld => ?_)
        clear hK' KK
        try simp only [List.setIfInBounds_toArray, List.set_cons_zero, List.set_cons_succ]
        refine wpAnyH_done (by kernel_rfl) ?_ _
        clear hHeld
        replace B : Kept bm w4 u4 := B.trans (kept_gb hg2)
        clear hg2 hs2 M
        have HI : Hid (KdI u4 bm (k + 1) q) := by
          refine ⟨ks2, _, M2, fun x => ?_, fun y => ?_, ?_⟩
          · have e := set_cnt HF.out x
            rw [HQ.out] at e
            rw [HN.out, ← hn0]
            exact e
          · rw [hks2, HKS.out]
            constructor
            · rintro (⟨i, hi, h⟩ | h)
              · exact ⟨i, by omega, h⟩
              · exact ⟨k, by omega, by rw [HQ.out]; exact h.symm⟩
            · rintro ⟨i, hi, h⟩
              by_cases e : i = k
              · subst e
                exact .inr (by rw [← h]; exact HQ.out)
              · exact .inl ⟨i, by omega, h⟩
          · omega
        clear A5 hks2 M2 HF HN HKS HQ hn0 hsm hroom hw hwf hqm HRT hle2 hle
        go_wp2
        exact ⟨⟨k + 1, by omega, by go_num, HI, B⟩, by simp [intOf]; omega⟩
      · obtain ⟨v0, st, u2, he, hg1, hs1, hlk2, hst⟩ := M.out.bump (x := (xa, xb, xc, 0)) hsm hroom
        replace he : (Instr.mapEntry 56 (.map (some bm)) (.agg #[.int .i64 xa, .int .i64 xb, .int .i64 xc, .int .i64 0])).run Tryz.prog u1 = .ok (.tuple #[v0, .int .i64 (st : Int)]) u2 := he
        replace hlk2 : (Instr.lookup 56 (.map (some bm)) (.agg #[.int .i64 xa, .int .i64 xb, .int .i64 xc, .int .i64 0]) false).run Tryz.prog u2 = .ok (.int .i64 n0) u2 := by rw [← hn0]; exact hlk2
        go_simp
        have A5o := A5
        replace A5 : At 62 u2 q5 #[.int .i64 (f 0), .int .i64 (f 1), .int .i64 (f 2), .int .i64 (f 3), .int .i64 (f 4), .int .i64 (f 5), .int .i64 (f 6), .int .i64 (f 7), .int .i64 (f 8), .int .i64 0, .int .i64 0, .int .i64 0] := (hg1.block q5 A5.lt (fun e => hqm (by injection e))).trans A5
        clear he
        clear hHeld
        refine hK'.out _ _ (A5) (fun hHeld => ?_)
        clear hK' KK
        try simp only [List.setIfInBounds_toArray, List.set_cons_zero, List.set_cons_succ]
        refine wpAnyH_take (i := 6) (v := .int .i64 ((st : Int))) rfl (by kernel_rfl) (by kernel_rfl) (by kernel_rfl) (fun _ _ _ h => h) (Or.inl ⟨by kernel_rfl, ?_⟩) hHeld ?_
        · intro w' hSw; go_simp
        try simp only [Act.put, List.setIfInBounds_toArray, List.set_cons_zero, List.set_cons_succ, List.getElem_toArray, List.getElem_cons_succ, List.getElem_cons_zero]
        refine wpAnyH_ready (rs := [3]) (by kernel_rfl) (by simp) ?_
        refine AllReadyH.cons rfl (fun KK hK' => ?_) AllReadyH.nil
        go_simp
        clear hlk2
        clear hHeld
        refine hK'.out _ _ (A5) (fun hHeld => ?_)
        clear hK' KK
        try simp only [List.setIfInBounds_toArray, List.set_cons_zero, List.set_cons_succ]
        refine wpAnyH_take (i := 4) (v := .int .i64 (n1)) rfl (by kernel_rfl) (by kernel_rfl) (by kernel_rfl) (fun _ _ _ h => h) (Or.inl ⟨by kernel_rfl, ?_⟩) hHeld ?_
        · intro w' hSw; go_simp
        try simp only [Act.put, List.setIfInBounds_toArray, List.set_cons_zero, List.set_cons_succ, List.getElem_toArray, List.getElem_cons_succ, List.getElem_cons_zero]
        refine wpAnyH_ready (rs := [7]) (by kernel_rfl) (by simp) ?_
        refine AllReadyH.cons rfl (fun KK hK' => ?_) AllReadyH.nil
        obtain ⟨u4, ks2, he, M2, hks2, hle2, hg2, hs2⟩ := hst n1 hwf
        go_simp
        replace A5 : At 62 u4 q5 #[.int .i64 (f 0), .int .i64 (f 1), .int .i64 (f 2), .int .i64 (f 3), .int .i64 (f 4), .int .i64 (f 5), .int .i64 (f 6), .int .i64 (f 7), .int .i64 (f 8), .int .i64 0, .int .i64 0, .int .i64 0] := (hg2.block q5 A5o.lt (fun e => hqm (by injection e))).trans A5o
        clear he hst hg1 hs1 A5o
        clear hHeld
        refine hK'.out _ _ (A5) (fun hHeld => ?_)
        clear hK' KK
        try simp only [List.setIfInBounds_toArray, List.set_cons_zero, List.set_cons_succ]
        refine wpAnyH_done (by kernel_rfl) ?_ _
        clear hHeld
        replace B : Kept bm w4 u4 := B.trans (kept_gb hg2)
        clear hg2 hs2 M
        have HI : Hid (KdI u4 bm (k + 1) q) := by
          refine ⟨ks2, _, M2, fun x => ?_, fun y => ?_, ?_⟩
          · have e := set_cnt HF.out x
            rw [HQ.out] at e
            rw [HN.out, ← hn0]
            exact e
          · rw [hks2, HKS.out]
            constructor
            · rintro (⟨i, hi, h⟩ | h)
              · exact ⟨i, by omega, h⟩
              · exact ⟨k, by omega, by rw [HQ.out]; exact h.symm⟩
            · rintro ⟨i, hi, h⟩
              by_cases e : i = k
              · subst e
                exact .inr (by rw [← h]; exact HQ.out)
              · exact .inl ⟨i, by omega, h⟩
          · omega
        clear A5 hks2 M2 HF HN HKS HQ hn0 hsm hroom hw hwf hqm HRT hle2 hle
        go_wp2
        exact ⟨⟨k + 1, by omega, by go_num, HI, B⟩, by simp [intOf]; omega⟩
    · have hlt' : ¬ (k : Int) < (m : Int) := by omega
      obtain rfl : k = m := by omega
      obtain ⟨ks, F, M, hF, hks, hle⟩ := MI.out
      have HF := hid_of hF
      have HKS := hid_of hks
      have HND := hid_of M.nodup
      have hbs : ∀ w, (Instr.buildSlice 33 0 #[]).run Tryz.prog w = .ok (.slice (some ⟨w.heap.size, 0, none⟩) 0 0) (w.alloc (.cells #[] 36)) := fun _ => by kernel_rfl
      have hbs1 : ∀ x0 x1 x2 x3 w, (Instr.buildSlice 33 1 #[(0, .agg #[.int .i64 x0, .int .i64 x1, .int .i64 x2, .int .i64 x3])]).run Tryz.prog w = .ok (.slice (some ⟨w.heap.size, 0, none⟩) 1 1) (w.alloc (.cells #[.int .i64 x0, .int .i64 x1, .int .i64 x2, .int .i64 x3] 36)) := fun _ _ _ _ _ => by kernel_rfl
      have B0 : Below w.heap.size w wr := B4.trans (B.below hbw B4.size)
      obtain ⟨W5, hW5, a5, b5, -⟩ := boxed wr 36 #[]
      obtain ⟨p5, hp5⟩ : ∃ q, wr.heap.size = q := ⟨_, rfl⟩
      have HP5 := hid_of hp5
      rw [hp5] at a5
      have B5 := B0.trans (b5.mono B0.size)
      have M5 := M.below b5
      obtain ⟨W6, hW6, I6, b6, -⟩ := M5.range
      obtain ⟨r6, hr6⟩ : ∃ q, W5.heap.size = q := ⟨_, rfl⟩
      rw [hr6] at I6 hW6
      have hpw : w.heap.size ≤ p5 := by have := B0.size; omega
      have O6 : Hid (ArK 4 36 W6 w.heap.size W6.heap.size (.slice (some ⟨p5, 0, none⟩) 0 0) 0 (flL [])) := ArK.own ⟨#[], a5.below b6, rfl, fun i hi => by omega⟩ hpw (Nat.le_refl _) (Nat.zero_le _)
      have B6 := B5.trans (b6.mono B5.size)
      have HI := hid_of I6
      have hbm6 : w.heap.size ≤ r6 := by have := B5.size; omega
      clear M MI hF hks B0 a5 b5 M5 I6 b6 B5 hr6 hp5 B
      go_wp2
      clear hW6 hW5
      rw [HP5.out]
      go_loopw [6, 30] (fun v _ wr => ∃ (l left : List Q4Kn) (N gq cq : Nat), Hid (N = l.length) ∧ v = .slice (some ⟨gq, 0, none⟩) N cq ∧ Hid (ItKn wr bm r6 ks F left) ∧ Hid (ArK 4 36 wr w.heap.size wr.heap.size v N (flL (l.map (fun x => pr0 x (F x))))) ∧ Hid (l.Nodup ∧ (∀ y, y ∈ ks ↔ y ∈ l ∨ y ∈ left) ∧ ∀ y, y ∈ l → y ∉ left) ∧ l.length + left.length ≤ ks.length ∧ Below w.heap.size w wr) (fun _ _ wr => lfKn wr r6)
      case atStart => exact ⟨[], ks, 0, _, _, rfl, rfl, HI, O6, ⟨List.nodup_nil, fun y => by simp, fun y hy => by cases hy⟩, by simp, B6⟩
      case round =>
        clear HI O6 B6
        obtain ⟨l, left, N, gq, cq, HNN, rfl, I, O, D, hll, B⟩ := hrel
        obtain rfl : N = l.length := HNN.out
        clear HNN
        rename World => wz
        have HLF := hid_of (lfKn_is I.out)
        rcases I.out.next 0 with ⟨rfl, hrun⟩ | ⟨x, w', left', hrun, hent, I2, hx, hlf, hlt2, hgr, -⟩
        · have hl192 : l.length ≤ 192 := by simp at hll; omega
          obtain ⟨gq', cq', e', hlo, hlc, hcm, C⟩ := arL_c4 (l := l.map (fun x => pr0 x (F x))) (by rw [List.length_map]; exact O.out) (by intro h; cases h)
          rw [List.length_map] at e' hlc
          cases e'
          have HC := hid_of C
          clear C I O HLF
          go_wp2_with fail
          refine (sortK4_any HC.out (by simp) (by omega) hlc).mono ?_
          rintro e w9 ⟨rfl, ⟨d, hd, hp, hs, C9⟩, hk⟩
          have B9 : Below w.heap.size w w9 := B.trans (hk.below hlo B.size)
          have FI : Hid (KdE w n A (.returned (.slice (some ⟨gq, 0, none⟩) l.length cq)) w9) := by
            have hrow : (l.map (fun x => pr0 x (F x))) = l.map (fun x => pr0 x (cntK q k x)) := List.map_congr_left (fun x _ => by rw [HF.out])
            have fin := fin_sorted (q := q) (m := k) (l := l) (d := d) (fun j _ => by rw [HQD.out]; rfl) D.out.1 (fun y => by rw [← HKS.out, D.out.2.1]; simp) hd (by rw [← hrow]; simpa using hp) hs
            obtain ⟨m', hm', hf'⟩ := HFIN.out _ _ fin
            exact ⟨⟨_, l.length, m', _, rfl, (fun h => by cases h), c4_arR C9 hd hlo hlc hcm, hl192, hm', hf'⟩, B9⟩
          clear hd hp hs C9 hk HC D B9
          go_wp2
          go_ret
          exact FI.out
        · obtain ⟨x0, x1, x2, x3⟩ := x
          obtain ⟨y, hy⟩ : ∃ v, F (x0, x1, x2, x3) = v := ⟨_, rfl⟩
          rw [hy] at hrun hent
          replace hrun : (Instr.next (.pointer (some ⟨r6, 0, none⟩)) false 0).run Tryz.prog wz = .ok (.tuple #[.bool true, .agg #[.int .i64 x0, .int .i64 x1, .int .i64 x2, .int .i64 x3], .int .i64 y]) w' := hrun
          replace hent : (Instr.entry (.pointer (some ⟨r6, 0, none⟩))).run Tryz.prog w' = .ok (.tuple #[.agg #[.int .i64 x0, .int .i64 x1, .int .i64 x2, .int .i64 x3], .int .i64 y]) w' := hent
          have BF : Below w.heap.size w w' := B.grown hgr B.size (fun q hq => by simp only [Option.some.injEq] at hq; omega)
          obtain ⟨gq', cq', e', hlo, hlc, hcm, cur, a, hs, hc⟩ := O.out.nn (by intro h; cases h)
          cases e'
          have hneq := I.out.ne_at a
          have a' : At 36 w' gq cur := (hgr.block gq a.lt (fun e => hneq.2 (by injection e))).trans a
          have HNQ := hid_of hneq
          have HY := hid_of hy
          have HLT : Hid (left'.length < lfKn wz r6) := by rw [HLF.out]; exact hlt2
          have HD2 : Hid ((l ++ [(x0, x1, x2, x3)]).Nodup ∧ (∀ z, z ∈ ks ↔ z ∈ l ++ [(x0, x1, x2, x3)] ∨ z ∈ left') ∧ ∀ z, z ∈ l ++ [(x0, x1, x2, x3)] → z ∉ left') := by
            obtain ⟨d1, d2, d3⟩ := D.out
            refine ⟨List.nodup_append.2 ⟨d1, by simp, fun u hu v hv e => ?_⟩, fun z => ?_, fun z hz => ?_⟩
            · rw [List.mem_singleton.1 hv] at e
              exact d3 u hu (by rw [e]; exact hx)
            · rw [d2, hlf]
              simp only [List.mem_append, List.mem_singleton]
              constructor
              · rintro (h | h)
                · exact .inl (.inl h)
                · by_cases e : z = (x0, x1, x2, x3)
                  · exact .inl (.inr e)
                  · exact .inr ⟨h, e⟩
              · rintro ((h | h) | h)
                · exact .inl h
                · exact .inr (by rw [h]; exact hx)
                · exact .inr h.1
            · rw [hlf]
              rcases List.mem_append.1 hz with h | h
              · exact fun h2 => d3 z h h2.1
              · exact fun h2 => h2.2 (List.mem_singleton.1 h)
          have hll2 : l.length + 1 + left'.length ≤ ks.length := by omega
          have hO' : ArK 4 36 w' w.heap.size w'.heap.size (.slice (some ⟨gq, 0, none⟩) l.length cq) l.length (flL (l.map (fun x => pr0 x (F x)))) := ArK.own ⟨cur, a', hs, hc⟩ hlo hlc hcm
          clear D hlf hx hlt2 HLF I O hneq hgr a hs hc B hy hll
          obtain ⟨W7, hW7, A7, b7, -⟩ := boxed w' 36 #[.int .i64 x0, .int .i64 x1, .int .i64 x2, .int .i64 x3]
          obtain ⟨q7, hq7⟩ : ∃ q, w'.heap.size = q := ⟨_, rfl⟩
          rw [hq7] at A7
          have hgq7 : gq ≠ q7 := by have := a'.lt; omega
          have I7 := I2.below b7
          have hne7 := I7.ne_at A7
          have hq7w : w.heap.size ≤ q7 := by have := BF.size; omega
          have B7 := BF.trans (b7.mono BF.size)
          have K7 : Kept q7 W7 (W7.setCell ⟨q7, 3, none⟩ (.int .i64 y)) := (Kept.refl _ _).set _
          have A8 := A7.set 3 (.int .i64 y)
          obtain ⟨W8, hW8⟩ : ∃ W, W7.setCell ⟨q7, 3, none⟩ (.int .i64 y) = W := ⟨_, rfl⟩
          rw [hW8] at K7 A8
          have A8' : At 36 W8 q7 #[.int .i64 x0, .int .i64 x1, .int .i64 x2, .int .i64 y] := A8
          have I8 := I7.of_blocks (K7.block bm I7.map.1 (fun e => hne7.1 e.symm)) (K7.block r6 I7.map.2 (fun e => hne7.2 e.symm))
          have aq8 : At 36 W8 gq cur := (K7.block gq (a'.below b7).lt hgq7).trans (a'.below b7)
          have B8 : Below w.heap.size w W8 := B7.trans (K7.below hq7w B7.size)
          obtain ⟨W9, hW9, A9, b9, -⟩ := boxed W8 36 #[.int .i64 x0, .int .i64 x1, .int .i64 x2, .int .i64 y]
          obtain ⟨q9, hq9⟩ : ∃ q, W8.heap.size = q := ⟨_, rfl⟩
          have HQ9 := hid_of hq9
          rw [hq9] at A9
          have I9 := hid_of (I8.below b9)
          have B9 := hid_of (B8.trans (b9.mono B8.size))
          have aq9 := aq8.below b9
          have hO9 : ArK 4 36 W9 w.heap.size W9.heap.size (.slice (some ⟨gq, 0, none⟩) l.length cq) l.length (flL (l.map (fun x => pr0 x (F x)))) := by
            rcases hO' with ⟨h, -⟩ | ⟨g', c', e, h1, h2, h3, h4, cur', h5, h6, h7⟩
            · cases h
            · cases e
              have : cur' = cur := by
                have := h5.symm.trans a'
                simpa using this
              subst this
              exact ArK.own ⟨cur', aq9, h6, h7⟩ h1 h3 h4
          have HO9 := hid_of hO9
          have HR9 := hid_of (four_recsK (x := (x0, x1, x2, y)) A9)
          obtain ⟨k0, k1, k2, k3, f0, f1, f2, f3⟩ := A7.openQ4
          obtain ⟨m0, m1, m2, m3, -⟩ := A8'.openQ4
          have hbs2 := hbs1 x0 x1 x2 y W8
          rw [hW9, hq9] at hbs2
          clear hO' hO9 a' aq8 aq9 I7 I8 I2 hne7 K7 A8 A8' A9 B7 B8 b7 b9 BF hq9 A7
          go_wp2_with (at_builtin; refine Hid.out (?_ : Hid _))
          refine (?_ : wpList _ _ _ _ _ _)
          rw [HQ9.out]
          refine wpListK_append Tryz.underlying33 infoKind rfl (by omega) (by omega) W9 rfl _ _ rfl (v := .slice (some ⟨gq, 0, none⟩) l.length cq) rfl HO9.out (ad := some ⟨q9, 0, none⟩) (m := 1) (c := 1) rfl (.inr ⟨q9, rfl, HR9.out⟩) (fun h => by cases h) (by omega) B9.out.size ?_
          intro v10 w10 hA10 hOnly hnn
          have hA11 : ArK 4 36 w10 w.heap.size w10.heap.size v10 (l.length + 1) (flL ((l ++ [(x0, x1, x2, x3)]).map (fun x => pr0 x (F x)))) := by
            have e1 : (l ++ [(x0, x1, x2, x3)]).map (fun x => pr0 x (F x)) = l.map (fun x => pr0 x (F x)) ++ [(x0, x1, x2, y)] := by
              rw [List.map_append, List.map_cons, List.map_nil, HY.out]; rfl
            rw [e1]
            refine hA10.same (fun i hi => ?_)
            have := flL_add (l.map (fun x => pr0 x (F x))) (x0, x1, x2, y) i (by rw [List.length_map]; exact hi)
            rwa [List.length_map] at this
          obtain ⟨g10, c10, e10, -⟩ := hA11.nn (hnn (by intro h; cases h))
          subst e10
          have HA11 := hid_of hA11
          have I10 := hid_of (I9.out.of_blocks (hOnly.block bm I9.out.map.1 (fun e => HNQ.out.1 (by injection e))) (hOnly.block r6 I9.out.map.2 (fun e => HNQ.out.2 (by injection e))))
          have B10 : Below w.heap.size w w10 := hOnly.belowK HO9.out (Nat.le_refl _) B9.out B9.out.size
          have HLT2 : Hid (lfKn w10 r6 < lfKn wz r6) := by rw [lfKn_is I10.out]; exact HLT.out
          have HLN : Hid (l.length + 1 = (l ++ [(x0, x1, x2, x3)]).length) := hid_of (by simp)
          have hll3 : (l ++ [(x0, x1, x2, x3)]).length + left'.length ≤ ks.length := by rw [List.length_append]; exact hll2
          clear hA10 hOnly hnn hA11 HO9 HR9 I9 B9 k0 k1 k2 k3 f0 f1 f2 f3 m0 m1 m2 m3 hbs2 hW7 hW8 hW9 hrun hent HLT
          go_wp2
          exact ⟨⟨l ++ [(x0, x1, x2, x3)], left', l.length + 1, g10, c10, HLN, rfl, I10, HA11, HD2, hll3, B10⟩, HLT2.out⟩
end Go.Proofs.YtfmbljmcdidocaaGreat
