/-
  Cosets by the specification: walked.
-/
import Derived.Test.YtehbpcoiciodhaaB17q
import Derived.Test.YtehbpcoiciodhaaB17r
import Derived.Test.YtehbpcoiciodhaaNI
import Derived.Test.YtehbpcoiciodhaaMH
import Derived.Test.YtehbpcoiciodhaaMK
namespace Go.Proofs.Ytehbpcoiciodhaa
open Go.RowKit

/-- What has been put in, in order. -/
structure InsI (F : Nat → OpD) (i : Nat) (E : Nat → OpD) : Prop where
  so : ∀ t, t + 1 < i → ¬ 0 < lexC 12 (E t).key (E (t + 1)).key
  pe : ((List.range i).map (fun t => kV (E t).key)).Perm ((List.range i).map (fun t => kV (F t).key))
theorem InsI.start (F E : Nat → OpD) : InsI F 0 E := ⟨fun t ht => by omega, List.Perm.refl _⟩
theorem InsI.add {F E : Nat → OpD} {i c : Nat} (h : InsI F i E) (hc : c ≤ i) (hov : ∀ t, c ≤ t → t < i → 0 < lexC 12 (E t).key (F i).key) (hun : c = 0 ∨ ¬ 0 < lexC 12 (E (c - 1)).key (F i).key) : InsI F (i + 1) (ins c E (F i)) := by
  refine ⟨fun t ht => ?_, ?_⟩
  · rcases Nat.lt_trichotomy (t + 1) c with e | e | e
    · rw [ins_lo (by omega), ins_lo e]; exact h.so t (by omega)
    · rw [ins_lo (show t < c by omega), e, ins_at]
      rcases hun with e' | e'
      · omega
      · rwa [show c - 1 = t by omega] at e'
    · rw [ins_hi e]
      by_cases e' : t = c
      · rw [e', ins_at, show c + 1 - 1 = c by omega]
        have := lexC_pos.1 (hov c (Nat.le_refl _) (by omega))
        omega
      · rw [ins_hi (show c < t by omega)]
        have := h.so (t - 1) (by omega)
        rwa [show t - 1 + 1 = t + 1 - 1 by omega] at this
  · have e1 : (List.range (i + 1)).map (fun t => kV (ins c E (F i) t).key) = (List.range (i + 1)).map (ins c (fun t => kV (E t).key) (kV (F i).key)) := by
      refine List.map_congr_left (fun t _ => ?_)
      unfold ins
      split
      · rfl
      · split <;> rfl
    rw [e1]
    refine (ins_perm _ _ hc).trans ?_
    rw [List.range_succ, List.map_append, List.map_cons, List.map_nil]
    exact (h.pe.cons _).trans (List.perm_append_singleton _ _).symm
theorem InsI.le {F E : Nat → OpD} {n : Nat} (h : InsI F n E) : ∀ i j, i < j → j < n → ¬ lexC 12 (E j).key (E i).key < 0 := by
  have tr : ∀ x y z : Nat → Int, ¬ lexC 12 y x < 0 → ¬ lexC 12 z y < 0 → ¬ lexC 12 z x < 0 := fun x y z h1 h2 h3 => by
    rcases lexC_range 12 x y with e | e | e
    · have hxy : lexC 12 x y < 0 := by omega
      exact h2 (lexC_trans h3 hxy)
    · rw [lexC_eq (f' := z) (h' := y) (fun _ _ => rfl) (lexC_zero.1 e)] at h3
      exact h2 h3
    · exact h1 (lexC_pos.1 (by omega))
  intro i j hij hj
  induction j with
  | zero => omega
  | succ j ih =>
    have h0 : ¬ lexC 12 (E (j + 1)).key (E j).key < 0 := fun e => h.so j hj (lexC_pos.2 e)
    by_cases e : i = j
    · rw [e]; exact h0
    · exact tr _ _ _ (ih (by omega) (by omega)) h0
theorem InsI.part {m t : Nat} {A C E : Nat → OpD} (h : InsI (fun k => mulD (A t) (C k)) m E) : PartB A m C t E := by
  refine ⟨h.pe.trans (List.Perm.of_eq (List.map_congr_left (fun k _ => mulD_key (A t) (C k)))), h.le⟩
theorem grown_cell (w : World) (g i : Nat) (v : Value) : w.grownBy (w.setCell ⟨g, i, none⟩ v) (some g) :=
  ⟨rfl, rfl, rfl, by simp [World.setCell], fun k hk hne => by simp [World.setCell, Array.getElem?_modify, show ¬ g = k from fun e => hne (by rw [e])]⟩
open Classical in
/-- Which of the group stand in a part of those that i, at most, open. -/
noncomputable def dn (A : Nat → OpD) (m : Nat) (C : Nat → OpD) (i j : Nat) : Bool := decide (∃ t ∈ opens A m C i, inPart A m C t j)
open Classical in
/-- And of the part of i the first k. -/
noncomputable def dk (A : Nat → OpD) (m : Nat) (C : Nat → OpD) (i k j : Nat) : Bool := dn A m C i j || decide (∃ u, u < k ∧ kV (A j).key = kV (mulQ (A i).key (C u).key))
open Classical in
theorem dk_zero (A : Nat → OpD) (m : Nat) (C : Nat → OpD) (i j : Nat) : dk A m C i 0 j = dn A m C i j := by
  unfold dk
  have : ¬ ∃ u, u < 0 ∧ kV (A j).key = kV (mulQ (A i).key (C u).key) := by rintro ⟨u, h, -⟩; omega
  rw [decide_eq_false this, Bool.or_false]
open Classical in
theorem dk_next {n m i k x j : Nat} {A C : Nat → OpD} (hR : Rises n A) (hx : x < n) (hj : j < n) (e : kV (A x).key = kV (mulQ (A i).key (C k).key)) : dk A m C i (k + 1) j = (dk A m C i k j || decide (j = x)) := by
  unfold dk
  rw [Bool.or_assoc]
  congr 1
  rw [Bool.eq_iff_iff]
  simp only [Bool.or_eq_true, decide_eq_true_eq]
  constructor
  · rintro ⟨u, hu, h⟩
    by_cases c : u = k
    · subst c; exact .inr (hR.inj hj hx (h.trans e.symm))
    · exact .inl ⟨u, by omega, h⟩
  · rintro (⟨u, hu, h⟩ | rfl)
    · exact ⟨u, by omega, h⟩
    · exact ⟨k, by omega, e⟩
open Classical in
theorem dn_old {A : Nat → OpD} {m : Nat} {C : Nat → OpD} {i : Nat} (h : dn A m C i i = true) (j : Nat) : dn A m C (i + 1) j = dn A m C i j ∧ opens A m C (i + 1) = opens A m C i := by
  have h1 : ∃ t ∈ opens A m C i, inPart A m C t i := by unfold dn at h; exact of_decide_eq_true h
  have := opens_old h1
  exact ⟨by unfold dn; rw [this], this⟩
open Classical in
theorem dn_new {A : Nat → OpD} {m : Nat} {C : Nat → OpD} {i : Nat} (h : dn A m C i i = false) (j : Nat) : dn A m C (i + 1) j = dk A m C i m j ∧ opens A m C (i + 1) = opens A m C i ++ [i] := by
  have h1 : ¬ ∃ t ∈ opens A m C i, inPart A m C t i := by unfold dn at h; exact of_decide_eq_false h
  have e := opens_new h1
  refine ⟨?_, e⟩
  unfold dn dk
  rw [e, Bool.eq_iff_iff]
  simp only [Bool.or_eq_true, decide_eq_true_eq, dn]
  constructor
  · rintro ⟨t, ht, h2⟩
    rcases List.mem_append.1 ht with ht | ht
    · exact .inl ⟨t, ht, h2⟩
    · rw [List.mem_singleton.1 ht] at h2
      obtain ⟨u, hu, h3⟩ := h2
      exact .inr ⟨u, hu, h3⟩
  · rintro (⟨t, ht, h2⟩ | ⟨u, hu, h3⟩)
    · exact ⟨t, List.mem_append_left _ ht, h2⟩
    · exact ⟨i, by simp, u, hu, h3⟩
open Classical in
theorem dn_none (A : Nat → OpD) (m : Nat) (C : Nat → OpD) (j : Nat) : dn A m C 0 j = false := by
  unfold dn
  refine decide_eq_false ?_
  rintro ⟨t, h, -⟩
  simp [opens] at h
/-- The parts that stand are those of the first ones that open. -/
def PrtS (A : Nat → OpD) (m : Nat) (C : Nat → OpD) (i L : Nat) (B : Nat → Nat → OpD) : Prop := L = (opens A m C i).length ∧ (∀ s, s < L → PartB A m C ((opens A m C i).getD s 0) (B s)) ∧ ∀ s, s < L → ∀ k, k < m → (B s k).n = 9 ∧ (B s k).k = 3
theorem PrtS.start (A : Nat → OpD) (m : Nat) (C : Nat → OpD) (B : Nat → Nat → OpD) : PrtS A m C 0 0 B := ⟨by simp [opens], fun s hs => by omega, fun s hs => by omega⟩
theorem PrtS.add {A : Nat → OpD} {m : Nat} {C : Nat → OpD} {i L : Nat} {B : Nat → Nat → OpD} {E : Nat → OpD} (h : PrtS A m C i L B) (e : opens A m C (i + 1) = opens A m C i ++ [i]) (hp : PartB A m C i E) (hn : ∀ k, k < m → (E k).n = 9 ∧ (E k).k = 3) : PrtS A m C (i + 1) (L + 1) (addAt B L E) := by
  obtain ⟨h1, h2, h3⟩ := h
  refine ⟨by rw [e, List.length_append, ← h1]; rfl, fun s hs => ?_, fun s hs k hk => ?_⟩
  rotate_left
  · by_cases c : s = L
    · subst c; rw [addAt_at]; exact hn k hk
    · rw [addAt_lo (by omega)]; exact h3 s (by omega) k hk
  by_cases c : s = L
  · subst c
    rw [addAt_at, e, List.getD_eq_getElem?_getD, List.getElem?_append_right (by omega), h1]
    simpa using hp
  · rw [addAt_lo (by omega), e, List.getD_eq_getElem?_getD, List.getElem?_append_left (by omega), ← List.getD_eq_getElem?_getD]
    exact h2 s (by omega)
theorem PrtS.cosT {n m L : Nat} {A C : Nat → OpD} {B : Nat → Nat → OpD} (hS : SubG n A m C) (h : PrtS A m C n L B) : CosT n A m C L B := .inl ⟨hS, h.1, h.2.1⟩
/-- How Cosets ends. -/
def CosE (w : World) (n : Nat) (A : Nat → OpD) (m : Nat) (C : Nat → OpD) (e : Ending) (w' : World) : Prop :=
  (∃ v L V B, e = .returned v ∧ LsP w' w.heap.size v L V m B ∧ CosT n A m C L B ∧ ∀ s, s < L → ∀ k, k < m → (B s k).n = 9 ∧ (B s k).k = 3) ∧ Below w.heap.size w w'
/-- In between. -/
def CosI (w wr : World) (n : Nat) (A : Nat → OpD) (m : Nat) (C : Nat → OpD) (d i L : Nat) (v : Value) : Prop :=
  ∃ V B, LsP wr w.heap.size v L V m B ∧ BlN wr d n (dn A m C i) ∧ PrtS A m C i L B ∧ Below w.heap.size w wr
/-- The product in its box. -/
def CutM (wr : World) (f h : Nat → Int) (s11 : Value) (wc : World) : Prop :=
  ∃ q v1 v2, s11 = .pointer (some ⟨q, 0, none⟩) ∧ wr.heap.size ≤ q ∧ At 48 wc q #[v1, v2] ∧ OpAt wc wr.heap.size wc.heap.size (.agg #[v1, v2]) 9 f 3 h ∧ Below wr.heap.size wr wc
theorem OpAt.up {w w' : World} {lo n k : Nat} {o : Value} {f h : Nat → Int} (t : OpAt w lo w.heap.size o n f k h) (hb : Below w.heap.size w w') : OpAt w' lo w'.heap.size o n f k h := (t.below hb).wide (Nat.le_refl _) hb.size
theorem OpAt.put {w : World} {lo q n k : Nat} {o1 o2 u1 u2 o : Value} {f h : Nat → Int} (t : OpAt w lo w.heap.size o n f k h) (a : At 48 w q #[o1, o2]) : OpAt ((w.setCell ⟨q, 0, none⟩ u1).setCell ⟨q, 1, none⟩ u2) lo ((w.setCell ⟨q, 0, none⟩ u1).setCell ⟨q, 1, none⟩ u2).heap.size o n f k h := by
  obtain ⟨v1, v2, e, r1, r2, ap⟩ := t
  have hs : ((w.setCell ⟨q, 0, none⟩ u1).setCell ⟨q, 1, none⟩ u2).heap.size = w.heap.size := by simp [World.setCell]
  rw [hs]
  exact ⟨v1, v2, e, (r1.set a).set (a.set 0 u1), (r2.set a).set (a.set 0 u1), ap⟩
set_option maxRecDepth 100000 in
set_option maxHeartbeats 6000000 in
theorem specCosets_any {w : World} {g n c h m d : Nat} {A C : Nat → OpD} (hL : OpsL w g n A) (hH : OpsL w h m C) (hn : n ≤ 1048576) (hm : m ≤ 1048576) :
    Calls Try.prog 15 #[.slice (some ⟨g, 0, none⟩) n c, .slice (some ⟨h, 0, none⟩) m d] w fun e w' => CosE w n A m C e w' := by
  have hbs : ∀ w, (Instr.buildSlice 37 0 #[]).run Try.prog w = .ok (.slice (some ⟨w.heap.size, 0, none⟩) 0 0) (w.alloc (.cells #[] 28)) := fun _ => by kernel_rfl
  have hbs2 : ∀ w, (Instr.buildSlice 28 0 #[]).run Try.prog w = .ok (.slice (some ⟨w.heap.size, 0, none⟩) 0 0) (w.alloc (.cells #[] 48)) := fun _ => by kernel_rfl
  obtain ⟨i0, hi0, hz0, hz1, hz2⟩ := info_parts infoSlO
  have HL := hid_of hL
  have HH := hid_of hH
  obtain ⟨W1, hW1, a1, B1, -⟩ := boxed w 28 #[]
  obtain ⟨p1, hp1⟩ : ∃ q, w.heap.size = q := ⟨_, rfl⟩
  have o1 : Hid (∀ B, LsP W1 w.heap.size (.slice (some ⟨p1, 0, none⟩) 0 0) 0 (fun _ => undef) m B) := fun B => hp1 ▸ lsP_new a1
  have NO : Hid (∀ wq, Below W1.heap.size W1 wq → Below w.heap.size w wq → ¬ SubG n A m C → CosE w n A m C (.returned (.slice (some ⟨p1, 0, none⟩) 0 0)) wq) := fun wq hq hq2 hno =>
    ⟨⟨_, 0, _, fun _ => A, rfl, (o1.out _).below hq, .inr ⟨hno, rfl⟩, fun s hs => by omega⟩, hq2⟩
  clear hL hH a1
  go_enter Try.func15, Try.ntmps15
  go_wp2_with fail
  refine (groupOk_any (HL.out.below B1) hn).mono ?_
  rintro e w2 ⟨⟨r, rfl, hr⟩, b2⟩
  have B2 := B1.trans (b2.mono B1.size)
  clear hW1 hp1
  cases r
  · have N0 := hid_of (NO.out _ b2 B2 (fun h => absurd (hr.2 h.g) (by decide)))
    clear NO hr b2 B2 B1 o1
    go_wp2
    go_ret
    exact N0.out
  have HG := hid_of (hr.1 rfl)
  clear hr
  go_wp2_with fail
  refine (groupOk_any (HH.out.below B2) hm).mono ?_
  rintro e w3 ⟨⟨r, rfl, hr⟩, b3⟩
  have B3 := B2.trans (b3.mono B2.size)
  replace b3 := b2.trans (b3.mono b2.size)
  clear B2 b2
  cases r
  · have N0 := hid_of (NO.out _ b3 B3 (fun h => absurd (hr.2 h.h) (by decide)))
    clear NO hr b3 B3 B1 o1
    go_wp2
    go_ret
    exact N0.out
  have HC := hid_of (hr.1 rfl)
  have hn2 : n ≤ 192 := HG.out.1
  have hm2 : m ≤ 192 := HC.out.1
  have hn' : (n : Int) ≤ 192 := by omega
  have hm' : (m : Int) ≤ 192 := by omega
  have HB1 := hid_of B1
  clear hr hn hm B1
  go_wp2
  go_loopw [6] (fun s wr => ∃ t : Nat, t ≤ m ∧ s = .int .i64 (t : Int) ∧ Hid (∀ u, u < t → ∃ j, j < n ∧ kV (A j).key = kV (C u).key) ∧ Below W1.heap.size W1 wr ∧ Below w.heap.size w wr) (fun s _ => m - (intOf s).toNat)
  case atStart => exact ⟨0, Nat.zero_le _, rfl, fun u hu => by omega, b3, B3⟩
  case round =>
    clear b3 B3
    obtain ⟨t, ht, rfl, SU, b, B⟩ := hrel
    by_cases hlt : t < m
    · have hlt' : (t : Int) < (m : Int) := by omega
      have HHt := HH.out.below B
      obtain ⟨x1, y1, x2, y2, e1, e2, s1, s2⟩ := HHt.2 t hlt
      obtain ⟨f1, f2, f3⟩ := HC.out.2.1 t hlt
      rw [f1] at e1 s1
      rw [f2] at e2 s2
      go_wp2_with fail
      refine (l4At_any (HL.out.below B) HG.out.2.1 s1 s2 (by omega)).mono ?_
      rintro e w4 ⟨vv, rfl, hat, b4⟩
      have B4 := B.trans (b4.mono B.size)
      replace b4 := b.trans (b4.mono b.size)
      clear e1 e2 s1 s2 HHt B b
      rcases hat with ⟨rfl, hno⟩ | ⟨j, rfl, hj, he⟩
      · have N0 := hid_of (NO.out _ b4 B4 (fun h => by
          obtain ⟨j, hj, e⟩ := h.s t hlt
          exact hno HG.out.2.2.1 j hj (kV_inj.1 e)))
        clear NO b4 B4 SU hno o1
        go_wp2
        go_ret
        exact N0.out
      · have hj0 : ¬ (j : Int) < 0 := by omega
        have SU2 : Hid (∀ u, u < t + 1 → ∃ j, j < n ∧ kV (A j).key = kV (C u).key) := fun u hu => by
          by_cases e : u = t
          · subst e
            exact ⟨j, hj, kV_inj.2 he⟩
          · exact SU.out u (by omega)
        clear SU he
        go_wp2
        exact ⟨⟨t + 1, by omega, by go_num, SU2, b4, B4⟩, by simp [intOf]; omega⟩
    · obtain rfl : t = m := by omega
      have hlt' : ¬ (t : Int) < (t : Int) := by omega
      have HS : Hid (SubG n A t C) := ⟨HG.out, HC.out, SU.out⟩
      obtain ⟨Cb, hCb, hmk⟩ := make_bls n (by omega)
      obtain ⟨W5, hW5, a5, b5, -⟩ := boxed wr 4 Cb
      obtain ⟨dd, hdd⟩ : ∃ q, wr.heap.size = q := ⟨_, rfl⟩
      have B5 := B.trans (b5.mono B.size)
      rw [hdd] at a5
      have hdl : w.heap.size ≤ dd := by have := B.size; omega
      have C0 : Hid (CosI w W5 n A t C dd 0 0 (.slice (some ⟨p1, 0, none⟩) 0 0)) := ⟨_, fun _ => A, ((o1.out _).below b).below b5, ⟨Cb, a5, hCb.1, fun i hi => by rw [dn_none]; exact hCb.2 i hi⟩, PrtS.start _ _ _ _, B5⟩
      clear a5 hCb b5 B5 SU NO o1 b B HG HC
      go_wp2
      clear hW5 hdd hmk
      go_loopw [5, 8] (fun v s wr => ∃ i L q cc : Nat, i ≤ n ∧ L ≤ i ∧ s = .int .i64 (i : Int) ∧ v = .slice (some ⟨q, 0, none⟩) L cc ∧ Hid (CosI w wr n A t C dd i L v)) (fun _ s _ => n - (intOf s).toNat)
      case atStart => exact ⟨0, 0, _, _, Nat.zero_le _, Nat.le_refl _, rfl, rfl, C0⟩
      case round =>
        clear C0
        obtain ⟨i, L, q, cc, hi, hLi, rfl, rfl, CI⟩ := hrel
        by_cases hin : i < n
        rotate_left
        · obtain rfl : i = n := by omega
          have hin' : ¬ (i : Int) < (i : Int) := by omega
          have FI : Hid (CosE w i A t C (.returned (.slice (some ⟨q, 0, none⟩) L cc)) wr) := by
            obtain ⟨V, B, h1, h2, h3, h4⟩ := CI.out
            exact ⟨⟨_, L, V, B, rfl, h1, h3.cosT HS.out, h3.2.2⟩, h4⟩
          clear CI
          go_wp2
          go_ret
          exact FI.out
        have hin' : (i : Int) < (n : Int) := by omega
        obtain ⟨V, B, CL, CB, CP, CW⟩ := CI.out
        have cd := (CB.cell hin).1
        obtain ⟨D, hD⟩ : ∃ D, dn A t C i i = D := ⟨_, rfl⟩
        rw [hD] at cd
        cases D
        rotate_left
        · obtain ⟨e1, e2⟩ : (∀ j, dn A t C (i + 1) j = dn A t C i j) ∧ opens A t C (i + 1) = opens A t C i := ⟨fun j => (dn_old hD j).1, (dn_old hD 0).2⟩
          have C2 : Hid (CosI w wr n A t C dd (i + 1) L (.slice (some ⟨q, 0, none⟩) L cc)) := by
            refine ⟨V, B, CL, ?_, ?_, CW⟩
            · obtain ⟨cur, h1, h2, h3⟩ := CB
              exact ⟨cur, h1, h2, fun j hj => by rw [e1]; exact h3 j hj⟩
            · unfold PrtS
              rw [e2]
              exact CP
          clear CI CL CB CP CW e1 e2 hD
          go_wp2
          exact ⟨⟨i + 1, L, q, cc, by omega, by omega, by go_num, rfl, C2⟩, by simp [intOf]; omega⟩
        have HD := hid_of hD
        have HCL := hid_of CL
        have HCP := hid_of CP
        have HCW := hid_of CW
        have HAL : Hid (Alien wr dd) := alien_bl CB
        obtain ⟨W6, hW6, a6, b6, -⟩ := boxed wr 48 #[]
        obtain ⟨p6, hp6⟩ : ∃ q, wr.heap.size = q := ⟨_, rfl⟩
        have o6 : Hid (OpsP W6 wr.heap.size (.slice (some ⟨p6, 0, none⟩) 0 0) 0 (fun _ => undef) (fun _ => undef) A) := hp6 ▸ opsP_new a6
        have BK : Hid (BlN W6 dd n (dk A t C i 0)) := by
          obtain ⟨cur, h1, h2, h3⟩ := CB.below b6
          exact ⟨cur, h1, h2, fun j hj => by rw [dk_zero]; exact h3 j hj⟩
        have GB : Hid (wr.grownBy W6 (some dd)) := gb_below (grown_refl wr _) b6
        have II : Hid (InsI (fun k => mulD (A i) (C k)) 0 A) := InsI.start _ _
        clear CI CL CB CP CW hD a6 b6
        go_wp2
        clear hW6 hp6 cd
        go_loopw [9, 10] (fun v s wz => ∃ (k : Nat) (X Y : Nat → Value) (E : Nat → OpD) (gq cq : Nat), k ≤ t ∧ s = .int .i64 (k : Int) ∧ v = .slice (some ⟨gq, 0, none⟩) k cq ∧ Hid (OpsP wz wr.heap.size v k X Y E) ∧ Hid (InsI (fun k => mulD (A i) (C k)) k E) ∧ Hid (BlN wz dd n (dk A t C i k)) ∧ Hid (wr.grownBy wz (some dd))) (fun _ s _ => t - (intOf s).toNat)
        case atStart => exact ⟨0, _, _, A, _, _, Nat.zero_le _, rfl, rfl, o6, II, BK, GB⟩
        case round =>
          clear o6 II BK GB
          obtain ⟨k, X, Y, E, gq, cq, hk, rfl, rfl, own, II, BK, GB⟩ := hrel
          rename World => wz
          have HBz : Hid (Below w.heap.size w wz) := HCW.out.grown GB.out HCW.out.size (fun q hq => by simp only [Option.some.injEq] at hq; omega)
          by_cases hkt : k < t
          rotate_left
          · obtain rfl : k = t := by omega
            have hkt' : ¬ (k : Int) < (k : Int) := by omega
            obtain ⟨e1, e2⟩ : (∀ j, dn A k C (i + 1) j = dk A k C i k j) ∧ opens A k C (i + 1) = opens A k C i ++ [i] := ⟨fun j => (dn_new HD.out j).1, (dn_new HD.out 0).2⟩
            have L2 := HCL.out.alien GB.out HAL.out
            obtain ⟨W7, hW7, a7, b7, -⟩ := boxed wz 28 #[.slice (some ⟨gq, 0, none⟩) k cq]
            obtain ⟨p7, hp7⟩ : ∃ q, wz.heap.size = q := ⟨_, rfl⟩
            rw [hp7] at a7
            have L7 := hid_of (L2.below b7)
            have P7 : Hid (OpsR W7 w.heap.size W7.heap.size gq k E) := by
              obtain ⟨g', c', e3, r⟩ := (own.out.below b7).opsR
              cases e3
              exact r.lower HCW.out.size
            have K7 : Hid (BlN W7 dd n (dn A k C (i + 1))) := by
              obtain ⟨cur, h1, h2, h3⟩ := BK.out.below b7
              exact ⟨cur, h1, h2, fun j hj => by rw [e1]; exact h3 j hj⟩
            have S7 : Hid (PrtS A k C (i + 1) (L + 1) (addAt B L E)) := HCP.out.add e2 (II.out.part) own.out.nk
            have B7 := hid_of (HBz.out.trans (b7.mono HBz.out.size))
            have row7 := hid_of L7.out.row
            have hm1 : L + 1 ≤ maxLen := by unfold maxLen; omega
            have hm2 : (L + 1) * 24 ≤ 140737488355328 := by omega
            clear own II BK GB HBz e1 e2 L2 b7 HCP HCL HD
            go_wp2_with (at_builtin; refine Hid.out (?_ : Hid _))
            refine (?_ : wpList _ _ _ _ _ _)
            refine wpList_append_own_at _ rfl _ _ _ rfl w.heap.size 28 i0 _ 1 24 Try.underlying37 hi0 hz0 hz1 hz2 rfl (by omega) (.slice (some ⟨q, 0, none⟩) L cc) L ((List.range L).map V) rfl row7.out ⟨p7, 0, none⟩ 1 1 [.slice (some ⟨gq, 0, none⟩) k cq] rfl rfl (news1 a7) (by intro u hu; simp at hu; subst hu; rfl) hm1 hm2 B7.out.size ?_
            intro v8 w8 hown8 hgrow8 hne8 hblk8
            have N8 := L7.out.next (c := cq) P7.out hgrow8 hown8 (fun e => by have := (hne8.1 e).2; omega)
            obtain ⟨q8, c8, cur8, e8, -⟩ := N8.open
            subst e8
            have K8 : BlN w8 dd n (dn A k C (i + 1)) := by
              obtain ⟨cur, h1, h2, h3⟩ := K7.out
              refine ⟨cur, (hgrow8.block dd h1.lt (fun e => ?_)).trans h1, h2, h3⟩
              have e' : Value.ownBlock (.slice (some ⟨q, 0, none⟩) L cc) = some dd := e.symm
              have := row_alienO L7.out.row L7.out.nn e' _ _ h1
              exact absurd this (by decide)
            have C8 : Hid (CosI w w8 n A k C dd (i + 1) (L + 1) (.slice (some ⟨q8, 0, none⟩) (L + 1) c8)) := ⟨_, _, N8, K8, S7.out, B7.out.grown hgrow8 B7.out.size (fun x hx => ownBlock_ge row7.out hx)⟩
            clear hown8 hgrow8 hne8 hblk8 N8 K8 L7 P7 K7 S7 B7 row7 a7 hW7 hp7 hm1 hm2
            go_wp2
            exact ⟨⟨i + 1, L + 1, q8, c8, by omega, by omega, by go_num, rfl, C8⟩, by simp [intOf]; omega⟩
          have hkt' : (k : Int) < (t : Int) := by omega
          have HLz := HL.out.below HBz.out
          have HHz := HH.out.below HBz.out
          obtain ⟨f1, f2, f3⟩ := HS.out.g.2.1 i hin
          obtain ⟨f4, f5, f6⟩ := HS.out.h.2.1 k hkt
          obtain ⟨a1, c1, a2, c2, e1, e2, s1, s2⟩ := HLz.2 i hin
          obtain ⟨b1, d1, b2, d2, e3, e4, s3, s4⟩ := HHz.2 k hkt
          rw [f1] at e1 s1
          rw [f2] at e2 s2
          rw [f4] at e3 s3
          rw [f5] at e4 s4
          rcases s1 with s1 | ⟨x1, y1, rfl, l1, I1⟩
          · omega
          rcases s2 with s2 | ⟨x2, y2, rfl, l2, I2⟩
          · omega
          rcases s3 with s3 | ⟨x3, y3, rfl, l3, I3⟩
          · omega
          rcases s4 with s4 | ⟨x4, y4, rfl, l4, I4⟩
          · omega
          have CLi : Hid (∀ wq, Kb wz wq → wq.cell? ⟨g, i * 2, none⟩ = some (.slice (some ⟨x1, y1, none⟩) 9 c1) ∧ wq.cell? ⟨g, i * 2 + 1, none⟩ = some (.slice (some ⟨x2, y2, none⟩) 3 c2)) := fun wq hq => ⟨(hq.cell (p := ⟨g, i * 2, none⟩) HLz.1).trans e1, (hq.cell (p := ⟨g, i * 2 + 1, none⟩) HLz.1).trans e2⟩
          have CLk : Hid (∀ wq, Kb wz wq → wq.cell? ⟨h, k * 2, none⟩ = some (.slice (some ⟨x3, y3, none⟩) 9 d1) ∧ wq.cell? ⟨h, k * 2 + 1, none⟩ = some (.slice (some ⟨x4, y4, none⟩) 3 d2)) := fun wq hq => ⟨(hq.cell (p := ⟨h, k * 2, none⟩) HHz.1).trans e3, (hq.cell (p := ⟨h, k * 2 + 1, none⟩) HHz.1).trans e4⟩
          have CM : Hid (∀ wq, Kb wz wq → Calls Try.prog 37 #[.agg #[.slice (some ⟨x1, y1, none⟩) 9 c1, .slice (some ⟨x2, y2, none⟩) 3 c2], .agg #[.slice (some ⟨x3, y3, none⟩) 9 d1, .slice (some ⟨x4, y4, none⟩) 3 d2]] wq fun e w' => ∃ o1 o2 o3 o4, e = .returned (.agg #[.slice o1 9 o3, .slice o2 3 o4]) ∧ OpAt w' wz.heap.size w'.heap.size (.agg #[.slice o1 9 o3, .slice o2 3 o4]) 9 (mulM (A i).f (C k).f) 3 (behV (A i).f (A i).h (C k).h) ∧ Below wq.heap.size wq w') := fun wq hq => by
            refine (l3Mul_any c1 c2 d1 d2 (I1.below l1 hq) (I2.below l2 hq) (I3.below l3 hq) (I4.below l4 hq) (Nat.lt_of_lt_of_le l1 hq.size) (Nat.lt_of_lt_of_le l2 hq.size) (Nat.lt_of_lt_of_le l3 hq.size) (Nat.lt_of_lt_of_le l4 hq.size) f3 f6).mono ?_
            rintro e w' ⟨o, rfl, T4, b4⟩
            obtain ⟨v1, v2, rfl, r1, r2, r3⟩ := T4
            obtain ⟨o1, o3, rfl, -⟩ := r1.src
            obtain ⟨o2, o4, rfl, -⟩ := r2.src
            exact ⟨o1, o2, o3, o4, rfl, OpAt.wide ⟨_, _, rfl, r1, r2, r3⟩ hq.size (Nat.le_refl _), b4⟩
          clear e1 e2 e3 e4 I1 I2 I3 I4 l1 l2 l3 l4 HLz HHz
          go_wp2_with fail
          go_cut [11] from 56 to 64 (fun s11 wc => CutM wz (mulM (A i).f (C k).f) (behV (A i).f (A i).h (C k).h) s11 wc)
          case first =>
            obtain ⟨u0, hu0, bb⟩ : ∃ uu, wz.drew = uu ∧ Below wz.heap.size wz uu := ⟨_, rfl, (Below.refl _ _).drew⟩
            have bk0 : Kb wz u0 := bb
            clear bb
            refine wp_region_held_drew (S := Kb u0) (by kernel_rfl) (by rw [hu0]; exact Below.refl _ _) (fun hHeld => ?_)
            rw [hu0] at hHeld ⊢
            clear hu0
            have bu : Kb u0 u0 := Below.refl _ _
            change wpAnyH _ _ _ _ _ 11 #[false, false, false, false, false, false, false, false, false, false, false] _ _
            refine wpAnyH_take (i := 0) (v := .slice ((some ⟨g, 0, none⟩)) n c) rfl (by kernel_rfl) (by kernel_rfl) (by kernel_rfl) (fun _ _ _ h => h) (Or.inl ⟨by kernel_rfl, ?_⟩) hHeld ?_
            · intro w' hSw; go_simp
            try simp only [Act.put, List.setIfInBounds_toArray, List.set_cons_zero, List.set_cons_succ, List.getElem_toArray, List.getElem_cons_zero]
            refine wpAnyH_take (i := 1) (v := .int .i64 ((i : Int))) rfl (by kernel_rfl) (by kernel_rfl) (by kernel_rfl) (fun _ _ _ h => h) (Or.inl ⟨by kernel_rfl, ?_⟩) hHeld ?_
            · intro w' hSw; go_simp
            try simp only [Act.put, List.setIfInBounds_toArray, List.set_cons_zero, List.set_cons_succ, List.getElem_toArray, List.getElem_cons_succ, List.getElem_cons_zero]
            refine wpAnyH_take (i := 2) (v := .pointer (some ⟨g, i * 2, none⟩)) rfl (by kernel_rfl) (by kernel_rfl) (by kernel_rfl) (fun _ _ _ h => h) (Or.inl ⟨by kernel_rfl, ?_⟩) hHeld ?_
            · intro w' hSw; go_simp
            try simp only [Act.put, List.setIfInBounds_toArray, List.set_cons_zero, List.set_cons_succ, List.getElem_toArray, List.getElem_cons_succ, List.getElem_cons_zero]
            refine wpAnyH_take (i := 3) (v := .agg #[.slice (some ⟨x1, y1, none⟩) 9 c1, .slice (some ⟨x2, y2, none⟩) 3 c2]) rfl (by kernel_rfl) (by kernel_rfl) (by kernel_rfl) (fun _ _ _ h => h) (Or.inl ⟨by kernel_rfl, ?_⟩) hHeld ?_
            · intro w' hSw; obtain ⟨z0, z1⟩ := CLi.out _ (bk0.trans (Below.mono hSw bk0.size)); go_simp
            try simp only [Act.put, List.setIfInBounds_toArray, List.set_cons_zero, List.set_cons_succ, List.getElem_toArray, List.getElem_cons_succ, List.getElem_cons_zero]
            refine wpAnyH_take (i := 4) (v := .slice ((some ⟨h, 0, none⟩)) t d) rfl (by kernel_rfl) (by kernel_rfl) (by kernel_rfl) (fun _ _ _ h => h) (Or.inl ⟨by kernel_rfl, ?_⟩) hHeld ?_
            · intro w' hSw; go_simp
            try simp only [Act.put, List.setIfInBounds_toArray, List.set_cons_zero, List.set_cons_succ, List.getElem_toArray, List.getElem_cons_succ, List.getElem_cons_zero]
            refine wpAnyH_take (i := 5) (v := .int .i64 ((k : Int))) rfl (by kernel_rfl) (by kernel_rfl) (by kernel_rfl) (fun _ _ _ h => h) (Or.inl ⟨by kernel_rfl, ?_⟩) hHeld ?_
            · intro w' hSw; go_simp
            try simp only [Act.put, List.setIfInBounds_toArray, List.set_cons_zero, List.set_cons_succ, List.getElem_toArray, List.getElem_cons_succ, List.getElem_cons_zero]
            refine wpAnyH_take (i := 6) (v := .pointer (some ⟨h, k * 2, none⟩)) rfl (by kernel_rfl) (by kernel_rfl) (by kernel_rfl) (fun _ _ _ h => h) (Or.inl ⟨by kernel_rfl, ?_⟩) hHeld ?_
            · intro w' hSw; go_simp
            try simp only [Act.put, List.setIfInBounds_toArray, List.set_cons_zero, List.set_cons_succ, List.getElem_toArray, List.getElem_cons_succ, List.getElem_cons_zero]
            refine wpAnyH_take (i := 7) (v := .agg #[.slice (some ⟨x3, y3, none⟩) 9 d1, .slice (some ⟨x4, y4, none⟩) 3 d2]) rfl (by kernel_rfl) (by kernel_rfl) (by kernel_rfl) (fun _ _ _ h => h) (Or.inl ⟨by kernel_rfl, ?_⟩) hHeld ?_
            · intro w' hSw; obtain ⟨z0, z1⟩ := CLk.out _ (bk0.trans (Below.mono hSw bk0.size)); go_simp
            try simp only [Act.put, List.setIfInBounds_toArray, List.set_cons_zero, List.set_cons_succ, List.getElem_toArray, List.getElem_cons_succ, List.getElem_cons_zero]
            refine wpAnyH_ready (rs := [8, 9]) (by kernel_rfl) (by simp) ?_
            refine AllReadyH.cons rfl (fun KK hK' => ?_) (AllReadyH.cons rfl (fun KK hK' => ?_) AllReadyH.nil)
            · go_simp
              refine (CM.out _ (bk0.trans (Below.mono bu bk0.size))).mono ?_
              rintro e u1 ⟨o1, o2, o3, o4, rfl, T, bb⟩
              replace bu : Kb u0 u1 := bu.trans (bb.mono bu.size)
              clear bb
              try go_wp2_with fail
              clear hHeld
              refine hK'.out _ _ (bu) (fun hHeld => ?_)
              clear hK' KK
              try simp only [List.setIfInBounds_toArray, List.set_cons_zero, List.set_cons_succ]
              refine wpAnyH_ready (rs := [9]) (by kernel_rfl) (by simp) ?_
              refine AllReadyH.cons rfl (fun KK hK' => ?_) AllReadyH.nil
              go_simp
              obtain ⟨u2, h6, G6, bb, -⟩ := boxed u1 48 #[.slice none 0 0, .slice none 0 0]
              rw [h6]
              clear h6
              obtain ⟨g6, hg6⟩ : ∃ q, u1.heap.size = q := ⟨_, rfl⟩
              rw [hg6] at G6 ⊢
              have hgu : u0.heap.size ≤ g6 := by have := bu.size; omega
              clear hg6
              replace T := T.up bb
              replace bu : Kb u0 u2 := bu.trans (bb.mono bu.size)
              clear bb
              clear hHeld
              refine hK'.out _ _ (bu) (fun hHeld => ?_)
              clear hK' KK
              try simp only [List.setIfInBounds_toArray, List.set_cons_zero, List.set_cons_succ]
              refine wpAnyH_ready (rs := [10]) (by kernel_rfl) (by simp) ?_
              refine AllReadyH.cons rfl (fun KK hK' => ?_) AllReadyH.nil
              obtain ⟨y0, y1, y2, y3⟩ := G6.open2
              go_simp
              have G7 := put2_at G6 (.slice o1 9 o3) (.slice o2 3 o4)
              have T7 := T.put (u1 := .slice o1 9 o3) (u2 := .slice o2 3 o4) G6
              replace bu : Kb u0 ((u2.setCell ⟨g6, 0, none⟩ (.slice o1 9 o3)).setCell ⟨g6, 1, none⟩ (.slice o2 3 o4)) := (bu.setCell hgu _).setCell hgu _
              obtain ⟨u3, hv⟩ : ∃ V, (u2.setCell ⟨g6, 0, none⟩ (.slice o1 9 o3)).setCell ⟨g6, 1, none⟩ (.slice o2 3 o4) = V := ⟨_, rfl⟩
              rw [hv] at G7 T7 bu ⊢
              clear hv T G6 y0 y1 y2 y3
              clear hHeld
              refine hK'.out _ _ (bu) (fun hHeld => ?_)
              clear hK' KK
              try simp only [List.setIfInBounds_toArray, List.set_cons_zero, List.set_cons_succ]
              refine wpAnyH_done (by kernel_rfl) ?_ _
              clear hHeld
              have bz := bk0.trans (Below.mono bu bk0.size)
              have hg7 : wz.heap.size ≤ g6 := by have := bk0.size; omega
              go_wp2_with fail
              go_meet
              case rel => exact ⟨g6, _, _, rfl, hg7, G7, T7, bz⟩
            · go_simp
              obtain ⟨u1, h6, G6, bb, -⟩ := boxed u0 48 #[.slice none 0 0, .slice none 0 0]
              rw [h6]
              clear h6
              obtain ⟨g6, hg6⟩ : ∃ q, u0.heap.size = q := ⟨_, rfl⟩
              rw [hg6] at G6 ⊢
              have hgu : u0.heap.size ≤ g6 := by have := bu.size; omega
              clear hg6
              replace bu : Kb u0 u1 := bu.trans (bb.mono bu.size)
              clear bb
              clear hHeld
              refine hK'.out _ _ (bu) (fun hHeld => ?_)
              clear hK' KK
              try simp only [List.setIfInBounds_toArray, List.set_cons_zero, List.set_cons_succ]
              refine wpAnyH_ready (rs := [8]) (by kernel_rfl) (by simp) ?_
              refine AllReadyH.cons rfl (fun KK hK' => ?_) AllReadyH.nil
              go_simp
              refine (CM.out _ (bk0.trans (Below.mono bu bk0.size))).mono ?_
              rintro e u2 ⟨o1, o2, o3, o4, rfl, T, bb⟩
              replace G6 := G6.below bb
              replace bu : Kb u0 u2 := bu.trans (bb.mono bu.size)
              clear bb
              try go_wp2_with fail
              clear hHeld
              refine hK'.out _ _ (bu) (fun hHeld => ?_)
              clear hK' KK
              try simp only [List.setIfInBounds_toArray, List.set_cons_zero, List.set_cons_succ]
              refine wpAnyH_ready (rs := [10]) (by kernel_rfl) (by simp) ?_
              refine AllReadyH.cons rfl (fun KK hK' => ?_) AllReadyH.nil
              obtain ⟨y0, y1, y2, y3⟩ := G6.open2
              go_simp
              have G7 := put2_at G6 (.slice o1 9 o3) (.slice o2 3 o4)
              have T7 := T.put (u1 := .slice o1 9 o3) (u2 := .slice o2 3 o4) G6
              replace bu : Kb u0 ((u2.setCell ⟨g6, 0, none⟩ (.slice o1 9 o3)).setCell ⟨g6, 1, none⟩ (.slice o2 3 o4)) := (bu.setCell hgu _).setCell hgu _
              obtain ⟨u3, hv⟩ : ∃ V, (u2.setCell ⟨g6, 0, none⟩ (.slice o1 9 o3)).setCell ⟨g6, 1, none⟩ (.slice o2 3 o4) = V := ⟨_, rfl⟩
              rw [hv] at G7 T7 bu ⊢
              clear hv T G6 y0 y1 y2 y3
              clear hHeld
              refine hK'.out _ _ (bu) (fun hHeld => ?_)
              clear hK' KK
              try simp only [List.setIfInBounds_toArray, List.set_cons_zero, List.set_cons_succ]
              refine wpAnyH_done (by kernel_rfl) ?_ _
              clear hHeld
              have bz := bk0.trans (Below.mono bu bk0.size)
              have hg7 : wz.heap.size ≤ g6 := by have := bk0.size; omega
              go_wp2_with fail
              go_meet
              case rel => exact ⟨g6, _, _, rfl, hg7, G7, T7, bz⟩
          case rest =>
            obtain ⟨q6, v1, v2, rfl, hq6, Q6, T6, b6⟩ := hcut
            rename World => w6
            clear CM CLi CLk
            have GB6 := gb_below GB.out b6
            have BK6 := BK.out.below b6
            have own6 := own.out.below b6
            have B6 := HBz.out.trans (b6.mono HBz.out.size)
            have T6w := OpAt.wide T6 (show wr.heap.size ≤ wz.heap.size from GB.out.size) (Nat.le_refl _)
            obtain ⟨_, _, ee, t1, t2, -⟩ := T6w
            cases ee
            obtain ⟨x1, l1, rfl, sx1⟩ := t1.src
            obtain ⟨x2, l2, rfl, sx2⟩ := t2.src
            obtain ⟨y0, y1, -⟩ := Q6.open2
            clear T6 own BK GB
            go_wp2_with fail
            refine (l4At_any (HL.out.below B6) HS.out.g.2.1 sx1 sx2 (by omega)).mono ?_
            rintro e w7 ⟨vv, rfl, hat, b7⟩
            obtain ⟨j, hj, he, rfl⟩ : ∃ j, j < n ∧ kV (A j).key = kV (mulQ (A i).key (C k).key) ∧ vv = (j : Int) := by
              obtain ⟨j, hj, he⟩ := HS.out.prod hin hkt
              rcases hat with ⟨-, hno⟩ | ⟨j2, rfl, hj2, he2⟩
              · exact absurd (kV_inj.1 (he.trans (mulK_key (A i) (C k)).symm)) (hno HS.out.g.2.2.1 j hj)
              · exact ⟨j2, hj2, (kV_inj.2 he2).trans (mulK_key (A i) (C k)), rfl⟩
            have BK7 := BK6.below b7
            obtain ⟨cj, cf⟩ := BK7.cell hj
            have hj0 : (0 : Int) ≤ (j : Int) := by omega
            have hjn : (j : Int) < (n : Int) := by omega
            have BK8 := hid_of (BK7.yes (Q := dk A t C i (k + 1)) hj (fun x hx => dk_next HS.out.g.2.2.1 hj hx he))
            have own7 := own6.below b7
            have GB7 := gb_below GB6 b7
            have GB8 := hid_of (gb_same GB7 (grown_cell w7 dd j (.bool true)))
            have HA8 : Hid (Alien w7 dd) := alien_bl BK7
            have own8 : Hid (OpsP (w7.setCell ⟨dd, j, none⟩ (.bool true)) wr.heap.size (.slice (some ⟨gq, 0, none⟩) k cq) k X Y E) := opsP_alien own7 (grown_cell w7 dd j (.bool true)) HA8.out
            have T1 := hid_of (arr_alien ((t1.below b7).wide (Nat.le_refl _) b7.size) (grown_cell w7 dd j (.bool true)) HA8.out)
            have T2 := hid_of (arr_alien ((t2.below b7).wide (Nat.le_refl _) b7.size) (grown_cell w7 dd j (.bool true)) HA8.out)
            have Q7 := Q6.below b7
            have Q8 : At 48 (w7.setCell ⟨dd, j, none⟩ (.bool true)) q6 #[.slice x1 9 l1, .slice x2 3 l2] := Q7.setOther (fun e => absurd rfl (HA8.out _ _ (e ▸ Q7)).1) _
            have hsz : (w7.setCell ⟨dd, j, none⟩ (.bool true)).heap.size = w7.heap.size := by simp [World.setCell]
            rw [← hsz] at T1 T2
            obtain ⟨w8, hw8⟩ : ∃ V, w7.setCell ⟨dd, j, none⟩ (.bool true) = V := ⟨_, rfl⟩
            rw [hw8] at BK8 GB8 own8 T1 T2 Q8
            obtain ⟨z0, z1, -⟩ := Q8.open2
            clear hat BK6 BK7 own6 own7 GB6 GB7 HA8 t1 t2 sx1 sx2 Q6 Q7 y0 y1 b6 b7 B6 hsz
            go_wp2_with fail
            clear cj cf
            refine (l4Put_any (o := mulD (A i) (C k)) own8.out GB8.out.size T1.out T2.out ⟨rfl, rfl⟩ (by omega)).mono ?_
            rintro e w10 ⟨v10, cI, rfl, P8⟩
            have OF := hid_of P8.ops
            have IF := hid_of (II.out.add P8.le P8.over P8.under)
            have BF : Hid (BlN w10 dd n (dk A t C i (k + 1))) := by
              obtain ⟨cur, h1, h2, h3⟩ := BK8.out
              refine ⟨cur, (P8.grown.block dd h1.lt (fun e => ?_)).trans h1, h2, h3⟩
              obtain ⟨g', c', cur', e3, -, a', -⟩ := own8.out.open
              cases e3
              cases e
              have := a'.symm.trans h1
              simp at this
            have GF : Hid (wr.grownBy w10 (some dd)) := gb_row GB8.out P8.grown (by
              obtain ⟨g', c', cur', e3, h3, -⟩ := own8.out.open
              cases e3
              exact h3)
            obtain ⟨g10, c10, cur10, e10, -⟩ := P8.ops.open
            subst e10
            clear P8 own8 II BK8 GB8 T1 T2 Q8 z0 z1 hw8 he HBz
            go_wp2
            exact ⟨⟨k + 1, _, _, _, g10, c10, by omega, by go_num, rfl, OF, IF, BF, GF⟩, by simp [intOf]; omega⟩
end Go.Proofs.Ytehbpcoiciodhaa
