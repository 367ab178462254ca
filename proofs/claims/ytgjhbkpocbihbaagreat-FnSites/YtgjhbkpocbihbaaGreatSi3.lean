/-
  The counts of a walk told as sites: walked.
-/
import Derived.Test.YtgjhbkpocbihbaaGreatSi1
import Derived.Test.YtgjhbkpocbihbaaGreatK2s
import Derived.Test.YtgjhbkpocbihbaaGreatND
import Derived.Test.YtgjhbkpocbihbaaGreatMpIb
import Derived.Deep.CutRange
namespace Go.Proofs.YtgjhbkpocbihbaaGreat
open Go.RowKit

/-- Rows laid one behind the other. -/
def flS (l : List Q2) (i : Nat) : Int := t2f (l.getD (i / 2) (0, 0)) (i % 2)
theorem flS_add (l : List Q2) (x : Q2) : ∀ i, i < (l.length + 1) * 2 → catK (flS l) (l.length * 2) (flS [x]) i = flS (l ++ [x]) i := by
  intro i hi
  unfold catK flS
  by_cases e : i < l.length * 2
  · rw [if_pos e, List.getD_eq_getElem?_getD, List.getD_eq_getElem?_getD, List.getElem?_append_left (by omega)]
  · rw [if_neg e, show (i - l.length * 2) / 2 = 0 by omega, show i / 2 = l.length by omega, show (i - l.length * 2) % 2 = i % 2 by omega]
    simp
theorem arS_cs2 {w : World} {lo hi : Nat} {v : Value} {l : List Q2} (h : ArK 2 31 w lo hi v l.length (flS l)) (hv : v ≠ .slice none 0 0) : ∃ g c, v = .slice (some ⟨g, 0, none⟩) l.length c ∧ lo ≤ g ∧ l.length ≤ c ∧ c ≤ maxLen ∧ CS2 w g c l.toArray := by
  obtain ⟨g, c, e, h1, h2, h3, cur, a, hs, hc⟩ := h.nn hv
  refine ⟨g, c, e, h1, h2, h3, cur, a, hs, fun i hi => ?_⟩
  have hi' : i < l.length := by simpa using hi
  have e0 : l.toArray[i]! = l.getD i (0, 0) := by
    rw [getElem!_pos _ i hi, List.getD_eq_getElem?_getD, List.getElem?_eq_getElem hi']; simp
  rw [e0]
  have at2 : ∀ j, j < 2 → cur[i * 2 + j]? = some (.int .i64 (t2f (l.getD i (0, 0)) j)) := fun j hj => by
    rw [hc _ (by omega)]
    unfold flS
    rw [show (i * 2 + j) / 2 = i by omega, show (i * 2 + j) % 2 = j by omega]
  exact ⟨at2 0 (by omega), at2 1 (by omega)⟩
theorem cs2_arS {w : World} {lo g c n : Nat} {d : Array Q2} (h : CS2 w g c d) (hd : d.size = n) (hl : lo ≤ g) (hn : n ≤ c) (hc : c ≤ maxLen) : ArK 2 31 w lo w.heap.size (.slice (some ⟨g, 0, none⟩) n c) n (flS d.toList) := by
  obtain ⟨cur, a, hs, hH⟩ := h
  refine ArK.own ⟨cur, a, hs, fun i hi => ?_⟩ hl hn hc
  obtain ⟨p0, p1⟩ := hH (i / 2) (by omega)
  have e0 : d.toList.getD (i / 2) (0, 0) = d[i / 2]! := by
    rw [getElem!_pos d (i / 2) (by omega), List.getD_eq_getElem?_getD, List.getElem?_eq_getElem (by simp; omega)]
    simp
  unfold flS
  rw [e0]
  rcases (by omega : i % 2 = 0 ∨ i % 2 = 1) with e | e <;> rw [e]
  · rw [show i = i / 2 * 2 by omega, show i / 2 * 2 / 2 = i / 2 by omega]; exact p0
  · rw [show i = i / 2 * 2 + 1 by omega, show (i / 2 * 2 + 1) / 2 = i / 2 by omega]; exact p1
theorem two_recs {w : World} {g : Nat} {x : Q2} (a : At 31 w g #[.int .i64 x.1, .int .i64 x.2]) : Recs 2 w g 1 (flS [x]) :=
  ⟨a.lt, fun i hi => by
    rcases (by omega : i = 0 ∨ i = 1) with rfl | rfl
    · exact a.cell 0 rfl
    · exact a.cell 1 rfl⟩
/-- What the sort leaves is the answer. -/
theorem sites_sorted {c : Nat → Nat} {m : Nat} {l : List Int} {F : Int → Int} {d : Array Q2} (hnd : l.Nodup) (hl : ∀ y, y ∈ l ↔ ∃ r, r < m ∧ 0 < c r ∧ y = ((r : Nat) : Int)) (hF : ∀ r : Nat, F (r : Int) = c r) (hp : d.toList.Perm (l.map (fun x => (F x, x)))) (hs : ∀ i j, i < j → j < d.size → ¬ c2 d[j]! d[i]! < 0) : d.toList = siL c m := by
  have nd : (d.toList.map Prod.snd).Nodup := by
    have h1 : ((l.map (fun x => (F x, x))).map Prod.snd) = l := by rw [List.map_map]; simp [Function.comp_def]
    rw [← h1] at hnd
    exact (hp.map Prod.snd).nodup_iff.2 hnd
  refine up_same ?_ siL_up (fun y => ?_)
  · rw [List.pairwise_iff_getElem]
    intro i j hi hj hij
    have hi' : i < d.size := by simpa using hi
    have hj' : j < d.size := by simpa using hj
    have h1 := hs i j hij hj'
    rw [c2_lt, getElem!_pos d j hj', getElem!_pos d i hi'] at h1
    have h2 : d[i].2 ≠ d[j].2 := fun e => by
      have := (List.getElem_inj (i := i) (j := j) (h₀ := by simpa using hi) (h₁ := by simpa using hj) nd).1 (by simpa using e)
      omega
    simp only [Array.getElem_toList]
    omega
  · rw [hp.mem_iff, siL_mem, List.mem_map]
    constructor
    · rintro ⟨x, hx, rfl⟩
      obtain ⟨r, h1, h2, rfl⟩ := (hl x).1 hx
      exact ⟨r, h1, h2, by rw [hF]⟩
    · rintro ⟨r, h1, h2, rfl⟩
      exact ⟨(r : Int), (hl _).2 ⟨r, h1, h2, rfl⟩, by rw [hF]⟩
/-- How the telling ends. -/
def TsE (w : World) (c : Nat → Nat) (m : Nat) (e : Ending) (w' : World) : Prop :=
  (∃ g k, e = .returned (.slice (some ⟨g, 0, none⟩) (siL c m).length k) ∧ ArK 2 31 w' w.heap.size w'.heap.size (.slice (some ⟨g, 0, none⟩) (siL c m).length k) (siL c m).length (flS (siL c m))) ∧ Below w.heap.size w w'
/-- How Sites ends, on either side. -/
def SitE (w : World) (n : Nat) (A : Nat → OpD) (e : Ending) (w' : World) : Prop :=
  (∃ (l : List Q2) (g k : Nat), (isG n A ∧ l = siL (ckN n A) 193 ∨ ¬ isG n A ∧ l = []) ∧ e = .returned (.slice (some ⟨g, 0, none⟩) l.length k) ∧ ArK 2 31 w' w.heap.size w'.heap.size (.slice (some ⟨g, 0, none⟩) l.length k) l.length (flS l)) ∧ Below w.heap.size w w'
set_option maxRecDepth 100000 in
set_option maxHeartbeats 4000000 in
theorem toldSites_any {w : World} {bm m : Nat} {ks : List Int} {F : Int → Int} {c : Nat → Nat} (hM : MapI w bm ks F) (hm : m ≤ 193) (hks : ∀ y, y ∈ ks ↔ ∃ r, r < m ∧ 0 < c r ∧ y = ((r : Nat) : Int)) (hF : ∀ r : Nat, F (r : Int) = c r) :
    Calls Tryz.prog 37 #[.map (some bm)] w fun e w' => TsE w c m e w' := by
  have hlen : ks.length ≤ 193 := by
    have hsub : ks ⊆ (List.range m).map (fun r : Nat => (r : Int)) := fun y hy => by
      obtain ⟨r, h1, -, rfl⟩ := (hks y).1 hy
      exact List.mem_map.2 ⟨r, List.mem_range.2 h1, rfl⟩
    have := List.Nodup.length_le_of_subset hM.nodup hsub
    simp only [List.length_map, List.length_range] at this
    omega
  have HF := hid_of hF
  have HKS := hid_of hks
  have HND := hid_of hM.nodup
  have hbs : ∀ w, (Instr.buildSlice 27 0 #[]).run Tryz.prog w = .ok (.slice (some ⟨w.heap.size, 0, none⟩) 0 0) (w.alloc (.cells #[] 31)) := fun _ => by kernel_rfl
  have hbs1 : ∀ x0 x1 w, (Instr.buildSlice 27 1 #[(0, .agg #[.int .i64 x0, .int .i64 x1])]).run Tryz.prog w = .ok (.slice (some ⟨w.heap.size, 0, none⟩) 1 1) (w.alloc (.cells #[.int .i64 x0, .int .i64 x1] 31)) := fun _ _ _ => by kernel_rfl
  obtain ⟨W5, hW5, a5, b5, -⟩ := boxed w 31 #[]
  obtain ⟨p5, hp5⟩ : ∃ q, w.heap.size = q := ⟨_, rfl⟩
  have HP5 := hid_of hp5
  rw [hp5] at a5
  have B5 : Below w.heap.size w W5 := b5
  have M5 := hM.below b5
  obtain ⟨W6, hW6, I6, b6, -⟩ := M5.range
  obtain ⟨r6, hr6⟩ : ∃ q, W5.heap.size = q := ⟨_, rfl⟩
  rw [hr6] at I6 hW6
  have hpw : w.heap.size ≤ p5 := by omega
  have O6 : Hid (ArK 2 31 W6 w.heap.size W6.heap.size (.slice (some ⟨p5, 0, none⟩) 0 0) 0 (flS [])) := ArK.own ⟨#[], a5.below b6, rfl, fun i hi => by omega⟩ hpw (Nat.le_refl _) (Nat.zero_le _)
  have B6 := B5.trans (b6.mono B5.size)
  have HI := hid_of I6
  have hbm6 : w.heap.size ≤ r6 := by have := B5.size; omega
  clear hM hF hks a5 b5 M5 I6 b6 B5 hr6 hp5
  go_enter Tryz.func37, Tryz.ntmps37
  go_wp2
  clear hW6 hW5
  rw [HP5.out]
  go_loopw [3] (fun v wr => ∃ (l left : List Int) (N gq cq : Nat), Hid (N = l.length) ∧ v = .slice (some ⟨gq, 0, none⟩) N cq ∧ Hid (ItI wr bm r6 ks F left) ∧ Hid (ArK 2 31 wr w.heap.size wr.heap.size v N (flS (l.map (fun x => (F x, x))))) ∧ Hid (l.Nodup ∧ (∀ y, y ∈ ks ↔ y ∈ l ∨ y ∈ left) ∧ ∀ y, y ∈ l → y ∉ left) ∧ l.length + left.length ≤ ks.length ∧ Below w.heap.size w wr) (fun _ wr => lfI wr r6)
  case atStart => exact ⟨[], ks, 0, _, _, rfl, rfl, HI, O6, ⟨List.nodup_nil, fun y => by simp, fun y hy => by cases hy⟩, by simp, B6⟩
  case round =>
    clear HI O6 B6
    obtain ⟨l, left, N, gq, cq, HNN, rfl, I, O, D, hll, B⟩ := hrel
    obtain rfl : N = l.length := HNN.out
    clear HNN
    rename World => wz
    have HLF := hid_of (lfI_is I.out)
    rcases I.out.next 0 with ⟨rfl, hrun⟩ | ⟨x, w', left', hrun, hent, I2, hx, hlf, hlt2, hgr, -⟩
    · have hl192 : l.length ≤ 193 := by simp at hll; omega
      obtain ⟨gq', cq', e', hlo, hlc, hcm, C⟩ := arS_cs2 (l := l.map (fun x => (F x, x))) (by rw [List.length_map]; exact O.out) (by intro h; cases h)
      rw [List.length_map] at e' hlc
      cases e'
      have HC := hid_of C
      clear C I O HLF
      go_wp2_with fail
      refine (sortS2_any HC.out (by simp) (by omega) hlc).mono ?_
      rintro e w9 ⟨rfl, ⟨d, hd, hp, hs, C9⟩, hk⟩
      have B9 : Below w.heap.size w w9 := B.trans (hk.below hlo B.size)
      have FI : Hid (TsE w c m (.returned (.slice (some ⟨gq, 0, none⟩) l.length cq)) w9) := by
        have fin : d.toList = siL c m := sites_sorted (l := l) (F := F) D.out.1 (fun y => by rw [← HKS.out, D.out.2.1]; simp) HF.out (by simpa using hp) (fun i j hij hj => hs i j hij (by omega))
        have hL : l.length = (siL c m).length := by rw [← fin]; simpa using hd.symm
        have hA := cs2_arS C9 hd hlo hlc hcm
        rw [fin, hL] at hA
        rw [hL]
        exact ⟨⟨gq, cq, rfl, hA⟩, B9⟩
      clear hd hp hs C9 hk HC D B9
      go_wp2
      go_ret
      exact FI.out
    · obtain ⟨y, hy⟩ : ∃ v, F x = v := ⟨_, rfl⟩
      rw [hy] at hrun hent
      replace hrun : (Instr.next (.pointer (some ⟨r6, 0, none⟩)) false 0).run Tryz.prog wz = .ok (.tuple #[.bool true, .int .i64 x, .int .i64 y]) w' := hrun
      replace hent : (Instr.entry (.pointer (some ⟨r6, 0, none⟩))).run Tryz.prog w' = .ok (.tuple #[.int .i64 x, .int .i64 y]) w' := hent
      have BF : Below w.heap.size w w' := B.grown hgr B.size (fun q hq => by simp only [Option.some.injEq] at hq; omega)
      obtain ⟨gq', cq', e', hlo, hlc, hcm, cur, a, hs, hc⟩ := O.out.nn (by intro h; cases h)
      cases e'
      have hneq := I.out.ne_at a
      have a' : At 31 w' gq cur := (hgr.block gq a.lt (fun e => hneq.2 (by injection e))).trans a
      have HNQ := hid_of hneq
      have HY := hid_of hy
      have HLT : Hid (left'.length < lfI wz r6) := by rw [HLF.out]; exact hlt2
      have HD2 : Hid ((l ++ [x]).Nodup ∧ (∀ z, z ∈ ks ↔ z ∈ l ++ [x] ∨ z ∈ left') ∧ ∀ z, z ∈ l ++ [x] → z ∉ left') := by
        obtain ⟨d1, d2, d3⟩ := D.out
        refine ⟨List.nodup_append.2 ⟨d1, by simp, fun u hu v hv e => ?_⟩, fun z => ?_, fun z hz => ?_⟩
        · rw [List.mem_singleton.1 hv] at e
          exact d3 u hu (by rw [e]; exact hx)
        · rw [d2, hlf]
          simp only [List.mem_append, List.mem_singleton]
          constructor
          · rintro (h | h)
            · exact .inl (.inl h)
            · by_cases e : z = x
              · exact .inl (.inr e)
              · exact .inr ⟨h, e⟩
          · rintro ((h | h) | h)
            · exact .inl h
            · exact .inr (by rw [h]; exact hx)
            · exact .inr h.1
        · rw [hlf]
          rcases List.mem_append.1 hz with h | h
          · exact fun h2 => d3 z h h2.1
          · exact fun h2 => h2.2 (List.mem_singleton.1 h)
      have hll2 : l.length + 1 + left'.length ≤ ks.length := by omega
      have hO' : ArK 2 31 w' w.heap.size w'.heap.size (.slice (some ⟨gq, 0, none⟩) l.length cq) l.length (flS (l.map (fun x => (F x, x)))) := ArK.own ⟨cur, a', hs, hc⟩ hlo hlc hcm
      clear D hlf hx hlt2 HLF I O hneq hgr a hs hc B hy hll
      obtain ⟨W9, hW9, A9, b9, -⟩ := boxed w' 31 #[.int .i64 y, .int .i64 x]
      obtain ⟨q9, hq9⟩ : ∃ q, w'.heap.size = q := ⟨_, rfl⟩
      have HQ9 := hid_of hq9
      rw [hq9] at A9
      have I9 := hid_of (I2.below b9)
      have B9 := hid_of (BF.trans (b9.mono BF.size))
      have aq9 := a'.below b9
      have hO9 : ArK 2 31 W9 w.heap.size W9.heap.size (.slice (some ⟨gq, 0, none⟩) l.length cq) l.length (flS (l.map (fun x => (F x, x)))) := by
        have h := hO'.below b9
        exact h.wide (Nat.le_refl _) b9.size
      have HO9 := hid_of hO9
      have HR9 := hid_of (two_recs (x := (y, x)) A9)
      have hbs2 := hbs1 y x w'
      rw [hW9, hq9] at hbs2
      clear hO' hO9 a' aq9 I2 A9 b9 BF hq9
      go_wp2_with (at_builtin; refine Hid.out (?_ : Hid _))
      refine (?_ : wpList _ _ _ _ _ _)
      rw [HQ9.out]
      refine wpListK_append Tryz.underlying27 infoSite rfl (by omega) (by omega) W9 rfl _ _ rfl (v := .slice (some ⟨gq, 0, none⟩) l.length cq) rfl HO9.out (ad := some ⟨q9, 0, none⟩) (m := 1) (c := 1) rfl (.inr ⟨q9, rfl, HR9.out⟩) (fun h => by cases h) (by omega) B9.out.size ?_
      intro v10 w10 hA10 hOnly hnn
      have hA11 : ArK 2 31 w10 w.heap.size w10.heap.size v10 (l.length + 1) (flS ((l ++ [x]).map (fun x => (F x, x)))) := by
        have e1 : (l ++ [x]).map (fun x => (F x, x)) = l.map (fun x => (F x, x)) ++ [(y, x)] := by
          rw [List.map_append, List.map_cons, List.map_nil, HY.out]
        rw [e1]
        refine hA10.same (fun i hi => ?_)
        have := flS_add (l.map (fun x => (F x, x))) (y, x) i (by rw [List.length_map]; exact hi)
        rwa [List.length_map] at this
      obtain ⟨g10, c10, e10, -⟩ := hA11.nn (hnn (by intro h; cases h))
      subst e10
      have HA11 := hid_of hA11
      have I10 := hid_of (I9.out.of_blocks (hOnly.block bm I9.out.map.1 (fun e => HNQ.out.1 (by injection e))) (hOnly.block r6 I9.out.map.2 (fun e => HNQ.out.2 (by injection e))))
      have B10 : Below w.heap.size w w10 := hOnly.belowK HO9.out (Nat.le_refl _) B9.out B9.out.size
      have HLT2 : Hid (lfI w10 r6 < lfI wz r6) := by rw [lfI_is I10.out]; exact HLT.out
      have HLN : Hid (l.length + 1 = (l ++ [x]).length) := hid_of (by simp)
      have hll3 : (l ++ [x]).length + left'.length ≤ ks.length := by rw [List.length_append]; exact hll2
      clear hA10 hOnly hnn hA11 HO9 HR9 I9 B9 hbs2 hW9 hrun hent HLT
      go_wp2
      exact ⟨⟨l ++ [x], left', l.length + 1, g10, c10, HLN, rfl, I10, HA11, HD2, hll3, B10⟩, HLT2.out⟩
end Go.Proofs.YtgjhbkpocbihbaaGreat
