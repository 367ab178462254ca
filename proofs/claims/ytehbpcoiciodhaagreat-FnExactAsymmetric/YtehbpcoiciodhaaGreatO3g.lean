/-
  The orbit by the program, and by the specification: walked.
-/
import Derived.Test.YtehbpcoiciodhaaGreatO3f
import Derived.Test.YtehbpcoiciodhaaGreatO3d
import Derived.Test.YtehbpcoiciodhaaGreatMN
namespace Go.Proofs.YtehbpcoiciodhaaGreat
open Go.RowKit Go.Lib

/-- What the program's orbit of a list of operators tells. -/
theorem lc3_iCells (P : Nat → T3) (n : Nat) : lc3 ((List.range n).map P) = iCells (fl3 P) (n * 3) := by
  refine iCells_ext (by rw [lc3_len]; simp) (fun j hj => ?_)
  have h : ∀ m, (lc3 ((List.range m).map P))[j]? = if j < m * 3 then some (.int .i64 (fl3 P j)) else none := by
    intro m
    induction m with
    | zero => simp [lc3]
    | succ m ih =>
      rw [List.range_succ, List.map_append, List.map_cons, List.map_nil, lc3_snoc]
      have hl : (lc3 ((List.range m).map P)).length = m * 3 := by rw [lc3_len]; simp
      by_cases e : j < m * 3
      · rw [List.getElem?_append_left (by rw [hl]; exact e), ih, if_pos e, if_pos (by omega)]
      · rw [List.getElem?_append_right (by rw [hl]; omega), hl]
        by_cases e' : j < (m + 1) * 3
        · rw [if_pos e']
          unfold fl3
          have hjm : j / 3 = m := by omega
          rw [hjm]
          rcases (by omega : j = m * 3 ∨ j = m * 3 + 1 ∨ j = m * 3 + 2) with h | h | h
          · rw [h, show m * 3 - m * 3 = 0 by omega, show m * 3 % 3 = 0 by omega]; rfl
          · rw [h, show m * 3 + 1 - m * 3 = 1 by omega, show (m * 3 + 1) % 3 = 1 by omega]; rfl
          · rw [h, show m * 3 + 2 - m * 3 = 2 by omega, show (m * 3 + 2) % 3 = 2 by omega]; rfl
        · rw [if_neg e', List.getElem?_eq_none (by simp [e3]; omega)]
  rw [h n, if_pos hj]
theorem ptG_c3 {w : World} {lo m : Nat} {v : Value} {F : Nat → T3} (h : PtG w lo v m F) : ∃ g c, v = .slice (some ⟨g, 0, none⟩) m c ∧ lo ≤ g ∧ m ≤ c ∧ c ≤ maxLen ∧ C3 w g c ((List.range m).map F).toArray := by
  obtain ⟨g, c, cur, e, hl, a, hs, hm, hc, hH⟩ := h.open
  refine ⟨g, c, e, hl, hm, hc, cur, a, hs, fun i hi => ?_⟩
  have hi' : i < m := by simpa using hi
  have : ((List.range m).map F).toArray[i]! = F i := by rw [getElem!_pos _ i hi]; simp
  rw [this]
  exact hH i hi'
theorem c3_ptG {w : World} {g c m lo : Nat} {l : List T3} (h : C3 w g c l.toArray) (hl : l.length = m) (hm : m ≤ c) (hc : c ≤ maxLen) (hlo : lo ≤ g) : PtG w lo (.slice (some ⟨g, 0, none⟩) m c) m (fun t => l[t]!) := by
  obtain ⟨cur, a, hs, hH⟩ := h
  refine ptG_of a hs hm hc hlo (fun t ht => ?_)
  have := hH t (by simpa [hl] using ht)
  have e : l.toArray[t]! = l[t]! := by
    rw [getElem!_pos _ t (by simpa [hl] using ht), List.getElem!_eq_getElem?_getD, List.getElem?_eq_getElem (by omega)]
    simp
  rw [e] at this
  exact this
set_option maxRecDepth 100000 in
set_option maxHeartbeats 3000000 in
theorem orbitOf_any {w : World} {lo n : Nat} {v : Value} {Q : Nat → Nat} {K : Nat → Nat → Int} {x : T3} (hD : DeedsG w lo v n Q K) (hn : n ≤ 192) (hR : ∀ i, i < n → isR (K i) (kh (K i))) (hp : inP x.1 x.2.1 x.2.2) :
    Calls Tryz.prog 38 #[tV x, v] w (OrbP w n (fun i => tO (actV (K i) (kh (K i)) (p3 x.1 x.2.1 x.2.2)))) := by
  obtain ⟨P, hP⟩ : ∃ P : Nat → T3, (fun i => tO (actV (K i) (kh (K i)) (p3 x.1 x.2.1 x.2.2))) = P := ⟨_, rfl⟩
  have hPi : ∀ i, i < n → P i = tO (actV (K i) (kh (K i)) (p3 x.1 x.2.1 x.2.2)) := fun i _ => by rw [← hP]
  rw [hP]
  clear hP
  have hbs : ∀ w, (Instr.buildSlice 26 0 #[]).run Tryz.prog w = .ok (.slice (some ⟨w.heap.size, 0, none⟩) 0 0) (w.alloc (.cells #[] 30)) := fun _ => by kernel_rfl
  obtain ⟨gd, cd, rfl, hlo, hgd, -, hdl⟩ := hD.open
  obtain ⟨W1, hW1, A1, B1, -⟩ := boxed w 30 #[.int .i64 x.1, .int .i64 x.2.1, .int .i64 x.2.2]
  obtain ⟨q1, hq1⟩ : ∃ q, w.heap.size = q := ⟨_, rfl⟩
  rw [hq1] at A1
  obtain ⟨W2, hW2, A2, B2, -⟩ := boxed W1 30 #[]
  obtain ⟨g0, hg0⟩ : ∃ q, W1.heap.size = q := ⟨_, rfl⟩
  rw [hg0] at A2
  have A12 := A1.below B2
  obtain ⟨d0, d1, d2, -⟩ := A12.open3
  have B := B1.trans (B2.mono B1.size)
  have l10 : q1 < g0 := by rw [← hg0]; exact A1.lt
  have HD0 := hid_of hD
  have HD2 := hid_of (hD.below B)
  have HDL := hid_of hdl
  have HPI := hid_of hPi
  have HR := hid_of hR
  have HP := hid_of hp
  have HA2 := hid_of A2
  have HB := hid_of B
  clear hD hdl A1 B1 hPi hR hp A2 B2 B
  go_enter Tryz.func38, Tryz.ntmps38
  go_wp2_with fail
  refine (pointsFrom_any x gd n cd _).mono ?_
  rintro e w3 ⟨rfl, hw3⟩
  obtain ⟨bp, hbp⟩ : ∃ q, W2.heap.size = q := ⟨_, rfl⟩
  have hz3 : w3.heap.size = bp + 2 := by rw [hw3, ← hbp]; simp
  have b3 : Below W2.heap.size W2 w3 := by rw [hw3]; exact ((Below.refl _ W2).alloc (Nat.le_refl _) _).alloc (by simp) _
  have a3 : At 30 w3 bp #[.int .i64 x.1, .int .i64 x.2.1, .int .i64 x.2.2] := by
    rw [hw3, ← hbp]
    exact (at_new 30 W2 _).below (below_alloc _ _)
  have c3 : At 63 w3 (bp + 1) #[.slice (some ⟨gd, 0, none⟩) n cd] := by
    rw [hw3, ← hbp]
    have := at_new 63 (W2.alloc (.cells #[.int .i64 x.1, .int .i64 x.2.1, .int .i64 x.2.2] 30)) #[.slice (some ⟨gd, 0, none⟩) n cd]
    simpa using this
  have lg0 : g0 < bp := by rw [← hbp]; exact HA2.out.lt
  have HD3 := HD2.out.below b3
  have PTS : PtsAt w3 w3.heap.size g0 (bp + 1) bp gd n cd Q K x := by
    obtain ⟨g', c', e', -, -, -, hc⟩ := HD3.open
    cases e'
    refine ⟨c3.cell 0 rfl, a3, hc, fun i hi => (HD3.bx i hi).2, ⟨by omega, by omega, by omega, by omega, by omega, by omega, Nat.le_refl _⟩, fun i hi => ?_⟩
    have := (HD0.out.bx i hi).2.lt
    exact ⟨by omega, by omega⟩
  have hA3 := HA2.out.below b3
  have HB3 := hid_of (HB.out.trans (b3.mono HB.out.size))
  have eg : ∀ args w, (callFunc 103 args).run Tryz.prog w = .ok (.enter 103 args) w := enters_of Tryz.func103 (by kernel_rfl) rfl
  have AS := (callsIn_wide (n := 2)).1 (appendSeq3_in P 103 #[.pointer (some ⟨bp + 1, 0, none⟩), .pointer (some ⟨bp, 0, none⟩)] eg hn hA3 rfl (points_stops 1 PTS hn HR.out HP.out P HPI.out))
  clear PTS hA3 eg HD3 a3 c3 b3 HD2 HD0 HDL HPI HR HP HA2 HB hw3 d0 d1 d2 A12
  go_wp2_with fail
  refine AS.mono ?_
  rintro e w4 ⟨v4, rfl, hrow4, hnn4, -, hk4⟩
  rw [lc3_iCells] at hrow4
  have hlo4 : w.heap.size ≤ g0 := by omega
  have G4 : PtG w4 w.heap.size v4 n P := ⟨by
    obtain ⟨e0, h1 | ⟨g', c', cur', e', hb', r⟩⟩ := hrow4
    · exact ⟨e0, .inl h1⟩
    · exact ⟨e0, .inr ⟨g', c', cur', e', Nat.le_trans hlo4 hb', r⟩⟩, hnn4⟩
  have HB4 := hid_of (HB3.out.trans (hk4.below hlo4 HB3.out.size))
  obtain ⟨g4, c4, rfl, hl4, hn4, hc4, hC4⟩ := ptG_c3 G4
  have hsz : ((List.range n).map P).toArray.size = n := by simp
  clear AS HB3 hrow4 hnn4 hk4 G4
  go_wp2_with fail
  refine (sortP_any hC4 hsz (by omega) hn4).mono ?_
  rintro e w5 ⟨rfl, ⟨d', hd', hpm, hso, hC5⟩, hk5⟩
  have HB5 := hid_of (HB4.out.trans (hk5.below hl4 HB4.out.size))
  have OC := hid_of (orb_compact (P := P) hsz (fun i hi => by rw [getElem!_pos _ i (by rw [hsz]; exact hi)]; simp) hd' hpm hso)
  have CC := compactP_any (B := w.heap.size) hC5 (by omega) (by omega) hl4
  rw [hd'] at CC
  have HDS := hid_of hd'
  have hC4n : n ≤ c4 := hn4
  clear hC4 hC5 hpm hso hk5 HB4 hsz hd'
  go_wp2_with fail
  refine CC.mono ?_
  rintro e w6 ⟨rfl, hC6, hb6⟩
  rw [HDS.out] at hC6
  obtain ⟨l, hl⟩ : ∃ l, compactUpTo d' n = l := ⟨_, rfl⟩
  rw [hl] at hC6 OC ⊢
  have hlen := OC.out.le
  have G6 : Hid (PtG w6 w.heap.size (.slice (some ⟨g4, 0, none⟩) l.length c4) l.length (fun t => l[t]!)) := c3_ptG hC6 rfl (by omega) hc4 hl4
  have HB6 := hid_of (HB5.out.trans hb6)
  clear CC hC6 hb6 hl HDS HB5
  go_wp2
  go_ret
  exact ⟨⟨_, _, _, rfl, G6.out, OC.out⟩, HB6.out⟩
end Go.Proofs.YtehbpcoiciodhaaGreat
