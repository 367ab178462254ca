/-
  FindBasis by the program, walked.
-/
import Derived.Test.YtjlmiadmobbibaaCe9
import Derived.Test.YtjlmiadmobbibaaCd9
import Derived.Laws.EntriesVeiled
namespace Go.Proofs.Ytjlmiadmobbibaa
open Go.RowKit

theorem keptC_mv {q : Nat} {o : Option Nat} {w0 w w' : World} (h : Kept q w0 w) (k : MvC q o w w') (ho : ∀ j, o = some j → w0.heap.size ≤ j) : Kept q w0 w' :=
  ⟨k.os.trans h.os, k.tape.trans h.tape, k.output.trans h.output, Nat.le_trans h.size k.size, fun i hi hp => (k.block i (Nat.lt_of_lt_of_le hi h.size) hp (fun e => by have := ho i e; omega)).trans (h.block i hi hp)⟩
theorem keptC_below {q : Nat} {w0 w w' : World} (h : Kept q w0 w) (k : Below w.heap.size w w') : Kept q w0 w' := h.trans (Kept.of_below k)
theorem LpsC.kept {q g : Nat} {w w' : World} {l : List (Int × Int)} (h : Lps w g l) (hk : Kept q w w') (hg : g ≠ q) : Lps w' g l :=
  ⟨Nat.lt_of_lt_of_le h.1 hk.size, fun i hi => ⟨(hk.cell hg h.1).trans (h.2 i hi).1, (hk.cell hg h.1).trans (h.2 i hi).2⟩⟩
theorem TripsC.kept {w w' : World} {g q n : Nat} {f : Nat → Int} (h : Trips w g n f) (hk : Kept q w w') (hg : g ≠ q) : Trips w' g n f := ⟨Nat.lt_of_lt_of_le h.1 hk.size, fun i hi => (hk.cell hg h.1).trans (h.2 i hi)⟩
theorem own_ne_at {w : World} {B : Nat} {t s : TypeId} {e p : Nat} {v : Value} {n : Nat} {xs : List Value} {vs : Array Value} (h : w.ownsRow B t e v n xs) (ha : At s w p vs) (hst : s ≠ t) : v.ownBlock ≠ some p := by
  intro hv
  rcases h.2 with ⟨rfl, _⟩ | ⟨g, c, cur, rfl, hb, hh, -⟩
  · cases hv
  · cases hv
    have h1 := ha
    unfold At at h1
    rw [h1] at hh
    injection hh with hh
    injection hh with h2 h3
    exact hst h3
/-- What lies in the heap behind i rows and j more. -/
def InC (n : Nat) (f : Nat → Int) (D : List (Int × Int)) (i j : Nat) (x : Cd) : Prop :=
  ∃ s t, ((s < i ∧ t < D.length) ∨ (s = i ∧ t < j)) ∧ D.getD s (0, 0) = (x.a, x.b) ∧ D.getD t (0, 0) = (x.c, x.d) ∧ BsOk x.a x.b x.c x.d ∧ x.m = (ixc f x.a x.b x.c x.d n : Int)
theorem inC_yes {n : Nat} {f : Nat → Int} {D : List (Int × Int)} {i j : Nat} {a b c d : Int} (h1 : D.getD i (0, 0) = (a, b)) (h2 : D.getD j (0, 0) = (c, d)) (hb : BsOk a b c d) (x : Cd) : InC n f D i (j + 1) x ↔ (InC n f D i j x ∨ x = ⟨a, b, c, d, (ixc f a b c d n : Int)⟩) := by
  constructor
  · rintro ⟨s, t, hst, e1, e2, e3, e4⟩
    by_cases e : s = i ∧ t = j
    · obtain ⟨rfl, rfl⟩ := e
      rw [h1] at e1
      rw [h2] at e2
      injection e1 with e1 e1'
      injection e2 with e2 e2'
      obtain ⟨xa, xb, xc, xd, xm⟩ := x
      simp only at e1 e1' e2 e2' e4
      subst e1 e1' e2 e2'
      right
      rw [e4]
    · exact .inl ⟨s, t, by omega, e1, e2, e3, e4⟩
  · rintro (⟨s, t, hst, h⟩ | rfl)
    · exact ⟨s, t, by omega, h⟩
    · exact ⟨i, j, by omega, h1, h2, hb, rfl⟩
theorem inC_no {n : Nat} {f : Nat → Int} {D : List (Int × Int)} {i j : Nat} {a b c d : Int} (h1 : D.getD i (0, 0) = (a, b)) (h2 : D.getD j (0, 0) = (c, d)) (hb : ¬ BsOk a b c d) (x : Cd) : InC n f D i (j + 1) x ↔ InC n f D i j x := by
  constructor
  · rintro ⟨s, t, hst, e1, e2, e3, e4⟩
    by_cases e : s = i ∧ t = j
    · obtain ⟨rfl, rfl⟩ := e
      rw [h1] at e1
      rw [h2] at e2
      injection e1 with e1 e1'
      injection e2 with e2 e2'
      rw [← e1, ← e1', ← e2, ← e2'] at e3
      exact absurd e3 hb
    · exact ⟨s, t, by omega, e1, e2, e3, e4⟩
  · rintro ⟨s, t, hst, h⟩
    exact ⟨s, t, by omega, h⟩
theorem inC_row {n : Nat} {f : Nat → Int} {D : List (Int × Int)} {i : Nat} (x : Cd) : InC n f D (i + 1) 0 x ↔ InC n f D i D.length x := by
  constructor
  · rintro ⟨s, t, hst, h⟩
    exact ⟨s, t, by omega, h⟩
  · rintro ⟨s, t, hst, h⟩
    exact ⟨s, t, by omega, h⟩
theorem inC_all (n : Nat) (f : Nat → Int) (x : Cd) : InC n f (dsT (lpR f n n) (lpR f n n).length) (dsT (lpR f n n) (lpR f n n).length).length 0 x ↔ Cs n f x := by
  have key : ∀ p : Int × Int, p ≠ (0, 0) → (p ∈ dsT (lpR f n n) (lpR f n n).length ↔ LP n f p) := fun p hp => by
    rw [dsT_mem _ _ _ (Nat.le_refl _), List.take_length]
    exact lp_mem hp
  constructor
  · rintro ⟨s, t, hst, e1, e2, e3, e4⟩
    have hs : s < (dsT (lpR f n n) (lpR f n n).length).length ∧ t < (dsT (lpR f n n) (lpR f n n).length).length := by omega
    exact ⟨(key _ e3.ne.1).1 (mem_getD.2 ⟨s, hs.1, e1⟩), (key _ e3.ne.2).1 (mem_getD.2 ⟨t, hs.2, e2⟩), e3, e4⟩
  · rintro ⟨h1, h2, h3, h4⟩
    obtain ⟨s, hs, e1⟩ := mem_getD.1 ((key _ h3.ne.1).2 h1)
    obtain ⟨t, ht, e2⟩ := mem_getD.1 ((key _ h3.ne.2).2 h2)
    exact ⟨s, t, .inl ⟨hs, ht⟩, e1, e2, h3, h4⟩
/-- A basis and a number told. -/
def FbP (w : World) (n : Nat) (f : Nat → Int) (e : Ending) (w' : World) : Prop := ∃ r : Cd, e = .returned (.tuple #[bV r.a r.b r.c r.d, .int .i64 r.m]) ∧ FbT n f r ∧ Below w.heap.size w w'
theorem put4_atC {t : TypeId} {w : World} {q : Nat} {x0 x1 x2 x3 : Value} (h : At t w q #[x0, x1, x2, x3]) (v0 v1 v2 v3 : Value) : At t ((((w.setCell ⟨q, 0, none⟩ v0).setCell ⟨q, 1, none⟩ v1).setCell ⟨q, 2, none⟩ v2).setCell ⟨q, 3, none⟩ v3) q #[v0, v1, v2, v3] := by
  simpa using (((h.set 0 v0).set 1 v1).set 2 v2).set 3 v3
theorem below_put4C {N q : Nat} {w0 w : World} (h : Below N w0 w) (hq : N ≤ q) (v0 v1 v2 v3 : Value) : Below N w0 ((((w.setCell ⟨q, 0, none⟩ v0).setCell ⟨q, 1, none⟩ v1).setCell ⟨q, 2, none⟩ v2).setCell ⟨q, 3, none⟩ v3) :=
  (((h.setCell (p := ⟨q, 0, none⟩) hq v0).setCell (p := ⟨q, 1, none⟩) hq v1).setCell (p := ⟨q, 2, none⟩) hq v2).setCell (p := ⟨q, 3, none⟩) hq v3
set_option maxRecDepth 100000 in
set_option maxHeartbeats 8000000 in
theorem implFind_any {w : World} {g n cp : Nat} {f : Nat → Int} (h : Trips w g n f) (hn : n ≤ 1048576) :
    Calls Try.prog 10 #[.slice (some ⟨g, 0, none⟩) n cp] w (FbP w n f) := by
  obtain ⟨V, hV, A0, bW, -⟩ := boxed w 27 #[.int .i64 0, .int .i64 0, .int .i64 0, .int .i64 0]
  go_enter Try.func10, Try.ntmps10
  go_wp2_with fail
  refine (areSpots_any (h.below bW) hn).mono ?_
  rintro e w2 ⟨rfl, bb⟩
  replace A0 := A0.below bb
  replace bW := bW.trans (bb.mono bW.size)
  clear bb hV
  by_cases hs : SpOk n f
  case neg =>
    rw [pd_no hs]
    have A1 := put4_atC A0 (.int .i64 0) (.int .i64 0) (.int .i64 0) (.int .i64 0)
    have B1 := below_put4C bW (Nat.le_refl _) (.int .i64 0) (.int .i64 0) (.int .i64 0) (.int .i64 0)
    obtain ⟨c0, c1, c2, c3, k0, k1, k2, k3⟩ := A0.open4
    obtain ⟨d0, d1, d2, d3, -⟩ := A1.open4
    clear A0 A1 bW
    go_wp2
    exact bodyPost_ret (v := .tuple #[bV 0 0 0 0, .int .i64 0]) (by simp [results, Try.results10, go_sem, d0, d1, d2, d3]) rfl ⟨⟨0, 0, 0, 0, 0⟩, rfl, .inl ⟨hs, rfl⟩, B1⟩
  rw [pd_yes hs]
  obtain ⟨W1, hW1, hH, bb, -⟩ := boxed w2 61 #[.slice none 0 0, .func (.func 30) #[] #[]]
  have A1 := A0.below bb
  have bW1 := bW.trans (bb.mono bW.size)
  have hwq : w.heap.size < w2.heap.size := A0.lt
  clear bb A0 bW
  go_wp2_with fail
  obtain ⟨q, hq⟩ : ∃ q, w2.heap.size = q := ⟨_, rfl⟩
  rw [hq] at hH hwq ⊢
  refine (leapsOf_any (h.below bW1) hs).mono ?_
  rintro e w3 ⟨v3, rfl, G3⟩
  have bb := G3.b
  have A3 := A1.below bb
  have hH3 := hH.below bb
  have bW3 := bW1.trans (bb.mono bW1.size)
  clear bb A1 hH bW1 hW1 hq
  obtain ⟨-, g3, c3, rfl, hg3, L3⟩ := G3.lps
  clear G3
  have hlen := lpR_len f (i := n) hs.1
  have hn16 := hs.1
  have hl1000 : (lpR f n n).length ≤ 256 := by omega
  have HALL := inC_all n f
  obtain ⟨l, hl⟩ : ∃ l, lpR f n n = l := ⟨_, rfl⟩
  rw [hl] at L3 hl1000 HALL
  rw [hl]
  have DD := distinct_any (c := c3) L3 (by omega)
  have hDl := dsT_len l l.length
  obtain ⟨nl, hnl⟩ : ∃ nl, l.length = nl := ⟨_, rfl⟩
  rw [hnl] at DD HALL hl1000 hDl
  rw [hnl]
  go_wp2_with fail
  refine DD.mono ?_
  rintro e w5 ⟨v5, rfl, G5⟩
  have bb := G5.b
  have A5 := A3.below bb
  have hH5 := hH3.below bb
  have bW5 := bW3.trans (bb.mono bW3.size)
  have hq5 := hH5.lt
  have hq3 := hH3.lt
  clear bb A3 hH3 bW3 DD L3
  obtain ⟨-, g5, c5, rfl, hg5, L5⟩ := G5.lps
  have hg5q : g5 ≠ q := by omega
  clear G5
  obtain ⟨D, hD⟩ : ∃ D, dsT l nl = D := ⟨_, rfl⟩
  rw [hD] at L5 hDl HALL
  rw [hD]
  have HROW := fun i x => inC_row (n := n) (f := f) (D := D) (i := i) x
  obtain ⟨nd, hnd⟩ : ∃ nd, D.length = nd := ⟨_, rfl⟩
  rw [hnd] at hDl HALL
  simp only [hnd] at HROW
  rw [hnd]
  have hnd' : (nd : Int) ≤ 256 := by omega
  have HV0 : HvC w5 w5.heap.size q (.slice none 0 0) 0 (fun _ => ⟨0, 0, 0, 0, 0⟩) := ⟨⟨rfl, .inl ⟨rfl, rfl⟩⟩, hH5, hq5⟩
  obtain ⟨B, hB⟩ : ∃ B, w5.heap.size = B := ⟨_, rfl⟩
  rw [hB] at HV0
  have hwB : w.heap.size < B := by omega
  have hqB : q < B := by omega
  have hgq : g ≠ q := by have := h.1; omega
  have hgB : g < B := by have := h.1; omega
  have HND : Hid (D.length = nd) := hnd
  have T5 := h.below bW5
  go_wp2
  clear hH5 hD hl hlen hnl hnd
  go_loopw [22] (fun s wr => ∃ (i nH : Nat) (v : Value) (F : Nat → Cd), i ≤ nd ∧ nH ≤ i * 256 ∧ s = .int .i64 (i : Int) ∧ HvC wr B q v nH F ∧ Hp clt nH F ∧ (∀ x, Mem nH F x ↔ InC n f D i 0 x) ∧ Kept q w5 wr) (fun s _ => nd - (intOf s).toNat)
  case atStart => exact ⟨0, 0, _, _, Nat.zero_le _, Nat.le_refl _, rfl, HV0, fun i h1 h2 => by omega, fun x => ⟨fun ⟨i, hi, _⟩ => by omega, fun ⟨s, t, hst, _⟩ => by omega⟩, Kept.refl _ _⟩
  case round =>
    clear HV0
    obtain ⟨i, nH, v, F, hi, hnH, rfl, HV, hHp, hMem, hK⟩ := hrel
    by_cases hlt : i < nd
    · have hlt' : (i : Int) < (nd : Int) := by omega
      obtain ⟨c0, c1⟩ := (LpsC.kept L5 hK hg5q).2 i (by have := HND.out; omega)
      obtain ⟨P, hP⟩ : ∃ P, D.getD i (0, 0) = P := ⟨_, rfl⟩
      rw [hP] at c0 c1
      obtain ⟨xa, xb⟩ := P
      simp only at c0 c1
      obtain ⟨W6, hW6, a6, bb, -⟩ := boxed wr 66 #[.int .i64 xa, .int .i64 xb]
      have HV6 := HV.below bb
      have hK6 := keptC_below hK bb
      obtain ⟨p6, hp6⟩ : ∃ q, wr.heap.size = q := ⟨_, rfl⟩
      have hqp6 : p6 ≠ q := by have := HV.hd.lt; omega
      rw [hp6] at a6
      clear bb HV hK
      go_wp2
      clear c0 c1 hW6 hp6
      go_loopw [28] (fun s wr => ∃ (j nH : Nat) (v : Value) (F : Nat → Cd), j ≤ nd ∧ nH ≤ i * 256 + j ∧ s = .int .i64 (j : Int) ∧ HvC wr B q v nH F ∧ Hp clt nH F ∧ (∀ x, Mem nH F x ↔ InC n f D i j x) ∧ At 66 wr p6 #[.int .i64 xa, .int .i64 xb] ∧ Kept q w5 wr) (fun s _ => nd - (intOf s).toNat)
      case atStart => exact ⟨0, nH, v, F, Nat.zero_le _, hnH, rfl, HV6, hHp, hMem, a6, hK6⟩
      case round =>
        clear HV6 hHp hMem a6 hK6 hnH
        obtain ⟨j, nH, v, F, hj, hnH, rfl, HV, hHp, hMem, a6, hK⟩ := hrel
        by_cases hjt : j < nd
        · have hjt' : (j : Int) < (nd : Int) := by omega
          obtain ⟨c0, c1⟩ := (LpsC.kept L5 hK hg5q).2 j (by have := HND.out; omega)
          obtain ⟨P, hP2⟩ : ∃ P, D.getD j (0, 0) = P := ⟨_, rfl⟩
          rw [hP2] at c0 c1
          obtain ⟨xc, xd⟩ := P
          simp only at c0 c1
          obtain ⟨W7, hW7, a7, b7, -⟩ := boxed wr 66 #[.int .i64 xc, .int .i64 xd]
          obtain ⟨W8, hW8, a8, b8, -⟩ := boxed W7 27 #[.int .i64 xa, .int .i64 xb, .int .i64 xc, .int .i64 xd]
          have HV8 := (HV.below b7).below b8
          have hK8 := keptC_below (keptC_below hK b7) b8
          have a67 := a6.below b7
          have a68 := a67.below b8
          obtain ⟨y0, y1, -⟩ := a67.open2
          obtain ⟨z0, z1, -⟩ := a7.open2
          obtain ⟨r0, r1, r2, r3, -⟩ := a8.open4
          have hp8 : W7.heap.size ≠ q := by have := HV.hd.lt; have := b7.size; omega
          clear b7 b8 HV hK a6
          go_wp2_with fail
          refine (right_any xa xb xc xd _).mono ?_
          rintro e w9 ⟨rfl, bb⟩
          replace HV8 := HV8.below bb
          replace hK8 := keptC_below hK8 bb
          replace a68 := a68.below bb
          replace a8 := a8.below bb
          obtain ⟨p8, hp8'⟩ : ∃ p, W7.heap.size = p := ⟨_, rfl⟩
          rw [hp8'] at a8 hp8 ⊢
          clear bb y0 y1 z0 z1 r0 r1 r2 r3 c0 c1 hW7 hW8 a67 a7 hp8'
          by_cases hb : BsOk xa xb xc xd
          · rw [pd_yes hb]
            have HM : Hid (∀ z, InC n f D i (j + 1) z ↔ (InC n f D i j z ∨ z = ⟨xa, xb, xc, xd, (ixc f xa xb xc xd n : Int)⟩)) := Hid.out fun z => inC_yes hP hP2 hb z
            have T9 := TripsC.kept T5 hK8 hgq
            have CO := fun w (h : Trips w g n f) => countOf_any (cp := cp) h hs hb
            obtain ⟨C, hC⟩ : ∃ C : Nat, ixc f xa xb xc xd n = C := ⟨_, rfl⟩
            rw [hC] at HM CO
            have hov := own_ne_at HV8.own a8 (by decide)
            have hov6 := own_ne_at HV8.own a68 (by decide)
            have hovB : ∀ k, v.ownBlock = some k → B ≤ k := fun k hk => (own_ge HV8.own hk).1
            have hBs : B ≤ w9.heap.size := by have := hK8.size; omega
            clear hC hP2
            go_upto_region 13 with (fail)
            obtain ⟨u0, hu0, bb⟩ : ∃ uu, w9.drew = uu ∧ Below w9.heap.size w9 uu := ⟨_, rfl, (Below.refl _ _).drew⟩
            replace HV8 := HV8.below bb
            replace a68 := a68.below bb
            replace a8 := a8.below bb
            replace T9 := T9.below bb
            replace hK8 := keptC_below hK8 bb
            replace hBs := Nat.le_trans hBs bb.size
            clear bb
            refine wp_region_held_drew (S := fun w' => At 27 w' p8 #[.int .i64 xa, .int .i64 xb, .int .i64 xc, .int .i64 xd]) (by kernel_rfl) (by rw [hu0]; exact a8) (fun hHeld => ?_)
            rw [hu0] at hHeld ⊢
            clear hu0
            change wpAnyH _ _ _ _ _ 6 #[false, false, false, false, false, false] _ _
            refine wpAnyH_take (i := 0) (v := .agg #[.int .i64 (xa), .int .i64 (xb), .int .i64 (xc), .int .i64 (xd)]) rfl (by kernel_rfl) (by kernel_rfl) (by kernel_rfl) (fun _ _ _ h => h) (Or.inl ⟨by kernel_rfl, ?_⟩) hHeld ?_
            · intro w' hSw; obtain ⟨z0, z1, z2, z3, -⟩ := hSw.open4; go_simp
            try simp only [Act.put, List.setIfInBounds_toArray, List.set_cons_zero, List.set_cons_succ, List.getElem_toArray, List.getElem_cons_zero]
            refine wpAnyH_take (i := 1) (v := .agg #[.int .i64 (xa), .int .i64 (xb), .int .i64 (xc), .int .i64 (xd)]) rfl (by kernel_rfl) (by kernel_rfl) (by kernel_rfl) (fun _ _ _ h => h) (Or.inl ⟨by kernel_rfl, ?_⟩) hHeld ?_
            · intro w' hSw; obtain ⟨z0, z1, z2, z3, -⟩ := hSw.open4; go_simp
            try simp only [Act.put, List.setIfInBounds_toArray, List.set_cons_zero, List.set_cons_succ, List.getElem_toArray, List.getElem_cons_succ, List.getElem_cons_zero]
            refine wpAnyH_take (i := 2) (v := .slice ((some ⟨g, 0, none⟩)) n cp) rfl (by kernel_rfl) (by kernel_rfl) (by kernel_rfl) (fun _ _ _ h => h) (Or.inl ⟨by kernel_rfl, ?_⟩) hHeld ?_
            · intro w' hSw; go_simp
            try simp only [Act.put, List.setIfInBounds_toArray, List.set_cons_zero, List.set_cons_succ, List.getElem_toArray, List.getElem_cons_succ, List.getElem_cons_zero]
            refine wpAnyH_ready (rs := [3]) (by kernel_rfl) (by simp) ?_
            refine AllReadyH.cons rfl (fun KK hK' => ?_) AllReadyH.nil
            go_simp
            refine (CO _ T9).mono ?_
            rintro e u1 ⟨rfl, bb⟩
            replace HV8 := HV8.below bb
            replace hK8 := keptC_below hK8 bb
            replace a68 := a68.below bb
            replace a8 := a8.below bb
            replace hBs := Nat.le_trans hBs bb.size
            clear bb T9 CO
            try go_wp2_with fail
            clear hHeld
            refine hK'.out _ _ (a8) (fun hHeld => ?_)
            clear hK' KK
            try simp only [List.setIfInBounds_toArray, List.set_cons_zero, List.set_cons_succ]
            refine wpAnyH_take (i := 4) (v := (.agg #[.int .i64 xa, .int .i64 xb, .int .i64 xc, .int .i64 xd, .int .i64 (C : Int)])) rfl (by kernel_rfl) (by kernel_rfl) (by kernel_rfl) (fun _ _ _ h => h) (Or.inl ⟨by kernel_rfl, ?_⟩) hHeld ?_
            · intro w' hSw; go_simp
            try simp only [Act.put, List.setIfInBounds_toArray, List.set_cons_zero, List.set_cons_succ, List.getElem_toArray, List.getElem_cons_succ, List.getElem_cons_zero]
            refine wpAnyH_ready (rs := [5]) (by kernel_rfl) (by simp) ?_
            refine AllReadyH.cons rfl (fun KK hK' => ?_) AllReadyH.nil
            go_simp
            refine (putC_any ⟨xa, xb, xc, xd, (C : Int)⟩ HV8 hHp (by omega) (by omega)).mono ?_
            rintro e u2 ⟨rfl, v9, F9, HV9, hHp9, hRg, hMv, hat⟩
            have hK9 := keptC_mv hK8 hMv (fun k hk => by have := hovB k hk; omega)
            have a9 := hMv.at a8 hp8 hov
            have a69 := hMv.at a68 hqp6 hov6
            have hMem9 : ∀ z, Mem (nH + 1) F9 z ↔ InC n f D i (j + 1) z := fun z => (hRg.2 z).trans ((mem_put nH F _ z).trans ((or_congr_left (hMem z)).trans (HM.out z).symm))
            clear HV8 hK8 hMv hRg hat hMem HM a68 a8
            try go_wp2_with fail
            clear hHeld
            refine hK'.out _ _ (a9) (fun hHeld => ?_)
            clear hK' KK
            try simp only [List.setIfInBounds_toArray, List.set_cons_zero, List.set_cons_succ]
            refine wpAnyH_done (by kernel_rfl) ?_ _
            clear hHeld
            go_wp2
            exact ⟨⟨j + 1, nH + 1, v9, F9, by omega, by omega, by go_num, HV9, hHp9, hMem9, a69, hK9⟩, by simp [intOf]; omega⟩
          · rw [pd_no hb]
            have HM : Hid (∀ z, Mem nH F z ↔ InC n f D i (j + 1) z) := Hid.out fun z => (hMem z).trans (inC_no hP hP2 hb z).symm
            clear hb hMem hP2
            go_wp2
            exact ⟨⟨j + 1, nH, v, F, by omega, by omega, by go_num, HV8, hHp, HM.out, a68, hK8⟩, by simp [intOf]; omega⟩
        · have hjt' : ¬ (j : Int) < (nd : Int) := by omega
          obtain rfl : j = nd := by omega
          have HM : Hid (∀ z, Mem nH F z ↔ InC n f D (i + 1) 0 z) := Hid.out fun z => (hMem z).trans (HROW i z).symm
          clear hMem
          go_wp2
          exact ⟨⟨i + 1, nH, v, F, by omega, by omega, by go_num, HV, hHp, HM.out, hK⟩, by simp [intOf]; omega⟩
    · have hlt' : ¬ (i : Int) < (nd : Int) := by omega
      obtain rfl : i = nd := by omega
      replace hMem : ∀ x, Mem nH F x ↔ Cs n f x := fun x => (hMem x).trans (HALL x)
      clear HALL L5 HROW
      have A7 : At 27 wr w.heap.size #[.int .i64 0, .int .i64 0, .int .i64 0, .int .i64 0] := (hK.block _ A5.lt (by omega)).trans A5
      have bW7 : Below w.heap.size w wr := bW5.trans (hK.below (by omega) (by omega))
      have hvB : ∀ j, v.ownBlock = some j → B ≤ j := fun j hj => (own_ge HV.own hj).1
      clear bW5 hK T5
      by_cases h0 : nH = 0
      · subst h0
        have HF : FbT n f ⟨0, 0, 0, 0, 0⟩ := .inr ⟨hs, .inl ⟨fun x hx => by obtain ⟨i, hi, _⟩ := (hMem x).2 hx; omega, rfl⟩⟩
        go_wp2_with fail
        refine (isEmptyC_any HV true (by simp)).mono ?_
        rintro e w8 ⟨rfl, rfl⟩
        have A1 := put4_atC A7 (.int .i64 0) (.int .i64 0) (.int .i64 0) (.int .i64 0)
        have B1 := below_put4C bW7 (Nat.le_refl _) (.int .i64 0) (.int .i64 0) (.int .i64 0) (.int .i64 0)
        obtain ⟨c0, c1, c2, c3, k0, k1, k2, k3⟩ := A7.open4
        obtain ⟨d0, d1, d2, d3, -⟩ := A1.open4
        clear A7 A1 bW7 HV hHp hMem
        have HFH : Hid (FbT n f ⟨0, 0, 0, 0, 0⟩) := HF
        clear HF
        go_wp2
        exact bodyPost_ret (v := .tuple #[bV 0 0 0 0, .int .i64 0]) (by simp [results, Try.results10, go_sem, d0, d1, d2, d3]) rfl ⟨⟨0, 0, 0, 0, 0⟩, rfl, HFH.out, B1⟩
      · obtain ⟨N, rfl⟩ : ∃ N, nH = N + 1 := ⟨nH - 1, by omega⟩
        have HF : Hid (FbT n f (F 0)) := .inr ⟨hs, .inr ⟨(hMem _).1 ⟨0, by omega, rfl⟩, fun x hx => by
          obtain ⟨t, ht, rfl⟩ := (hMem x).2 hx
          exact hHp.best clt_swo t ht⟩⟩
        have hq9 : q ≠ w.heap.size := by omega
        go_wp2_with fail
        refine (isEmptyC_any HV false (by simp)).mono ?_
        rintro e w8 ⟨rfl, rfl⟩
        go_wp2_with fail
        refine (takeC_any HV hHp (by omega)).mono ?_
        rintro e w9 ⟨rfl, v9, F9, HV9, -, -, hMv9, -⟩
        have A9 := hMv9.at A7 (fun e => hq9 e.symm) (fun e => by have := hvB _ e; omega)
        have bW9 := hMv9.below bW7 (by omega) (fun j hj => by have := hvB j hj; omega) bW7.size
        clear HV HV9 hHp hMem hMv9 A7 bW7 hvB
        obtain ⟨⟨ra, rb, rc, rd, rm⟩, hR⟩ : ∃ R, F 0 = R := ⟨_, rfl⟩
        rw [hR] at HF
        rw [hR]
        clear hR
        obtain ⟨W10, hW10, a10, bb, -⟩ := boxed w9 58 #[.int .i64 ra, .int .i64 rb, .int .i64 rc, .int .i64 rd, .int .i64 rm]
        have A10 := A9.below bb
        have bW10 := bW9.trans (bb.mono bW9.size)
        have hp10 : w9.heap.size ≠ w.heap.size := by have := A9.lt; omega
        clear bb A9 bW9
        go_upto_region 19 with (fail)
        clear hW10
        obtain ⟨p10, hp10'⟩ : ∃ p, w9.heap.size = p := ⟨_, rfl⟩
        rw [hp10'] at a10 hp10 ⊢
        clear hp10'
        obtain ⟨u0, hu0, bb⟩ : ∃ uu, W10.drew = uu ∧ Below W10.heap.size W10 uu := ⟨_, rfl, (Below.refl _ _).drew⟩
        replace a10 := a10.below bb
        replace A10 := A10.below bb
        replace bW10 := bW10.trans (bb.mono bW10.size)
        clear bb
        refine wp_region_held_drew (S := fun w' => At 58 w' p10 #[.int .i64 ra, .int .i64 rb, .int .i64 rc, .int .i64 rd, .int .i64 rm]) (by kernel_rfl) (by rw [hu0]; exact a10) (fun hHeld => ?_)
        rw [hu0] at hHeld ⊢
        clear hu0
        change wpAnyH _ _ _ _ _ 6 #[false, false, false, false, false, false] _ _
        refine wpAnyH_take (i := 0) (v := .pointer (some ⟨p10, 0, none⟩)) rfl (by kernel_rfl) (by kernel_rfl) (by kernel_rfl) (fun _ _ _ h => h) (Or.inl ⟨by kernel_rfl, ?_⟩) hHeld ?_
        · intro w' hSw; go_simp
        try simp only [Act.put, List.setIfInBounds_toArray, List.set_cons_zero, List.set_cons_succ, List.getElem_toArray, List.getElem_cons_zero]
        refine wpAnyH_take (i := 1) (v := .agg #[.int .i64 (ra), .int .i64 (rb), .int .i64 (rc), .int .i64 (rd)]) rfl (by kernel_rfl) (by kernel_rfl) (by kernel_rfl) (fun _ _ _ h => h) (Or.inl ⟨by kernel_rfl, ?_⟩) hHeld ?_
        · intro w' hSw; obtain ⟨z0, z1, z2, z3, z4, -⟩ := hSw.open5; go_simp
        try simp only [Act.put, List.setIfInBounds_toArray, List.set_cons_zero, List.set_cons_succ, List.getElem_toArray, List.getElem_cons_succ, List.getElem_cons_zero]
        refine wpAnyH_take (i := 2) (v := .pointer (some ⟨p10, 4, none⟩)) rfl (by kernel_rfl) (by kernel_rfl) (by kernel_rfl) (fun _ _ _ h => h) (Or.inl ⟨by kernel_rfl, ?_⟩) hHeld ?_
        · intro w' hSw; go_simp
        try simp only [Act.put, List.setIfInBounds_toArray, List.set_cons_zero, List.set_cons_succ, List.getElem_toArray, List.getElem_cons_succ, List.getElem_cons_zero]
        refine wpAnyH_take (i := 3) (v := .int .i64 (rm)) rfl (by kernel_rfl) (by kernel_rfl) (by kernel_rfl) (fun _ _ _ h => h) (Or.inl ⟨by kernel_rfl, ?_⟩) hHeld ?_
        · intro w' hSw; obtain ⟨z0, z1, z2, z3, z4, -⟩ := hSw.open5; go_simp
        try simp only [Act.put, List.setIfInBounds_toArray, List.set_cons_zero, List.set_cons_succ, List.getElem_toArray, List.getElem_cons_succ, List.getElem_cons_zero]
        refine wpAnyH_ready (rs := [4]) (by kernel_rfl) (by simp) ?_
        refine AllReadyH.cons rfl (fun KK hK' => ?_) AllReadyH.nil
        obtain ⟨y0, y1, y2, y3, k0, k1, k2, k3⟩ := A10.open4
        go_simp
        obtain ⟨u1, hU, A11, B11, a11⟩ : ∃ U, ((((u0).setCell ⟨w.heap.size, 0, none⟩ (.int .i64 ra)).setCell ⟨w.heap.size, 1, none⟩ (.int .i64 rb)).setCell ⟨w.heap.size, 2, none⟩ (.int .i64 rc)).setCell ⟨w.heap.size, 3, none⟩ (.int .i64 rd) = U ∧ At 27 U w.heap.size #[.int .i64 ra, .int .i64 rb, .int .i64 rc, .int .i64 rd] ∧ Below w.heap.size w U ∧ At 58 U p10 #[.int .i64 ra, .int .i64 rb, .int .i64 rc, .int .i64 rd, .int .i64 rm] := ⟨_, rfl, put4_atC A10 _ _ _ _, below_put4C bW10 (Nat.le_refl _) _ _ _ _, (((a10.setOther hp10 _).setOther hp10 _).setOther hp10 _).setOther hp10 _⟩
        rw [hU]
        clear hU A10 bW10 a10 y0 y1 y2 y3 k0 k1 k2 k3
        clear hHeld
        refine hK'.out _ _ (a11) (fun hHeld => ?_)
        clear hK' KK
        try simp only [List.setIfInBounds_toArray, List.set_cons_zero, List.set_cons_succ]
        refine wpAnyH_take (i := 5) (v := .int .i64 (rm)) rfl (by kernel_rfl) (by kernel_rfl) (by kernel_rfl) (fun _ _ _ h => h) (Or.inl ⟨by kernel_rfl, ?_⟩) hHeld ?_
        · intro w' hSw; go_simp
        try simp only [Act.put, List.setIfInBounds_toArray, List.set_cons_zero, List.set_cons_succ, List.getElem_toArray, List.getElem_cons_succ, List.getElem_cons_zero]
        refine wpAnyH_done (by kernel_rfl) ?_ _
        clear hHeld
        obtain ⟨d0, d1, d2, d3, -⟩ := A11.open4
        go_wp2
        exact bodyPost_ret (v := .tuple #[bV ra rb rc rd, .int .i64 rm]) (by simp [results, Try.results10, go_sem, d0, d1, d2, d3]) rfl ⟨⟨ra, rb, rc, rd, rm⟩, rfl, HF.out, B11⟩
end Go.Proofs.Ytjlmiadmobbibaa
