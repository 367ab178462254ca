/-
  Witnesses told: Witness by the program and by the specification; the law on WitnessOk, walked.
-/
import Derived.Test.YtcpeaenophaphaaAh
import Derived.Test.YtcpeaenophaphaaAi
namespace Go.Proofs.Ytcpeaenophaphaa
open Go.RowKit

set_option maxRecDepth 100000 in
set_option maxHeartbeats 4000000 in
theorem exactWitnessOk_walk {w : World} {p q : Option Addr} {N cap M cap2 : Nat} {a : Nat → Option Addr} {c : Nat → Nat} {n : Nat → Nat} {f : Nat → Nat → Int} {l : Nat → Int} (hS : LlS w p N a c n f) (hN0 : N ≤ maxLen) (hn0 : ∀ i, i < N → n i ≤ maxLen) (hl : Src w q M l) :
    Calls Try.prog 6 #[.slice p N cap, .slice q M cap2] w fun e w' => e = .returned (.bool true) ∧ Below w.heap.size w w' := by
  by_cases hM1 : 1048576 < M
  · have hM' : (1048576 : Int) < (M : Int) := by omega
    go_enter Try.func6, Try.ntmps6
    go_wp2
    go_ret
    exact ⟨rfl, Below.refl _ _⟩
  have hM' : ¬ (1048576 : Int) < (M : Int) := by omega
  have hM : M ≤ 1048576 := by omega
  go_enter Try.func6, Try.ntmps6
  go_wp2_with fail
  refine (szSS_any hS hN0 hn0).mono ?_
  rintro e w1 ⟨r, rfl, hr, bW⟩
  rcases hr with rfl | ⟨hr, hT⟩
  · go_wp2
    go_ret
    exact ⟨rfl, bW⟩
  have hr' : ¬ r < 0 := by omega
  have hN : N ≤ 1048576 := by omega
  have hn : ∀ i, i < N → n i ≤ 1048576 := fun i hi => by have := tot_each (n := n) hi; omega
  go_wp2_with fail
  refine (toSS_any (hS.below bW) hN hn).mono ?_
  rintro e w2 ⟨g1, B1, v1, rfl, T1, bb⟩
  replace bW := bW.trans (bb.mono bW.size)
  clear bb
  obtain ⟨a1, c1, -, F1⟩ := T1.fri
  clear T1
  go_wp2_with fail
  refine (toInts_any (hl.below bW) hM).mono ?_
  rintro e w3 ⟨g2, rfl, hg2, o2, bb⟩
  replace bW := bW.trans (bb.mono bW.size)
  replace F1 := F1.below bb
  clear bb
  go_wp2_with fail
  refine (specWitnessOk_any F1 hN hn (.inr ⟨g2, 0, rfl, o2.lt, o2.row⟩) hM).mono ?_
  rintro e w4 ⟨rfl, bb⟩
  replace bW := bW.trans (bb.mono bW.size)
  clear bb F1 o2
  go_wp2_with fail
  refine (toSS_any (hS.below bW) hN hn).mono ?_
  rintro e w5 ⟨g3, B3, v3, rfl, T3, bb⟩
  replace bW := bW.trans (bb.mono bW.size)
  clear bb
  go_wp2_with fail
  refine (toInts_any (hl.below bW) hM).mono ?_
  rintro e w6 ⟨g4, rfl, hg4, o4, bb⟩
  replace bW := bW.trans (bb.mono bW.size)
  replace T3 := T3.below bb
  clear bb
  obtain ⟨a3, c3, -, F3⟩ := T3.fri
  go_wp2_with fail
  refine (implWitnessOk_any F3 hN hn (.inr ⟨g4, 0, rfl, o4.lt, o4.row⟩) hM).mono ?_
  rintro e w7 ⟨rfl, bb⟩
  replace bW := bW.trans (bb.mono bW.size)
  replace T3 := T3.below bb
  replace o4 := o4.below bb
  clear bb F3
  go_wp2_with fail
  refine (toSS_any (hS.below bW) hN hn).mono ?_
  rintro e w8 ⟨g5, B5, v5, rfl, T5, bb⟩
  replace bW := bW.trans (bb.mono bW.size)
  replace T3 := T3.below bb
  replace o4 := o4.below bb
  clear bb
  go_wp2_with fail
  refine (eqSS_true T3 T5 hN hn).mono ?_
  rintro e w9 ⟨rfl, bb⟩
  replace bW := bW.trans (bb.mono bW.size)
  replace o4 := o4.below bb
  clear bb T3 T5
  go_wp2_with fail
  refine (toInts_any (hl.below bW) hM).mono ?_
  rintro e w10 ⟨g6, rfl, hg6, o6, bb⟩
  replace bW := bW.trans (bb.mono bW.size)
  replace o4 := o4.below bb
  clear bb
  go_wp2_with fail
  refine (eqInts_true o4.row o6.row o4.lt o6.lt hM).mono ?_
  rintro e w11 ⟨rfl, bb⟩
  replace bW := bW.trans (bb.mono bW.size)
  clear bb
  go_wp2
  go_ret
  exact ⟨rfl, bW⟩
theorem exactWitnessOk_law {w : World} {p q : Option Addr} {N cap M cap2 : Nat} {a : Nat → Option Addr} {c : Nat → Nat} {n : Nat → Nat} {f : Nat → Nat → Int} {zs : List Int} (hS : LlS w p N a c n f) (hN0 : N ≤ maxLen) (hn0 : ∀ i, i < N → n i ≤ maxLen) (hr : IsRow .i64 w q M cap2 zs) :
    Calls Try.prog 6 #[.slice p N cap, .slice q M cap2] w fun e w' => e = .returned (.bool true) ∧ Below w.heap.size w w' := by
  obtain ⟨l, hl, -⟩ := src_of hr
  exact exactWitnessOk_walk hS hN0 hn0 hl
theorem Gat.keepT {w0 w w' : World} {B : Nat} {t s : TypeId} {e q : Nat} {v : Value} {m : Nat} {l : List Int} {vs : Array Value} (h : Gat w0 w B t e v m l) (hg : w.grownBy w' v.ownBlock) (ha : At s w q vs) (hst : s ≠ t) : At s w' q vs := by
  refine (hg.block q ha.lt (fun e => ?_)).trans ha
  rcases h.own.2 with ⟨e1, -⟩ | ⟨g, c, cur, rfl, hb, hh, -⟩
  · exact h.nn e1
  · simp only [Value.ownBlock, Option.some.injEq] at e
    subst e
    have h1 := ha
    unfold At at h1
    rw [h1] at hh
    injection hh with hh
    injection hh with h2 h3
    exact hst h3
theorem U64s.keepT {w0 w w' : World} {B : Nat} {e g N : Nat} {v : Value} {m : Nat} {l : List Int} {k : Nat → Nat} (ha : U64s w g N k) (h : Gat w0 w B 2 e v m l) (hg : w.grownBy w' v.ownBlock) : U64s w' g N k := by
  obtain ⟨cur, h1, h2⟩ := ha
  exact ⟨cur, h.keepT hg h1 (by decide), h2⟩
theorem Gat.arr {w0 w : World} {B : Nat} {v : Value} {m : Nat} {l : List Int} (s : Gat w0 w B 2 1 v m l) : Arr w B w.heap.size v m (fun i => l.getD i 0) := by
  rcases s.own.2 with ⟨e, _⟩ | ⟨g, c, cur, e, hb, hh, hc1, hc2, hsz, ht⟩
  · exact absurd e s.nn
  · refine .inr ⟨g, c, e, hb, (Array.getElem?_eq_some_iff.1 hh).1, hc1, cur, hh, by omega, fun i hi => ?_⟩
    have hl := s.len
    have a1 : (lCells l)[i]? = some (.int .i64 (l.getD i 0)) := by
      have hi' : i < l.length := by omega
      simp [lCells, hi']
    rw [← ht, List.getElem?_take_of_lt (by omega)] at a1
    simpa using a1
def toI (l : List Nat) : List Int := l.map fun (i : Nat) => (i : Int)
/-- A list of numbers that is told, in new memory. -/
def LtP (w : World) (l : List Nat) (e : Ending) (w' : World) : Prop := ∃ v, e = .returned v ∧ Arr w' w.heap.size w'.heap.size v l.length (fun i => (toI l).getD i 0) ∧ Below w.heap.size w w'
/-- r stands in an exposure, and shares none with those of L. -/
def App (N : Nat) (n : Nat → Nat) (f : Nat → Nat → Int) (L : List Nat) (r : Nat) : Prop := (∃ i, i < N ∧ Hs f i (n i) r) ∧ ∀ i, i < N → Hs f i (n i) r → ∀ y, y ∈ L → ¬ Hs f i (n i) y
noncomputable def wl (N : Nat) (n : Nat → Nat) (f : Nat → Nat → Int) : Nat → List Nat
  | 0 => []
  | r + 1 => @ite _ (App N n f (wl N n f r) r) (Classical.propDecidable _) (wl N n f r ++ [r]) (wl N n f r)
theorem wl_yes {N : Nat} {n : Nat → Nat} {f : Nat → Nat → Int} {r : Nat} {L : List Nat} (e : wl N n f r = L) (h : App N n f L r) : wl N n f (r + 1) = L ++ [r] := by subst e; rw [wl, if_pos h]
theorem wl_no {N : Nat} {n : Nat → Nat} {f : Nat → Nat → Int} {r : Nat} {L : List Nat} (e : wl N n f r = L) (h : ¬ App N n f L r) : wl N n f (r + 1) = L := by subst e; rw [wl, if_neg h]
theorem wl_lt {N : Nat} {n : Nat → Nat} {f : Nat → Nat → Int} (r : Nat) : ∀ y, y ∈ wl N n f r → y < r := by
  induction r with
  | zero => intro y hy; cases hy
  | succ r ih =>
    intro y hy
    by_cases h : App N n f (wl N n f r) r
    · rw [wl_yes rfl h] at hy
      rcases List.mem_append.1 hy with h1 | h1
      · have := ih y h1; omega
      · simp at h1; omega
    · rw [wl_no rfl h] at hy
      have := ih y hy; omega
theorem wl_len {N : Nat} {n : Nat → Nat} {f : Nat → Nat → Int} (r : Nat) : (wl N n f r).length ≤ r := by
  induction r with
  | zero => exact Nat.le_refl _
  | succ r ih =>
    by_cases h : App N n f (wl N n f r) r
    · rw [wl_yes rfl h]; simp; omega
    · rw [wl_no rfl h]; omega
noncomputable def witL (N : Nat) (n : Nat → Nat) (f : Nat → Nat → Int) : List Nat := @ite _ (ExOk N n f) (Classical.propDecidable _) (wl N n f 64) []
theorem witL_yes {N : Nat} {n : Nat → Nat} {f : Nat → Nat → Int} (h : ExOk N n f) : witL N n f = wl N n f 64 := if_pos h
theorem witL_no {N : Nat} {n : Nat → Nat} {f : Nat → Nat → Int} (h : ¬ ExOk N n f) : witL N n f = [] := if_neg h
theorem witL_len (N : Nat) (n : Nat → Nat) (f : Nat → Nat → Int) : (witL N n f).length ≤ 64 := by
  by_cases h : ExOk N n f
  · rw [witL_yes h]; exact wl_len 64
  · rw [witL_no h]; simp
theorem ap_app {N : Nat} {n : Nat → Nat} {f : Nat → Nat → Int} {L : List Nat} {r : Nat} (hL : ∀ y, y ∈ L → y < 64) : Ap N (fun i => Hs f i (n i)) (fun y => y ∈ L) r ↔ App N n f L r :=
  and_congr_right fun _ => ⟨fun h i h1 h2 y h3 h4 => h i h1 h2 y (hL y h3) h4 h3, fun h i h1 h2 y _ h4 h5 => h i h1 h2 y h5 h4⟩
theorem Gat.told {w w' : World} {v : Value} {l : List Nat} (G : Gat w w' w.heap.size 2 1 v l.length (toI l)) : LtP w l (.returned v) w' := ⟨v, rfl, G.arr, G.b⟩
set_option maxRecDepth 100000 in
set_option maxHeartbeats 4000000 in
theorem implWitness_any {w : World} {b N cap : Nat} {a : Nat → Option Addr} {c : Nat → Nat} {n : Nat → Nat} {f : Nat → Nat → Int} (hS : Lli w b 0 N a c n f) (hN : N ≤ 1048576) (hn : ∀ i, i < N → n i ≤ 1048576) :
    Calls Try.prog 14 #[.slice (some ⟨b, 0, none⟩) N cap] w (LtP w (witL N n f)) := by
  obtain ⟨i0, hi0, hz0, hz1, hz2⟩ := info_parts infoI
  obtain ⟨V, hV, A0, B, -⟩ := boxed w 2 #[]
  have R : Gat w V w.heap.size 2 1 (.slice (some ⟨w.heap.size, 0, none⟩) 0 0) 0 [] := Gat.start A0 B
  have hbs : ∀ w, (Instr.buildSlice 25 0 #[]).run Try.prog w = .ok (.slice (some ⟨w.heap.size, 0, none⟩) 0 0) (w.alloc (.cells #[] 2)) := fun _ => by kernel_rfl
  obtain ⟨O, hO⟩ : ∃ O, witL N n f = O := ⟨_, rfl⟩
  rw [hO]
  go_enter Try.func14, Try.ntmps14
  go_wp2_with fail
  refine (setsOf_any (hS.below B) hN hn).mono ?_
  rintro e w1 ⟨⟨hx, rfl⟩ | ⟨hx, g, rfl, hU⟩, bb⟩
  · replace R := R.below bb
    clear hV A0 B bb
    obtain rfl : [] = O := (witL_no hx).symm.trans hO
    go_wp2
    exact bodyPost_ret (v := .slice (some ⟨w.heap.size, 0, none⟩) 0 0) (by simp [results, Try.results14, go_sem]) rfl (Gat.told R)
  replace R := R.below bb
  clear hV A0 B bb
  have hO' : wl N n f 64 = O := (witL_yes hx).symm.trans hO
  clear hO
  go_wp2
  go_loopw [3, 6, 17] (fun s t z wr => ∃ (k m : Nat) (L : List Nat), k ≤ 64 ∧ wl N n f k = L ∧ L.length = m ∧ t = .int .u64 ((msk (fun y => y ∈ L) 64 : Nat) : Int) ∧ z = .int .i64 (k : Int) ∧ U64s wr g N (fun i => msk (Hs f i (n i)) 64) ∧ Gat w wr w.heap.size 2 1 s m (toI L)) (fun _ _ z _ => 64 - (intOf z).toNat)
  case atStart => exact ⟨0, 0, [], Nat.zero_le _, rfl, rfl, by rw [msk_none (fun y _ h => by cases h)]; rfl, rfl, hU, R⟩
  case round =>
    clear R hU
    obtain ⟨k, m, L, hk, hL, hm, rfl, rfl, hU, R⟩ := hrel
    by_cases hlt : k < 64
    · have hlt' : (k : Int) < 64 := by omega
      have hL64 : ∀ y, y ∈ L → y < 64 := fun y hy => by rw [← hL] at hy; have := wl_lt k y hy; omega
      have hmk : m ≤ k := by rw [← hm, ← hL]; exact wl_len k
      go_wp2_with fail
      refine (standsApart_any (fun y => y ∈ L) k hlt hU hN).mono ?_
      rintro e w3 ⟨rfl, bb⟩
      replace R := R.below bb
      replace hU := hU.below bb
      clear bb
      by_cases ha : App N n f L k
      · rw [apB_yes ((ap_app hL64).2 ha)]
        have H := wl_yes hL ha
        have ho := mor (fun y => y ∈ L) (fun y => y = k)
        rw [msk_congr (P := fun r => r ∈ L ∨ r = k) (Q := fun y => y ∈ L ++ [k]) (fun y _ => by simp)] at ho
        obtain ⟨V9, hV9, A9, b10, -⟩ := boxed w3 2 #[.int .i64 (k : Int)]
        have R9 := R.below b10
        have hU9 := hU.below b10
        obtain ⟨g9, hg9⟩ : ∃ g, w3.heap.size = g := ⟨_, rfl⟩
        rw [hg9] at A9
        have hb2 : ∀ w, (Instr.buildSlice 25 1 #[(0, .int .i64 (k : Int))]).run Try.prog w = .ok (.slice (some ⟨w.heap.size, 0, none⟩) 1 1) (w.alloc (.cells #[.int .i64 (k : Int)] 2)) := fun _ => by kernel_rfl
        obtain ⟨X, hX⟩ : ∃ X : Nat, msk (fun y => y ∈ L) 64 = X := ⟨_, rfl⟩
        obtain ⟨Y, hY⟩ : ∃ Y : Nat, msk (fun y => y ∈ L ++ [k]) 64 = Y := ⟨_, rfl⟩
        rw [hX, hY] at ho
        rw [hX]
        have HY : Hid (msk (fun y => y ∈ L ++ [k]) 64 = Y) := hY
        have HL : Hid (wl N n f (k + 1) = L ++ [k]) := H
        have HM : Hid (L.length = m) := hm
        clear b10 hL ha hX hY H hm hO'
        go_wp2_with (at_builtin; refine wpList_append_own _ rfl _ _ _ rfl w.heap.size 2 i0 _ 1 8 Try.underlying25 hi0 hz0 hz1 hz2 rfl (by omega) u3 m (lCells (toI L)) rfl R9.own ⟨g9, 0, none⟩ 1 1 (lCells [(k : Int)]) rfl rfl (news1 A9) (lCells_one _) (by unfold maxLen; omega) (by omega) R9.o3 ?_; intro v2 w4 hown2 hgrow2 hne2; refine Hid.out (?_ : Hid _))
        have R2 := R9.grow hown2 hgrow2 (fun h => R9.nn (hne2.1 h).1)
        have hU2 := hU9.keepT R9 hgrow2
        clear hown2 hgrow2 hne2 R9 hU9 hV9 A9 hU R hg9
        refine (?_ : wpList _ _ _ _ _ _)
        go_wp2_with fail
        refine (bitOf_any k hlt _).mono ?_
        rintro e w5 ⟨rfl, rfl⟩
        have HU2 : Hid (U64s w4 g N (fun i => msk (Hs f i (n i)) 64)) := hU2
        have HR2 : Hid (Gat w w4 w.heap.size 2 1 v2 (m + 1) (toI L ++ [(k : Int)])) := R2
        clear hU2 R2
        go_wp2
        refine ⟨⟨k + 1, m + 1, L ++ [k], by omega, HL.out, by rw [List.length_append, HM.out]; rfl, by rw [HY.out], by go_num, HU2.out, ?_⟩, by simp [intOf]; omega⟩
        have := HR2.out
        simpa [toI] using this
      · rw [apB_no fun h => ha ((ap_app hL64).1 h)]
        have HL : Hid (wl N n f (k + 1) = L) := wl_no hL ha
        have HM : Hid (L.length = m) := hm
        clear hL ha hm hO'
        go_wp2
        exact ⟨⟨k + 1, m, L, by omega, HL.out, HM.out, rfl, by go_num, hU, R⟩, by simp [intOf]; omega⟩
    · have hlt' : ¬ (k : Int) < 64 := by omega
      obtain rfl : k = 64 := by omega
      obtain rfl : L = O := hL.symm.trans hO'
      obtain rfl := hm
      clear hL hO'
      go_wp2
      exact bodyPost_ret (v := u3) (by simp [results, Try.results14, go_sem]) rfl (Gat.told R)
set_option maxRecDepth 100000 in
set_option maxHeartbeats 4000000 in
theorem specWitness_any {w : World} {b N cap : Nat} {a : Nat → Option Addr} {c : Nat → Nat} {n : Nat → Nat} {f : Nat → Nat → Int} (hS : Lli w b 0 N a c n f) (hN : N ≤ 1048576) (hn : ∀ i, i < N → n i ≤ 1048576) :
    Calls Try.prog 17 #[.slice (some ⟨b, 0, none⟩) N cap] w (LtP w (witL N n f)) := by
  obtain ⟨i0, hi0, hz0, hz1, hz2⟩ := info_parts infoI
  obtain ⟨V, hV, A0, B, -⟩ := boxed w 2 #[]
  have R : Gat w V w.heap.size 2 1 (.slice (some ⟨w.heap.size, 0, none⟩) 0 0) 0 [] := Gat.start A0 B
  have hbs : ∀ w, (Instr.buildSlice 25 0 #[]).run Try.prog w = .ok (.slice (some ⟨w.heap.size, 0, none⟩) 0 0) (w.alloc (.cells #[] 2)) := fun _ => by kernel_rfl
  obtain ⟨O, hO⟩ : ∃ O, witL N n f = O := ⟨_, rfl⟩
  rw [hO]
  go_enter Try.func17, Try.ntmps17
  go_wp2_with fail
  refine (specExposures_any (hS.below B) hN hn).mono ?_
  rintro e w1 ⟨rfl, bb⟩
  replace R := R.below bb
  clear hV A0 B bb
  by_cases hx : ExOk N n f
  case neg =>
    rw [exB_no hx]
    obtain rfl : [] = O := (witL_no hx).symm.trans hO
    go_wp2
    exact bodyPost_ret (v := .slice (some ⟨w.heap.size, 0, none⟩) 0 0) (by simp [results, Try.results17, go_sem]) rfl (Gat.told R)
  rw [exB_yes hx]
  have hO' : wl N n f 64 = O := (witL_yes hx).symm.trans hO
  clear hO
  go_wp2
  go_loopw [3, 4, 5] (fun s t z wr => ∃ (k m : Nat) (L : List Nat), k ≤ 64 ∧ wl N n f k = L ∧ L.length = m ∧ t = .int .i64 ((msk (fun i => ∃ y, y ∈ L ∧ Hs f i (n i) y) N : Nat) : Int) ∧ z = .int .i64 (k : Int) ∧ Gat w wr w.heap.size 2 1 s m (toI L)) (fun _ _ z _ => 64 - (intOf z).toNat)
  case atStart => exact ⟨0, 0, [], Nat.zero_le _, rfl, rfl, by rw [msk_none (fun i _ h => by obtain ⟨y, hy, -⟩ := h; cases hy)]; rfl, rfl, R⟩
  case round =>
    clear R
    obtain ⟨k, m, L, hk, hL, hm, rfl, rfl, R⟩ := hrel
    by_cases hlt : k < 64
    · have hlt' : (k : Int) < 64 := by omega
      have hmk : m ≤ k := by rw [← hm, ← hL]; exact wl_len k
      have b1 := twelve (fun i => ∃ y, y ∈ L ∧ Hs f i (n i) y) hx.1
      have b2 := twelve (fun i => Hs f i (n i) k) hx.1
      have ha := i64_and_nat (msk (fun i => Hs f i (n i) k) N) (msk (fun i => ∃ y, y ∈ L ∧ Hs f i (n i) y) N) (by omega) (by omega)
      rw [msk_and] at ha
      have hz : msk (fun i => Hs f i (n i) k) N = 0 ↔ ¬ ∃ i, i < N ∧ Hs f i (n i) k := by
        rw [msk_zero]
        constructor
        · rintro h ⟨i, h1, h2⟩; exact h i h1 h2
        · intro h i h1 h2; exact h ⟨i, h1, h2⟩
      have hz3 : msk (fun i => Hs f i (n i) k ∧ ∃ y, y ∈ L ∧ Hs f i (n i) y) N = 0 ↔ ∀ i, i < N → Hs f i (n i) k → ∀ y, y ∈ L → ¬ Hs f i (n i) y := by
        rw [msk_zero]
        constructor
        · intro h i h1 h2 t h3 h4; exact h i h1 ⟨h2, t, h3, h4⟩
        · rintro h i h1 ⟨h2, t, h3, h4⟩; exact h i h1 h2 t h3 h4
      have hadd : msk (fun i => Hs f i (n i) k ∧ ∃ y, y ∈ L ∧ Hs f i (n i) y) N = 0 → msk (fun i => ∃ y, y ∈ L ∧ Hs f i (n i) y) N + msk (fun i => Hs f i (n i) k) N = msk (fun i => ∃ y, y ∈ L ++ [k] ∧ Hs f i (n i) y) N := by
        intro h
        rw [msk_add fun i h1 h2 => msk_zero.1 h i h1 ⟨h2.2, h2.1⟩]
        refine msk_congr fun i _ => ⟨?_, ?_⟩
        · rintro (⟨t, h1, h2⟩ | h3)
          · exact ⟨t, List.mem_append.2 (.inl h1), h2⟩
          · exact ⟨k, by simp, h3⟩
        · rintro ⟨t, h1, h2⟩
          rcases List.mem_append.1 h1 with h1 | h1
          · exact .inl ⟨t, h1, h2⟩
          · simp at h1; subst h1; exact .inr h2
      obtain ⟨U, hU⟩ : ∃ U : Nat, msk (fun i => ∃ y, y ∈ L ∧ Hs f i (n i) y) N = U := ⟨_, rfl⟩
      obtain ⟨X, hX⟩ : ∃ X : Nat, msk (fun i => Hs f i (n i) k) N = X := ⟨_, rfl⟩
      obtain ⟨Y, hY⟩ : ∃ Y : Nat, msk (fun i => Hs f i (n i) k ∧ ∃ y, y ∈ L ∧ Hs f i (n i) y) N = Y := ⟨_, rfl⟩
      rw [hU] at b1 ha hadd
      rw [hX] at b2 ha hz hadd
      rw [hY] at ha hz3 hadd
      rw [hU]
      have HX : Hid (msk (fun i => Hs f i (n i) k) N = X) := hX
      have HU : Hid (msk (fun i => ∃ y, y ∈ L ∧ Hs f i (n i) y) N = U) := hU
      clear hU hX hY
      go_wp2_with fail
      refine (where_any (hS.below R.b) hx hn k hlt).mono ?_
      rintro e w3 ⟨rfl, bb⟩
      replace R := R.below bb
      rw [HX.out]
      clear bb HX
      by_cases p1 : X = 0
      · subst p1
        have HL : Hid (wl N n f (k + 1) = L) := wl_no hL fun h => hz.1 rfl h.1
        have HM : Hid (L.length = m) := hm
        clear hL ha hz hz3 hadd hm hO'
        rw [show ((0 : Nat) : Int) = 0 from rfl]
        go_wp2
        exact ⟨⟨k + 1, m, L, by omega, HL.out, HM.out, by rw [HU.out], by go_num, R⟩, by simp [intOf]; omega⟩
      · have p1' : ¬ (X : Int) = 0 := by omega
        have p3 : ((X : Int) == 0) = false := by simpa using p1
        have p3' : ((X : Int) != 0) = true := by simp [bne, p3]
        by_cases p2 : Y = 0
        · subst p2
          rw [show ((0 : Nat) : Int) = 0 from rfl] at ha
          have e1 := hadd rfl
          have H := wl_yes hL ⟨Classical.byContradiction fun h => p1 (hz.2 h), hz3.1 rfl⟩
          obtain ⟨V9, hV9, A9, b10, -⟩ := boxed w3 2 #[.int .i64 (k : Int)]
          have R9 := R.below b10
          obtain ⟨g9, hg9⟩ : ∃ g, w3.heap.size = g := ⟨_, rfl⟩
          rw [hg9] at A9
          have hb2 : ∀ w, (Instr.buildSlice 25 1 #[(0, .int .i64 (k : Int))]).run Try.prog w = .ok (.slice (some ⟨w.heap.size, 0, none⟩) 1 1) (w.alloc (.cells #[.int .i64 (k : Int)] 2)) := fun _ => by kernel_rfl
          have HE : Hid (U + X = msk (fun i => ∃ y, y ∈ L ++ [k] ∧ Hs f i (n i) y) N) := e1
          have HL : Hid (wl N n f (k + 1) = L ++ [k]) := H
          have HM : Hid (L.length = m) := hm
          clear b10 hL H hm hO' hz hz3 hadd e1 HU
          go_wp2_with (at_builtin; refine wpList_append_own _ rfl _ _ _ rfl w.heap.size 2 i0 _ 1 8 Try.underlying25 hi0 hz0 hz1 hz2 rfl (by omega) u3 m (lCells (toI L)) rfl R9.own ⟨g9, 0, none⟩ 1 1 (lCells [(k : Int)]) rfl rfl (news1 A9) (lCells_one _) (by unfold maxLen; omega) (by omega) R9.o3 ?_; intro v2 w4 hown2 hgrow2 hne2)
          have R2 := R9.grow hown2 hgrow2 (fun h => R9.nn (hne2.1 h).1)
          refine ⟨⟨k + 1, m + 1, L ++ [k], by omega, HL.out, by rw [List.length_append, HM.out]; rfl, by rw [← HE.out]; push_cast; rfl, by go_num, ?_⟩, by simp [intOf]; omega⟩
          simpa [toI] using R2
        · have p2' : ¬ (Y : Int) = 0 := by omega
          have p4 : ((Y : Int) == 0) = false := by simpa using p2
          have HL : Hid (wl N n f (k + 1) = L) := wl_no hL fun h => p2 (hz3.2 h.2)
          have HM : Hid (L.length = m) := hm
          clear hL hz hz3 hadd hm hO'
          go_wp2
          exact ⟨⟨k + 1, m, L, by omega, HL.out, HM.out, by rw [HU.out], by go_num, R⟩, by simp [intOf]; omega⟩
    · have hlt' : ¬ (k : Int) < 64 := by omega
      obtain rfl : k = 64 := by omega
      obtain rfl : L = O := hL.symm.trans hO'
      obtain rfl := hm
      clear hL hO'
      go_wp2
      exact bodyPost_ret (v := u3) (by simp [results, Try.results17, go_sem]) rfl (Gat.told R)
set_option maxRecDepth 100000 in
set_option maxHeartbeats 4000000 in
theorem exactWitness_walk {w : World} {p : Option Addr} {N cap : Nat} {a : Nat → Option Addr} {c : Nat → Nat} {n : Nat → Nat} {f : Nat → Nat → Int} (hS : LlS w p N a c n f) (hN0 : N ≤ maxLen) (hn0 : ∀ i, i < N → n i ≤ maxLen) :
    Calls Try.prog 7 #[.slice p N cap] w fun e w' => e = .returned (.bool true) ∧ Below w.heap.size w w' := by
  go_enter Try.func7, Try.ntmps7
  go_wp2_with fail
  refine (szSS_any hS hN0 hn0).mono ?_
  rintro e w1 ⟨r, rfl, hr, bW⟩
  rcases hr with rfl | ⟨hr, hT⟩
  · go_wp2
    go_ret
    exact ⟨rfl, bW⟩
  have hr' : ¬ r < 0 := by omega
  have hN : N ≤ 1048576 := by omega
  have hn : ∀ i, i < N → n i ≤ 1048576 := fun i hi => by have := tot_each (n := n) hi; omega
  have hlen := witL_len N n f
  obtain ⟨m, hm⟩ : ∃ m, (witL N n f).length = m := ⟨_, rfl⟩
  have SP := fun (w : World) (b : Nat) (a : Nat → Option Addr) (c : Nat → Nat) (h : Lli w b 0 N a c n f) => specWitness_any (cap := N) h hN hn
  have IP := fun (w : World) (b : Nat) (a : Nat → Option Addr) (c : Nat → Nat) (h : Lli w b 0 N a c n f) => implWitness_any (cap := N) h hN hn
  unfold LtP at SP IP
  rw [hm] at hlen SP IP
  clear hm
  have hmm : m ≤ 1048576 := by omega
  go_wp2_with fail
  refine (toSS_any (hS.below bW) hN hn).mono ?_
  rintro e w2 ⟨g1, B1, v1, rfl, T1, bb⟩
  replace bW := bW.trans (bb.mono bW.size)
  clear bb
  obtain ⟨a1, c1, -, F1⟩ := T1.fri
  clear T1
  go_wp2_with fail
  refine (SP _ _ _ _ F1).mono ?_
  rintro e w4 ⟨vw, rfl, Aw, bb⟩
  replace bW := bW.trans (bb.mono bW.size)
  have zw4 := bW.size
  clear bb F1
  go_wp2_with fail
  refine (toSS_any (hS.below bW) hN hn).mono ?_
  rintro e w5 ⟨g3, B3, v3, rfl, T3, bb⟩
  replace bW := bW.trans (bb.mono bW.size)
  replace Aw := Aw.below bb
  have z5 := bb.size
  have z4 := Nat.le_refl w4.heap.size
  clear bb
  obtain ⟨a3, c3, -, F3⟩ := T3.fri
  go_wp2_with fail
  refine (IP _ _ _ _ F3).mono ?_
  rintro e w7 ⟨vg, rfl, Ag, bb⟩
  replace bW := bW.trans (bb.mono bW.size)
  replace T3 := T3.below bb
  replace Aw := Aw.below bb
  have z7 := bb.size
  clear bb F3
  go_wp2_with fail
  refine (eqArr_true Ag Aw hmm).mono ?_
  rintro e w8 ⟨rfl, bb⟩
  replace bW := bW.trans (bb.mono bW.size)
  replace T3 := T3.below bb
  replace Aw := Aw.below bb
  replace Ag := Ag.below bb
  have z8 := bb.size
  clear bb
  go_wp2_with fail
  refine (toSS_any (hS.below bW) hN hn).mono ?_
  rintro e w9 ⟨g5, B5, v5, rfl, T5, bb⟩
  replace bW := bW.trans (bb.mono bW.size)
  replace T3 := T3.below bb
  replace Aw := Aw.below bb
  replace Ag := Ag.below bb
  have z9 := bb.size
  clear bb
  go_wp2_with fail
  refine (eqSS_true T3 T5 hN hn).mono ?_
  rintro e w10 ⟨rfl, bb⟩
  replace bW := bW.trans (bb.mono bW.size)
  replace T3 := T3.below bb
  replace Aw := Aw.below bb
  replace Ag := Ag.below bb
  have z10 := bb.size
  clear bb T5
  have zw := bW.size
  go_wp2_with fail
  refine (markSS_any T3 hN (by omega)).mono ?_
  rintro e w11 ⟨rfl, tt⟩
  replace Aw := Aw.turn tt (by omega)
  replace Ag := Ag.turn tt (by omega)
  replace bW := tt.below bW (by omega) (by omega)
  have z11 := tt.size
  clear tt T3
  have kn : ¬ ((1 + tot n N : Nat) : Int) < 0 := by omega
  go_wp2_with fail
  refine (eqArr_true Ag Aw hmm).mono ?_
  rintro e w12 ⟨rfl, bb⟩
  replace bW := bW.trans (bb.mono bW.size)
  replace Aw := Aw.below bb
  replace Ag := Ag.below bb
  have z12 := bb.size
  clear bb kn
  go_wp2_with fail
  refine (markArr_t Ag hmm 1 (by omega)).mono ?_
  rintro e w13 ⟨rfl, Am, tt⟩
  replace Aw := Aw.turn tt (by omega)
  replace bW := tt.below bW (by omega) (by omega)
  have z13 := tt.size
  clear tt Ag
  go_wp2_with fail
  refine (heldArr_any 1 Am hmm (by omega)).mono ?_
  rintro e w14 ⟨rfl, bb⟩
  replace bW := bW.trans (bb.mono bW.size)
  replace Aw := Aw.below bb
  replace Am := Am.below bb
  have z14 := bb.size
  clear bb
  have kn : ¬ ((1 + m : Nat) : Int) < 0 := by omega
  have e1 : (((1 + m : Nat) : Int) != ((1 + m : Nat) : Int)) = false := bne_self_eq_false _
  go_wp2_with fail
  refine (toSS_any (hS.below bW) hN hn).mono ?_
  rintro e w15 ⟨g6, B6, v6, rfl, T6, bb⟩
  replace bW := bW.trans (bb.mono bW.size)
  replace Aw := Aw.below bb
  replace Am := Am.below bb
  clear bb
  obtain ⟨a6, c6, -, F6⟩ := T6.fri
  clear T6
  go_wp2_with fail
  refine (IP _ _ _ _ F6).mono ?_
  rintro e w16 ⟨vh, rfl, Ah, bb⟩
  replace bW := bW.trans (bb.mono bW.size)
  replace Aw := Aw.below bb
  replace Am := Am.below bb
  clear bb F6
  go_wp2_with fail
  refine (eqArr_true Ah Aw hmm).mono ?_
  rintro e w17 ⟨rfl, bb⟩
  replace bW := bW.trans (bb.mono bW.size)
  replace Am := Am.below bb
  clear bb Ah Aw
  go_wp2_with fail
  refine (heldArr_any 1 Am hmm (by omega)).mono ?_
  rintro e w18 ⟨rfl, bb⟩
  replace bW := bW.trans (bb.mono bW.size)
  clear bb
  go_wp2
  go_ret
  exact ⟨rfl, bW⟩
end Go.Proofs.Ytcpeaenophaphaa
