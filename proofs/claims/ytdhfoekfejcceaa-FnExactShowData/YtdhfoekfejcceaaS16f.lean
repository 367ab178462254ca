/-
  Lines of a loop: walked.
-/
import Derived.Test.YtdhfoekfejcceaaS16e
import Derived.Test.YtdhfoekfejcceaaC16a
namespace Go.Proofs.Ytdhfoekfejcceaa
open Go.RowKit

/-- A list of texts of one's own that is being gathered. -/
structure Gt (w0 w : World) (B : Nat) (v : Value) (l : List ByteArray) : Prop where
  own : w.ownsRow B 9 1 v l.length (l.map Value.string)
  nn : v ≠ .slice none 0 0
  b : Below w0.heap.size w0 w
  o2 : w0.heap.size ≤ B
  o3 : B ≤ w.heap.size
theorem Gt.below {w0 w w' : World} {B : Nat} {v : Value} {l : List ByteArray} (s : Gt w0 w B v l) (hb : Below w.heap.size w w') : Gt w0 w' B v l :=
  ⟨own_belS s.own hb, s.nn, s.b.trans (hb.mono s.b.size), s.o2, Nat.le_trans s.o3 hb.size⟩
theorem Gt.open {w0 w : World} {B : Nat} {v : Value} {l : List ByteArray} (s : Gt w0 w B v l) : ∃ g c, v = .slice (some ⟨g, 0, none⟩) l.length c ∧ (∀ (j : Nat) x, l[j]? = some x → w.cell? ⟨g, 0 + j, none⟩ = some (.string x)) ∧ g < w.heap.size ∧ B ≤ g ∧ l.length ≤ c := by
  rcases s.own.2 with ⟨e1, -⟩ | ⟨g, c, cur, rfl, hb, hh, hc1, hc2, hsz, ht⟩
  · exact absurd e1 s.nn
  · refine ⟨g, c, rfl, fun j x hx => ?_, (Array.getElem?_eq_some_iff.1 hh).1, hb, hc1⟩
    have hj : j < l.length := (List.getElem?_eq_some_iff.1 hx).1
    have a1 : (l.map Value.string)[j]? = some (.string x) := by rw [List.getElem?_map, hx]; rfl
    rw [← ht, List.getElem?_take_of_lt (by omega)] at a1
    rw [Nat.zero_add]
    simpa [World.cell?, hh] using a1
theorem Gt.grow {w0 w w' : World} {B : Nat} {v v' : Value} {l : List ByteArray} {x : ByteArray} (s : Gt w0 w B v l) (h1 : w'.ownsRow B 9 1 v' (l.length + 1) (l.map Value.string ++ [.string x])) (hg : w.grownBy w' v.ownBlock) (hv : v' ≠ .slice none 0 0) : Gt w0 w' B v' (l ++ [x]) := by
  refine ⟨?_, hv, s.b.grown hg s.b.size (fun k hk => Nat.le_trans s.o2 (gs_ge s.own hk).1), s.o2, Nat.le_trans s.o3 hg.size⟩
  rw [List.length_append, List.length_singleton, List.map_append]
  exact h1
theorem Gt.more {w0 w w' : World} {B : Nat} {v v' : Value} {l m : List ByteArray} (s : Gt w0 w B v l) (h1 : w'.ownsRow B 9 1 v' (l.length + m.length) (l.map Value.string ++ m.map Value.string)) (hg : w.grownBy w' v.ownBlock) (hv : v' ≠ .slice none 0 0) : Gt w0 w' B v' (l ++ m) := by
  refine ⟨?_, hv, s.b.grown hg s.b.size (fun k hk => Nat.le_trans s.o2 (gs_ge s.own hk).1), s.o2, Nat.le_trans s.o3 hg.size⟩
  rw [List.length_append, List.map_append]
  exact h1
def UND : ByteArray := ⟨#[95]⟩
def nmL (nm : Nat → ByteArray) (x k : Nat) : List ByteArray := (List.range k).map fun j => UND ++ nm (x + j)
noncomputable def wdL (f : Nat → Nat → ByteArray) (x r k : Nat) : List ByteArray := (List.range k).map fun j => wd (f (x + j) r)
def jn (l : List ByteArray) : ByteArray := ⟨(Lib.join (l.map (·.data.toList)) [32]).toArray⟩
noncomputable def rwL (f : Nat → Nat → ByteArray) (x L r : Nat) : List ByteArray := (List.range r).map fun i => jn (wdL f x i L)
/-- The lines of a loop. -/
noncomputable def lpL (nm : Nat → ByteArray) (f : Nat → Nat → ByteArray) (x L R : Nat) : List ByteArray := LOOP :: nmL nm x L ++ rwL f x L R
theorem nmL_add (nm : Nat → ByteArray) (x k : Nat) : nmL nm x (k + 1) = nmL nm x k ++ [UND ++ nm (x + k)] := by simp [nmL, List.range_succ]
theorem wdL_add (f : Nat → Nat → ByteArray) (x r k : Nat) : wdL f x r (k + 1) = wdL f x r k ++ [wd (f (x + k) r)] := by simp [wdL, List.range_succ]
theorem rwL_add (f : Nat → Nat → ByteArray) (x L r : Nat) : rwL f x L (r + 1) = rwL f x L r ++ [jn (wdL f x r L)] := by simp [rwL, List.range_succ]
theorem nmL_len (nm : Nat → ByteArray) (x k : Nat) : (nmL nm x k).length = k := by simp [nmL]
theorem wdL_len (f : Nat → Nat → ByteArray) (x r k : Nat) : (wdL f x r k).length = k := by simp [wdL]
theorem rwL_len (f : Nat → Nat → ByteArray) (x L r : Nat) : (rwL f x L r).length = r := by simp [rwL]
theorem lens_le {A : Nat} : ∀ {l : List (List UInt8)}, (∀ x ∈ l, x.length ≤ A) → Lib.lens l ≤ l.length * A
  | [], _ => by simp [Lib.lens]
  | x :: l, h => by
    have h1 := lens_le (A := A) (l := l) (fun y hy => h y (List.mem_cons_of_mem _ hy))
    have h2 := h x (List.mem_cons_self ..)
    have h3 : Lib.lens (x :: l) = x.length + Lib.lens l := by simp [Lib.lens]
    rw [h3, List.length_cons, Nat.succ_mul]
    omega
theorem join_le {A : Nat} (c : UInt8) {l : List (List UInt8)} (h : ∀ x ∈ l, x.length ≤ A) : (Lib.join l [c]).length ≤ l.length * (A + 1) := by
  cases l with
  | nil => simp [Lib.join_nil]
  | cons x l =>
    rw [Lib.join_length]
    have := lens_le h
    rw [Nat.mul_add, Nat.mul_one]
    rw [show [c].length = 1 from rfl, Nat.one_mul]
    simp only [List.length_cons] at this ⊢
    omega
theorem wdL_join {f : Nat → Nat → ByteArray} {x r k : Nat} (h : ∀ j, j < k → (f (x + j) r).size ≤ 200) : (Lib.join ((wdL f x r k).map (·.data.toList)) [32]).length ≤ k * 203 := by
  have := join_le (A := 202) 32 (l := (wdL f x r k).map (·.data.toList)) (fun y hy => by
    obtain ⟨z, hz, rfl⟩ := List.mem_map.1 hy
    obtain ⟨j, hj, rfl⟩ := List.mem_map.1 hz
    have h1 := wd_size (f (x + j) r)
    have h2 := h j (List.mem_range.1 hj)
    have h3 : (wd (f (x + j) r)).data.toList.length = (wd (f (x + j) r)).size := Array.length_toList
    omega)
  rw [List.length_map, wdL_len] at this
  exact this
set_option maxRecDepth 100000 in
set_option maxHeartbeats 3200000 in
theorem linesOf_any {w : World} {g N x L C o R : Nat} {vb : Nat → Nat} {nm : Nat → ByteArray} {n : Nat → Nat} {rw : Nat → Int} {f : Nat → Nat → ByteArray} (D : ItO w g N N vb nm n rw f) (ho : o = x * 3) (hx : x + L ≤ N) (hL : 0 < L) (hN : N ≤ 200) (hR : rw x = (R : Int)) (hR2 : R ≤ 4000) (hn : ∀ k, k < L → n (x + k) = R) (hnm : ∀ k, k < L → (nm (x + k)).size ≤ 40) (hv : ∀ k r, k < L → r < R → vlOk (f (x + k) r)) :
    Calls Try.prog 32 #[.slice (some ⟨g, o, none⟩) L C] w fun e w' => ∃ v, e = .returned v ∧ Gt w w' w.heap.size v (lpL nm f x L R) := by
  have hL' : (L : Int) ≤ 200 := by omega
  have hL0 : (0 : Int) < (L : Int) := by omega
  have hR' : (R : Int) ≤ 4000 := by omega
  obtain ⟨i0, hj0, hz0, hz1, hz2⟩ := info_parts infoStr
  have HD : Hid (ItO w g N N vb nm n rw f) := D
  have HO : Hid (o = x * 3) := ho
  have HR : Hid (rw x = (R : Int)) := hR
  have HN : Hid (∀ k, k < L → n (x + k) = R) := hn
  have HM : Hid (∀ k, k < L → (nm (x + k)).size ≤ 40) := hnm
  have HV : Hid (∀ k r, k < L → r < R → vlOk (f (x + k) r)) := hv
  clear D ho hR hn hnm hv
  obtain ⟨V, hV, A0, bb, -⟩ := boxed w 9 #[.string { data := #[108, 111, 111, 112, 95] }]
  have G : Gt w V w.heap.size (.slice (some ⟨w.heap.size, 0, none⟩) 1 1) [LOOP] := ⟨⟨rfl, .inr ⟨w.heap.size, 1, #[.string LOOP], rfl, Nat.le_refl _, A0, Nat.le_refl _, by decide, rfl, rfl⟩⟩, (fun h => by cases h), bb, Nat.le_refl _, bb.size⟩
  clear bb A0
  go_enter Try.func32, Try.ntmps32
  go_wp2
  clear hV
  go_loopw [3, 13] (fun t u wr => ∃ k : Nat, k ≤ L ∧ u = .int .i64 (k : Int) ∧ Gt w wr w.heap.size t (LOOP :: nmL nm x k)) (fun _ u _ => L - (intOf u).toNat)
  case atStart => exact ⟨0, Nat.zero_le _, rfl, G⟩
  case round =>
    clear G
    obtain ⟨k, hk, rfl, G⟩ := hrel
    obtain ⟨gs, cs, rfl, -, -, -, -⟩ := G.open
    by_cases hlt : k < L
    · have hlt' : (k : Int) < (L : Int) := by omega
      have D := HD.out.below G.b
      obtain ⟨d0, d1, d2⟩ := D.from HO.out (show x + k < N by omega)
      obtain ⟨V1, hV1, m1, bb1, -⟩ := boxed wr 46 #[.string (nm (x + k)), .slice (some ⟨vb (x + k), 0, none⟩) (n (x + k)) (n (x + k)), .int .i64 (rw (x + k))]
      obtain ⟨r1, hr1⟩ : ∃ r, wr.heap.size = r := ⟨_, rfl⟩
      rw [hr1] at m1
      obtain ⟨x0, x1, x2, -⟩ := m1.open3
      have ho1 : ¬ 9223372036854775807 < 1 + (nm (x + k)).size := by have := HM.out k hlt; omega
      replace G := G.below bb1
      obtain ⟨V9, hV9, A9, b10, -⟩ := boxed V1 9 #[.string ({ data := #[95] } ++ nm (x + k))]
      obtain ⟨g9, hg9⟩ : ∃ g, V1.heap.size = g := ⟨_, rfl⟩
      rw [hg9] at A9
      have G4 := G.below b10
      have hkk := G4.o3
      have hb2 : ∀ w, (Instr.buildSlice 35 1 #[(0, .string ({ data := #[95] } ++ nm (x + k)))]).run Try.prog w = .ok (.slice (some ⟨w.heap.size, 0, none⟩) 1 1) (w.alloc (.cells #[.string ({ data := #[95] } ++ nm (x + k))] 9)) := fun _ => by kernel_rfl
      have hlen : (LOOP :: nmL nm x k).length = k + 1 := by simp [nmL_len]
      have hnx : (LOOP :: nmL nm x k) ++ [UND ++ nm (x + k)] = LOOP :: nmL nm x (k + 1) := by rw [nmL_add]; rfl
      have HX : Hid ((LOOP :: nmL nm x k) ++ [UND ++ nm (x + k)] = LOOP :: nmL nm x (k + 1)) := hnx
      clear hnx
      obtain ⟨l, hl⟩ : ∃ l, LOOP :: nmL nm x k = l := ⟨_, rfl⟩
      rw [hl] at G4 hlen HX
      have hlen' : ((LOOP :: nmL nm x k).length : Int) = (l.length : Int) := by rw [hl]
      rw [hl]
      clear b10 G bb1 D m1 hl
      go_wp2_with (at_builtin; refine wpList_append_own _ rfl _ _ _ rfl w.heap.size 9 i0 _ 1 16 Try.underlying35 hj0 hz0 hz1 hz2 rfl (by omega) (.slice (some ⟨gs, 0, none⟩) l.length cs) l.length (l.map Value.string) rfl G4.own ⟨g9, 0, none⟩ 1 1 [.string ({ data := #[95] } ++ nm (x + k))] rfl rfl (news1s A9) (by simp [Value.oneCell']) (by unfold maxLen; omega) (by omega) hkk ?_; intro v2 w16 hown2 hgrow2 hne2)
      have G5 := G4.grow (x := UND ++ nm (x + k)) hown2 hgrow2 (fun h => by have := hne2.1 h; simp at this)
      rw [HX.out] at G5
      exact ⟨⟨k + 1, by omega, by go_num, G5⟩, by simp [intOf]; omega⟩
    · have hlt' : ¬ (k : Int) < (L : Int) := by omega
      obtain rfl : k = L := by omega
      have D := HD.out.below G.b
      have d2 := (D.from (k := 0) HO.out (show x + 0 < N by omega)).2.2
      simp only [Nat.zero_mul, Nat.add_zero] at d2
      rw [HR.out] at d2
      clear D hlt
      have G0 : Gt w wr w.heap.size (.slice (some ⟨gs, 0, none⟩) ((nmL nm x k).length + 1) cs) (LOOP :: nmL nm x k ++ rwL f x k 0) := by
        rw [show LOOP :: nmL nm x k ++ rwL f x k 0 = LOOP :: nmL nm x k by simp [rwL]]
        exact G
      clear G
      go_wp2
      clear d2
      go_loopw [3, 28] (fun t u wr => ∃ r : Nat, r ≤ R ∧ u = .int .i64 (r : Int) ∧ Gt w wr w.heap.size t (LOOP :: nmL nm x k ++ rwL f x k r)) (fun _ u _ => R - (intOf u).toNat)
      case atStart => exact ⟨0, Nat.zero_le _, rfl, G0⟩
      case round =>
        clear G0
        obtain ⟨r, hr, rfl, G⟩ := hrel
        obtain ⟨gs, cs, rfl, -, -, -, -⟩ := G.open
        by_cases hlt : r < R
        · have hlt' : (r : Int) < (R : Int) := by omega
          obtain ⟨V1, hV1, A1, bb1, -⟩ := boxed wr 9 #[]
          obtain ⟨Bq, GW⟩ : ∃ B, Gt wr V1 B (.slice (some ⟨wr.heap.size, 0, none⟩) 0 0) (wdL f x r 0) := ⟨wr.heap.size, ⟨rfl, .inr ⟨wr.heap.size, 0, #[], rfl, Nat.le_refl _, A1, Nat.le_refl _, Nat.zero_le _, rfl, rfl⟩⟩, (fun h => by cases h), bb1, Nat.le_refl _, bb1.size⟩
          have HG : Hid (Gt w wr w.heap.size (.slice (some ⟨gs, 0, none⟩) (LOOP :: nmL nm x k ++ rwL f x k r).length cs) (LOOP :: nmL nm x k ++ rwL f x k r)) := G
          have hlen : (LOOP :: nmL nm x k ++ rwL f x k r).length ≤ 5000 := by simp [nmL_len, rwL_len]; omega
          have HX : Hid ((LOOP :: nmL nm x k ++ rwL f x k r) ++ [jn (wdL f x r k)] = LOOP :: nmL nm x k ++ rwL f x k (r + 1)) := show (LOOP :: nmL nm x k ++ rwL f x k r) ++ [jn (wdL f x r k)] = LOOP :: nmL nm x k ++ rwL f x k (r + 1) by rw [rwL_add, List.append_assoc]
          obtain ⟨l, hl⟩ : ∃ l, LOOP :: nmL nm x k ++ rwL f x k r = l := ⟨_, rfl⟩
          rw [hl] at HG hlen HX ⊢
          clear G bb1 A1 hl
          go_wp2
          clear hV1
          go_loopw [7, 34] (fun t u w3 => ∃ j : Nat, j ≤ k ∧ u = .int .i64 (j : Int) ∧ Gt wr w3 Bq t (wdL f x r j)) (fun _ u _ => k - (intOf u).toNat)
          case atStart => exact ⟨0, Nat.zero_le _, rfl, GW⟩
          case round =>
            clear GW
            obtain ⟨j, hj, rfl, GW⟩ := hrel
            obtain ⟨gw, cw, rfl, q1, q2, q3, q4⟩ := GW.open
            have B := HG.out.b.trans (GW.b.mono HG.out.b.size)
            by_cases hlj : j < k
            · have hlj' : (j : Int) < (k : Int) := by omega
              have D := HD.out.below B
              obtain ⟨d0, d1, d2⟩ := D.from HO.out (show x + j < N by omega)
              have hnr := HN.out j hlj
              have hst := (D.own (x + j) (by omega)).2.strs r (by omega)
              have hsl := (D.own (x + j) (by omega)).2.lt
              rw [hnr] at d1
              obtain ⟨V2, hV2, m2, bb2, -⟩ := boxed wr 46 #[.string (nm (x + j)), .slice (some ⟨vb (x + j), 0, none⟩) R R, .int .i64 (rw (x + j))]
              obtain ⟨r1, hr1⟩ : ∃ r, wr.heap.size = r := ⟨_, rfl⟩
              rw [hr1] at m2
              obtain ⟨x0, x1, x2, -⟩ := m2.open3
              have hst2 := (bb2.cell (p := ⟨vb (x + j), 0 + r, none⟩) hsl).trans hst
              rw [Nat.zero_add] at hst2
              replace GW := GW.below bb2
              have WR := fun w => written_any (f (x + j) r) w (HV.out j r hlj hlt).1 (fun i hi => ((HV.out j r hlj hlt).2 i hi).2)
              obtain ⟨V9, hV9, A9, b10, -⟩ := boxed V2 9 #[.string (wd (f (x + j) r))]
              obtain ⟨g9, hg9⟩ : ∃ g, V2.heap.size = g := ⟨_, rfl⟩
              rw [hg9] at A9
              have G4 := GW.below b10
              have hkk := G4.o3
              have hb2 : ∀ w, (Instr.buildSlice 35 1 #[(0, .string (wd (f (x + j) r)))]).run Try.prog w = .ok (.slice (some ⟨w.heap.size, 0, none⟩) 1 1) (w.alloc (.cells #[.string (wd (f (x + j) r))] 9)) := fun _ => by kernel_rfl
              have hwl : (wdL f x r j).length ≤ 200 := by rw [wdL_len]; omega
              have HY : Hid (wdL f x r j ++ [wd (f (x + j) r)] = wdL f x r (j + 1)) := (wdL_add f x r j).symm
              obtain ⟨l2, hl2⟩ : ∃ l, wdL f x r j = l := ⟨_, rfl⟩
              rw [hl2] at G4 hwl HY ⊢
              clear b10 GW bb2 D m2 hl2 hst hsl q1 q2 q3 q4 HG B
              obtain ⟨y, hy⟩ : ∃ y, wd (f (x + j) r) = y := ⟨_, rfl⟩
              obtain ⟨z, hz⟩ : ∃ z, f (x + j) r = z := ⟨_, rfl⟩
              rw [hz] at hy WR hst2 hb2 hV9 A9 HY
              rw [hy] at WR hb2 hV9 A9 HY
              clear hnr hy hz
              go_wp2_with fail
              refine (WR _).mono ?_
              rintro e w2 ⟨rfl, rfl⟩
              clear WR x0 x1 x2 hst2 d0 d1 d2
              go_wp2_with (at_builtin; refine wpList_append_own _ rfl _ _ _ rfl Bq 9 i0 _ 1 16 Try.underlying35 hj0 hz0 hz1 hz2 rfl (by omega) (.slice (some ⟨gw, 0, none⟩) l2.length cw) l2.length (l2.map Value.string) rfl G4.own ⟨g9, 0, none⟩ 1 1 [.string y] rfl rfl (news1s A9) (by simp [Value.oneCell']) (by unfold maxLen; omega) (by omega) hkk ?_; intro v2 w16 hown2 hgrow2 hne2)
              have G5 := G4.grow (x := y) hown2 hgrow2 (fun h => by have := hne2.1 h; simp at this)
              rw [HY.out] at G5
              exact ⟨⟨j + 1, by omega, by go_num, G5⟩, by simp [intOf]; omega⟩
            · have hlj' : ¬ (j : Int) < (k : Int) := by omega
              obtain rfl : j = k := by omega
              have hwl : (wdL f x r j).length ≤ 200 := by rw [wdL_len]; omega
              have JA := join_any gw 0 cw (wdL f x r j) ⟨#[32]⟩ wr q1 q2 (by omega) q4 (by
                have := wdL_join (f := f) (x := x) (r := r) (k := j) (fun i hi => (HV.out i r hi hlt).1)
                refine Nat.le_trans this ?_
                omega)
              have G6 := HG.out.below GW.b
              obtain ⟨y, hy⟩ : ∃ y, jn (wdL f x r j) = y := ⟨_, rfl⟩
              have hy2 : (⟨(Lib.join ((wdL f x r j).map (·.data.toList)) (⟨#[32]⟩ : ByteArray).data.toList).toArray⟩ : ByteArray) = y := hy
              rw [hy2] at JA
              rw [hy] at HX
              obtain ⟨l2, hl2⟩ : ∃ l, wdL f x r j = l := ⟨_, rfl⟩
              rw [hl2] at JA ⊢
              clear q1 q2 q3 q4 GW HG hl2 hy2 hy hwl B
              go_wp2_with fail
              refine JA.mono ?_
              rintro e w4 ⟨rfl, b4⟩
              have G7 := G6.below b4
              clear G6 b4 JA
              obtain ⟨V9, hV9, A9, b10, -⟩ := boxed w4 9 #[.string y]
              obtain ⟨g9, hg9⟩ : ∃ g, w4.heap.size = g := ⟨_, rfl⟩
              rw [hg9] at A9
              have G4 := G7.below b10
              have hkk := G4.o3
              have hb2 : ∀ w, (Instr.buildSlice 35 1 #[(0, .string y)]).run Try.prog w = .ok (.slice (some ⟨w.heap.size, 0, none⟩) 1 1) (w.alloc (.cells #[.string y] 9)) := fun _ => by kernel_rfl
              clear b10 G7
              go_wp2_with (at_builtin; refine wpList_append_own _ rfl _ _ _ rfl w.heap.size 9 i0 _ 1 16 Try.underlying35 hj0 hz0 hz1 hz2 rfl (by omega) (.slice (some ⟨gs, 0, none⟩) l.length cs) l.length (l.map Value.string) rfl G4.own ⟨g9, 0, none⟩ 1 1 [.string y] rfl rfl (news1s A9) (by simp [Value.oneCell']) (by unfold maxLen; omega) (by omega) hkk ?_; intro v2 w16 hown2 hgrow2 hne2)
              have G5 := G4.grow (x := y) hown2 hgrow2 (fun h => by have := hne2.1 h; simp at this)
              rw [HX.out] at G5
              exact ⟨⟨r + 1, by omega, by go_num, G5⟩, by simp [intOf]; omega⟩
        · have hlt' : ¬ (r : Int) < (R : Int) := by omega
          obtain rfl : r = R := by omega
          have HG : Hid (Gt w wr w.heap.size (.slice (some ⟨gs, 0, none⟩) (LOOP :: nmL nm x k ++ rwL f x k r).length cs) (LOOP :: nmL nm x k ++ rwL f x k r)) := G
          obtain ⟨l, hl⟩ : ∃ l, LOOP :: nmL nm x k ++ rwL f x k r = l := ⟨_, rfl⟩
          have HL : Hid (lpL nm f x k r = l) := hl
          rw [hl] at HG ⊢
          clear G hlt hl
          go_wp2
          go_ret
          exact ⟨_, rfl, by rw [HL.out]; exact HG.out⟩
end Go.Proofs.Ytdhfoekfejcceaa
