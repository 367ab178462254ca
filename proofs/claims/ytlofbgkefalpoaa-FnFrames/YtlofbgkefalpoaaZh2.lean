/-
  A frame drawn pixel by pixel: l12Draw, walked.
-/
import Derived.Test.YtlofbgkefalpoaaUw
import Derived.Test.YtlofbgkefalpoaaDx
namespace Go.Proofs.Ytlofbgkefalpoaa
open Go.RowKit

/-- What grows from a block that is new leaves the cursor alone. -/
theorem Dr.grown {w0 w w' : World} {p N : Nat} {a : Option Addr} {len cap : Nat} (h : Dr w0 p a len cap w) (hb : Below N w w') (h0 : w0.heap.size ≤ N) (hp : p < N) : Dr w0 p a len cap w' := by
  refine ⟨⟨hb.os.trans h.1.os, hb.tape.trans h.1.tape, hb.output.trans h.1.output, Nat.le_trans h.1.size hb.size, fun k hk hkp => (hb.block k (by omega)).trans (h.1.block k hk hkp)⟩, ?_⟩
  obtain ⟨j, x, hj, hh, hr⟩ := h.2
  refine ⟨j, x, hj, (hb.block p hp).trans hh, hr.1, hr.2.imp id ?_⟩
  rintro ⟨b, off, e, hlt, hc⟩
  refine ⟨b, off, e, hlt, fun j hj => ?_⟩
  obtain ⟨n, n0, n1, n2⟩ := hc j hj
  exact ⟨n, n0, n1, (World.cell?_of_block (w := w) (hb.block b (by omega))).trans n2⟩
theorem own_kept {w w' : World} {B p : Nat} {e : TypeId} {k : Nat} {v : Value} {n : Nat} {xs : List Value} (h : w.ownsRow B e k v n xs) (hk : Kept p w w') (hp : p < B) : w'.ownsRow B e k v n xs := by
  refine ⟨h.1, h.2.imp id ?_⟩
  rintro ⟨g, cap, cur, rfl, h1, h2, h3⟩
  exact ⟨g, cap, cur, rfl, h1, (hk.block g (Array.getElem?_eq_some_iff.1 h2).1 (by omega)).trans h2, h3⟩
/-- What stands while a frame is drawn: its box q, the box of the answer (at N), the cursor. -/
structure DW (w0 w : World) (p : Nat) (a : Option Addr) (len cap N q : Nat) (X0 X1 : Int) (v : Value) (P : List Int) : Prop where
  dr : Dr w0 p a len cap w
  own : w.ownsRow N 2 1 v P.length (lI P)
  bx : At 28 w q #[.int .i64 X0, .int .i64 X1, v]
  rb : At 28 w N #[.int .i64 0, .int .i64 0, .slice none 0 0]
  o : N < q
  s0 : w0.heap.size ≤ N
  sp : p < N
theorem DW.below {w0 w w' : World} {p : Nat} {a : Option Addr} {len cap N q : Nat} {X0 X1 : Int} {v : Value} {P : List Int} (h : DW w0 w p a len cap N q X0 X1 v P) (hb : Below w.heap.size w w') : DW w0 w' p a len cap N q X0 X1 v P :=
  ⟨h.dr.below hb, own_below h.own hb, h.bx.below hb, h.rb.below hb, h.o, h.s0, h.sp⟩
theorem DW.cur {w0 w : World} {p : Nat} {a : Option Addr} {len cap N q : Nat} {X0 X1 : Int} {v : Value} {P : List Int} (h : DW w0 w p a len cap N q X0 X1 v P) : Dr w p a len cap w := Dr.start h.dr.2
/-- A draw leaves it. -/
theorem DW.draw {w0 w w' : World} {p : Nat} {a : Option Addr} {len cap N q : Nat} {X0 X1 : Int} {v : Value} {P : List Int} (h : DW w0 w p a len cap N q X0 X1 v P) (hd : Dr w p a len cap w') : DW w0 w' p a len cap N q X0 X1 v P := by
  have o := h.o
  have sp := h.sp
  exact ⟨hd.from h.dr.1, own_kept h.own hd.1 h.sp, (hd.1.block q h.bx.lt (by omega)).trans h.bx, (hd.1.block N h.rb.lt (by omega)).trans h.rb, h.o, h.s0, h.sp⟩
theorem DW.open {w0 w : World} {p : Nat} {a : Option Addr} {len cap N q : Nat} {X0 X1 : Int} {v : Value} {P : List Int} (h : DW w0 w p a len cap N q X0 X1 v P) : ∃ a c, v = .slice a P.length c := by
  rcases h.own.2 with ⟨rfl, e⟩ | ⟨g, c, cur, e, -⟩
  · refine ⟨none, 0, ?_⟩
    simp_all
  · exact ⟨_, c, e⟩
theorem DW.add {w0 w w' : World} {p : Nat} {a : Option Addr} {len cap N q : Nat} {X0 X1 : Int} {v v' : Value} {P : List Int} (h : DW w0 w p a len cap N q X0 X1 v P) (x : Int) (ho : w'.ownsRow N 2 1 v' (P.length + 1) (lI P ++ [.int .i64 x])) (hg : w.grownBy w' v.ownBlock) : DW w0 (w'.setCell ⟨q, 2, none⟩ v') p a len cap N q X0 X1 v' (P ++ [x]) := by
  have b1 : At 28 w' q #[.int .i64 X0, .int .i64 X1, v] := (hg.block q h.bx.lt (fun e => own_ne h.own h.bx (by decide) e.symm)).trans h.bx
  have b2 : At 28 w' N #[.int .i64 0, .int .i64 0, .slice none 0 0] := (hg.block _ h.rb.lt (fun e => own_ne h.own h.rb (by decide) e.symm)).trans h.rb
  have o := h.o
  have sz := h.rb.lt
  have B : Below N w w' := Below.grown (Below.refl N w) hg (by omega) (fun k hk => ownBlock_ge h.own hk)
  refine ⟨h.dr.grown (B.setCell (show N ≤ q by omega) _) h.s0 h.sp, ?_, by simpa using b1.set 2 v', b2.setOther (by omega) _, o, h.s0, h.sp⟩
  have ho' : w'.ownsRow N 2 1 v' (P ++ [x]).length (lI (P ++ [x])) := by simpa [lI] using ho
  refine ⟨ho'.1, ho'.2.imp id ?_⟩
  rintro ⟨g, c, cur, rfl, h1, h2, h3⟩
  have hne : q ≠ g := fun e => own_ne ho' b1 (by decide) (by simp [Value.ownBlock, e])
  exact ⟨g, c, cur, rfl, h1, (Below.heap_setCell _ _ _ _ (by simpa using hne.symm)).trans h2, h3⟩
theorem DW.arr {w0 w : World} {p : Nat} {a : Option Addr} {len cap N q : Nat} {X0 X1 : Int} {v : Value} {P : List Int} (h : DW w0 w p a len cap N q X0 X1 v P) : Arr w N w.heap.size v P.length (fun i => P.getD i 0) := by
  rcases h.own.2 with ⟨rfl, e⟩ | ⟨g, c, cur, e, hb, hh, hc1, hc2, hsz, ht⟩
  · exact .inl ⟨rfl, by simp_all⟩
  · refine .inr ⟨g, c, e, hb, (Array.getElem?_eq_some_iff.1 hh).1, hc1, cur, hh, by omega, fun i hi => ?_⟩
    have a1 : (lI P)[i]? = some (.int .i64 (P.getD i 0)) := by simp [lI, hi]
    rw [← ht, List.getElem?_take_of_lt (by omega)] at a1
    simpa using a1
theorem own_setO {w : World} {B q i : Nat} {e : TypeId} {k : Nat} {v : Value} {n : Nat} {xs : List Value} (h : w.ownsRow B e k v n xs) (hq : v.ownBlock ≠ some q) (x : Value) : (w.setCell ⟨q, i, none⟩ x).ownsRow B e k v n xs := by
  refine ⟨h.1, h.2.imp id ?_⟩
  rintro ⟨g, cap, cur, rfl, h1, h2, h3⟩
  exact ⟨g, cap, cur, rfl, h1, (Below.heap_setCell _ _ _ _ (fun e => hq (by simp only [Value.ownBlock]; rw [e]))).trans h2, h3⟩
/-- What a drawn frame is. -/
def DrF (X0 X1 : Int) (w0 w : World) (p : Nat) (a : Option Addr) (len cap : Nat) (e : Ending) (w' : World) : Prop := ∃ v P, e = .returned (fV X0 X1 v) ∧ w'.ownsRow w.heap.size 2 1 v P.length (lI P) ∧ (P.length : Int) = X0 * X1 ∧ (∀ x ∈ P, 0 ≤ x ∧ x ≤ 65535) ∧ Dr w0 p a len cap w'
set_option maxRecDepth 100000 in
set_option maxHeartbeats 8000000 in
theorem l12Draw_dr {w0 w : World} {p : Nat} {a : Option Addr} {len cap : Nat} (X0 X1 : Int) (hc : Dr w0 p a len cap w) (hX0 : 1 ≤ X0 ∧ X0 ≤ 64) (hX1 : 1 ≤ X1 ∧ X1 ≤ 64) (hs0 : w0.heap.size ≤ w.heap.size) :
    Calls Try.prog 32 #[.pointer (some ⟨p, 0, none⟩), .int .i64 X0, .int .i64 X1] w (DrF X0 X1 w0 w p a len cap) := by
  have p1 := mul_in (a := X0) (b := X1) (x := 64) (y := 64) (by omega) (by omega)
  have hpw := hc.2.lt
  obtain ⟨i0, hi0, hz0, hz1, hz2⟩ := info_parts infoI
  obtain ⟨M, hM⟩ : ∃ M : Nat, (M : Int) = X0 * X1 := ⟨(X0 * X1).toNat, by omega⟩
  have hM4 : M ≤ 4096 := by omega
  obtain ⟨V, hV, b0, bW, -⟩ := boxed w 28 #[.int .i64 0, .int .i64 0, .slice none 0 0]
  obtain ⟨V2, hV2, x0, bb, -⟩ := boxed V 28 #[.int .i64 X0, .int .i64 X1, .slice none 0 0]
  have z0 := b0.lt
  replace b0 := b0.below bb
  replace bW := bW.trans (bb.mono bW.size)
  clear bb
  have R0 : DW w0 V2 p a len cap w.heap.size V.heap.size X0 X1 (.slice none 0 0) [] := ⟨hc.below bW, ⟨rfl, .inl ⟨rfl, rfl⟩⟩, x0, b0, z0, hs0, hpw⟩
  have wm : IntKind.i64.wrap (X0 * X1) = (M : Int) := (IntWalk.i64_in _ (by omega)).trans hM.symm
  have HM : Hid ((M : Int) = X0 * X1) := hM
  have HV2 : Hid (V.alloc (.cells #[.int .i64 X0, .int .i64 X1, .slice none 0 0] 28) = V2) := hV2
  clear hM b0 x0 hc hV2
  go_enter Try.func32, Try.ntmps32
  go_wp2
  rw [HV2.out]
  clear hV HV2 wm
  go_loopw [8] (fun s wr => ∃ v P, P.length ≤ M ∧ s = .int .i64 ((M - P.length : Nat) : Int) ∧ (∀ x ∈ P, 0 ≤ x ∧ x ≤ 65535) ∧ DW w0 wr p a len cap w.heap.size V.heap.size X0 X1 v P) (fun s _ => (intOf s).toNat)
  case atStart => exact ⟨_, [], Nat.zero_le _, rfl, fun x hx => (by cases hx), R0⟩
  case round =>
    clear R0
    obtain ⟨v, P, hP, rfl, hall, R⟩ := hrel
    obtain ⟨va, vc, rfl⟩ := R.open
    obtain ⟨J, hJ⟩ : ∃ J : Nat, M - P.length = J := ⟨_, rfl⟩
    rw [hJ]
    have HA : Hid (∀ x ∈ P, 0 ≤ x ∧ x ≤ 65535) := hall
    clear hall
    by_cases hlt : 0 < J
    · have hlt' : (0 : Int) < (J : Int) := by omega
      have hJ4 : (J : Int) ≤ 4096 := by omega
      have HJ : Hid (M - P.length = J) := hJ
      clear hJ
      go_wp2_with fail
      refine (below_dr R.cur 4 (by decide) (by decide)).mono ?_
      rintro e w1 ⟨y, rfl, y0, y1, hd⟩
      replace R := R.draw hd
      clear hd
      go_wp2_with fail
      refine (once_dr R.cur 8 (by decide) (by decide)).mono ?_
      rintro e w2 ⟨b, rfl, hd⟩
      replace R := R.draw hd
      clear hd
      have tail : ∀ (A2 : Int) (u : World), 0 ≤ A2 ∧ A2 ≤ 65535 → DW w0 u p a len cap w.heap.size V.heap.size X0 X1 (.slice va P.length vc) P → True := fun _ _ _ _ => trivial
      clear tail
      rcases b with _ | _
      · obtain ⟨A2, rfl⟩ : ∃ A2, A2 = y := ⟨_, rfl⟩
        have hA2 : 0 ≤ A2 ∧ A2 ≤ 65535 := by omega
        have hb1 : ∀ w, (Instr.buildSlice 26 1 #[(0, .int .i64 A2)]).run Try.prog w = .ok (.slice (some ⟨w.heap.size, 0, none⟩) 1 1) (w.alloc (.cells #[.int .i64 A2] 2)) := fun _ => by kernel_rfl
        obtain ⟨c0, c1, c2, -⟩ := R.bx.open3
        obtain ⟨V6, hV6, A6, b6, -⟩ := boxed w2 2 #[.int .i64 A2]
        have R6 := R.below b6
        have zN := R6.rb.lt
        have news := World.news_of_block (cs := #[.int .i64 A2]) (t := 2) (fr := (0, 0)) A6
        go_wp2_with (at_builtin; refine wpList_append_own _ rfl _ _ _ rfl w.heap.size 2 i0 _ 1 8 Try.underlying26 hi0 hz0 hz1 hz2 rfl (by omega) (.slice va P.length vc) P.length (lI P) rfl R6.own ⟨w2.heap.size, 0, none⟩ 1 1 [.int .i64 A2] rfl rfl news (by simp [Value.oneCell']) (by unfold maxLen; omega) (by omega) (by omega) ?_; intro v2 w9 hown2 hgrow2 hne2; refine Hid.out (?_ : Hid _))
        have b9 : At 28 w9 V.heap.size #[.int .i64 X0, .int .i64 X1, .slice va P.length vc] := (hgrow2.block V.heap.size R6.bx.lt (fun e => own_ne R6.own R6.bx (by decide) e.symm)).trans R6.bx
        obtain ⟨va2, vc2, rfl⟩ := own_slice hown2
        have R9 := R6.add A2 hown2 hgrow2
        clear c0 c1 c2
        obtain ⟨c0, c1, c2, f0, f1, f2⟩ := b9.open3
        have H9 : Hid (DW w0 (w9.setCell ⟨V.heap.size, 2, none⟩ (.slice va2 (P.length + 1) vc2)) p a len cap w.heap.size V.heap.size X0 X1 (.slice va2 (P.length + 1) vc2) (P ++ [A2])) := R9
        clear R9 hown2 hgrow2 hne2 R6 R b9 A6 b6 news hb1 hV6
        refine (?_ : wpList _ _ _ _ _ _)
        go_wp2
        have hj := HJ.out
        refine ⟨⟨_, P ++ [A2], by simp; omega, congrArg (Value.int .i64) (by simp; omega), fun x hx => ?_, H9.out⟩, by simp [intOf]; omega⟩
        rcases List.mem_append.1 hx with h | h
        · exact HA.out x h
        · obtain rfl : x = A2 := by simpa using h
          exact hA2
      · go_wp2_with fail
        refine (below_dr R.cur 900 (by decide) (by decide)).mono ?_
        rintro e w3 ⟨A2, rfl, y2, y3, hd⟩
        replace R := R.draw hd
        clear hd
        have hA2 : 0 ≤ A2 ∧ A2 ≤ 65535 := by omega
        have hb1 : ∀ w, (Instr.buildSlice 26 1 #[(0, .int .i64 A2)]).run Try.prog w = .ok (.slice (some ⟨w.heap.size, 0, none⟩) 1 1) (w.alloc (.cells #[.int .i64 A2] 2)) := fun _ => by kernel_rfl
        obtain ⟨c0, c1, c2, -⟩ := R.bx.open3
        obtain ⟨V6, hV6, A6, b6, -⟩ := boxed w3 2 #[.int .i64 A2]
        have R6 := R.below b6
        have zN := R6.rb.lt
        have news := World.news_of_block (cs := #[.int .i64 A2]) (t := 2) (fr := (0, 0)) A6
        go_wp2_with (at_builtin; refine wpList_append_own _ rfl _ _ _ rfl w.heap.size 2 i0 _ 1 8 Try.underlying26 hi0 hz0 hz1 hz2 rfl (by omega) (.slice va P.length vc) P.length (lI P) rfl R6.own ⟨w3.heap.size, 0, none⟩ 1 1 [.int .i64 A2] rfl rfl news (by simp [Value.oneCell']) (by unfold maxLen; omega) (by omega) (by omega) ?_; intro v2 w9 hown2 hgrow2 hne2; refine Hid.out (?_ : Hid _))
        have b9 : At 28 w9 V.heap.size #[.int .i64 X0, .int .i64 X1, .slice va P.length vc] := (hgrow2.block V.heap.size R6.bx.lt (fun e => own_ne R6.own R6.bx (by decide) e.symm)).trans R6.bx
        obtain ⟨va2, vc2, rfl⟩ := own_slice hown2
        have R9 := R6.add A2 hown2 hgrow2
        clear c0 c1 c2
        obtain ⟨c0, c1, c2, f0, f1, f2⟩ := b9.open3
        have H9 : Hid (DW w0 (w9.setCell ⟨V.heap.size, 2, none⟩ (.slice va2 (P.length + 1) vc2)) p a len cap w.heap.size V.heap.size X0 X1 (.slice va2 (P.length + 1) vc2) (P ++ [A2])) := R9
        clear R9 hown2 hgrow2 hne2 R6 R b9 A6 b6 news hb1 hV6
        refine (?_ : wpList _ _ _ _ _ _)
        go_wp2
        have hj := HJ.out
        refine ⟨⟨_, P ++ [A2], by simp; omega, congrArg (Value.int .i64) (by simp; omega), fun x hx => ?_, H9.out⟩, by simp [intOf]; omega⟩
        rcases List.mem_append.1 hx with h | h
        · exact HA.out x h
        · obtain rfl : x = A2 := by simpa using h
          exact hA2
    · have hlt' : ¬ (0 : Int) < (J : Int) := by omega
      have eP : P.length = M := by omega
      have b2 := R.rb
      obtain ⟨c0, c1, c2, -⟩ := R.bx.open3
      obtain ⟨d0, d1, d2, f0, f1, f2⟩ := b2.open3
      have HP : Hid (P.length = M) := eP
      clear eP hJ
      go_wp2
      have a7 := put3_at b2 (.int .i64 X0) (.int .i64 X1) (.slice va P.length vc)
      obtain ⟨p0, p1, p2, -⟩ := a7.open3
      refine bodyPost_ret (v := fV X0 X1 (.slice va P.length vc)) (by simp [results, Try.results32, go_sem, p0, p1, p2]) rfl ?_
      have hne := own_ne R.own R.rb (by decide)
      exact ⟨_, P, rfl, own_setO (own_setO (own_setO R.own hne _) hne _) hne _, by rw [HP.out]; exact HM.out, HA.out, R.dr.grown (below_put3 (Below.refl w.heap.size _) (Nat.le_refl _) _ _ _) hs0 hpw⟩
end Go.Proofs.Ytlofbgkefalpoaa
