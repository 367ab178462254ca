/-
  The law FnPlays: walked.
-/
import Derived.Test.YtnjnffemidaopaaL17y
import Derived.Test.YtnjnffemidaopaaL17zf
namespace Go.Proofs.Ytnjnffemidaopaa
open Go.RowKit

/-- What the play told, and the deeds: they lie here. -/
structure PlK (B : Nat) (u : World) (q6 g7 : Nat) (L : LS) (cd : Nat → Int) (m : Nat) (f : Nat → Int) (sS : Option Addr) (cS : Nat) (sJ : Option Addr) (cJ gC cC : Nat) : Prop where
  bx : At 27 u q6 #[.slice sS L.n cS, .slice sJ L.m cJ, .int .i64 L.T]
  S : ArK 3 37 u B u.heap.size (.slice sS L.n cS) L.n L.f
  J : ArK 4 39 u B u.heap.size (.slice sJ L.m cJ) L.m L.g
  C : ArK 1 2 u B u.heap.size (.slice (some ⟨gC, 0, none⟩) m cC) m cd
  R : Recs 4 u g7 m f
section
variable {B : Nat} {u u' : World} {q6 g7 : Nat} {L : LS} {cd : Nat → Int} {m : Nat} {f : Nat → Int} {sS : Option Addr} {cS : Nat} {sJ : Option Addr} {cJ gC cC : Nat}
theorem PlK.below (h : PlK B u q6 g7 L cd m f sS cS sJ cJ gC cC) (hb : Below u.heap.size u u') : PlK B u' q6 g7 L cd m f sS cS sJ cJ gC cC :=
  ⟨h.bx.below hb, (h.S.below hb).fit, (h.J.below hb).fit, (h.C.below hb).fit, h.R.below hb⟩
theorem PlK.put {q8 : Nat} {vs : Array Value} (h : PlK B u q6 g7 L cd m f sS cS sJ cJ gC cC) (b : At 27 u q8 vs) (h1 : q6 ≠ q8) (h2 : g7 ≠ q8) (v0 v1 v2 : Value) : PlK B (((u.setCell ⟨q8, 0, none⟩ v0).setCell ⟨q8, 1, none⟩ v1).setCell ⟨q8, 2, none⟩ v2) q6 g7 L cd m f sS cS sJ cJ gC cC := by
  have U := put3_only u q8 v0 v1 v2
  have e (q : Nat) (hq : q ≠ q8) : Value.ownBlock (.slice (some ⟨q8, 0, none⟩) 0 0) ≠ some q := by
    intro k
    have : q8 = q := by simpa [Value.ownBlock] using k
    omega
  exact ⟨h.bx.only U (e _ h1), (h.S.only U (apart_box (h.S.box b (by decide)))).fit, (h.J.only U (apart_box (h.J.box b (by decide)))).fit, (h.C.only U (apart_box (h.C.box b (by decide)))).fit, h.R.only U (e _ h2)⟩
end
set_option maxRecDepth 100000 in
set_option maxHeartbeats 12800000 in
theorem plays_walk (hD : DeedC) {w : World} {a : Option Addr} {len cap : Nat} (hr : Row w w.heap.size a len) :
    Calls Try.prog 5 #[.slice a len cap] w fun e w' => e = .returned (.bool true) ∧ Below w.heap.size w w' := by
  have hl := hr.1
  go_enter Try.func5, Try.ntmps5
  go_wp2_with fail
  refine (big_any a len cap w hl).mono ?_
  rintro e w0 ⟨rfl, rfl⟩
  by_cases hbig : 1048576 < len
  · have e1 : decide (1048576 < len) = true := by simp; omega
    rw [e1]
    go_wp2
    go_ret
    exact ⟨rfl, Below.refl _ _⟩
  have e1 : decide (1048576 < len) = false := by simp; omega
  rw [e1]
  clear e1 hbig
  go_wp2_with fail
  refine (drawPlay_any hD hr).mono ?_
  rintro e w1 ⟨v, m, f, rfl, hm, hv, D, B⟩
  obtain ⟨g7, c7, rfl, hg7, hc7, hc7m, L7⟩ := D.nn hv
  clear hr hv
  by_cases hm0 : (1000 : Int) < (m : Int)
  · go_wp2_with fail
    refine (implPlay_no (by omega) (fun _ => 0)).mono ?_
    rintro e w2 ⟨vS, vJ, vC, rfl, S6, J6, C6, hC6, bb⟩
    replace B := B.trans (bb.mono B.size)
    obtain ⟨sS, cS, rfl, -, -⟩ := S6.ls
    obtain ⟨sJ, cJ, rfl, -, -⟩ := J6.ls
    obtain ⟨sC, cC, rfl, -, -⟩ := C6.ls
    obtain ⟨W3, hW3, A6, bb2, -⟩ := boxed w2 27 #[.slice sS noL.n cS, .slice sJ noL.m cJ, .int .i64 noL.T]
    replace B := B.trans (bb2.mono B.size)
    go_wp2
    go_ret
    exact ⟨rfl, B⟩
  · have hm1 : m ≤ 1000 := by omega
    have hb0 : ∀ w, (Instr.buildSlice 40 0 #[]).run Try.prog w = .ok (.slice (some ⟨w.heap.size, 0, none⟩) 0 0) (w.alloc (.cells #[] 29)) := fun _ => by kernel_rfl
    obtain ⟨V2, hV2, A2, b2, -⟩ := boxed w1 29 #[]
    obtain ⟨gx, hgx⟩ : ∃ q, w1.heap.size = q := ⟨_, rfl⟩
    rw [hgx] at A2
    have hg7x : g7 < gx := by have := L7.lt; omega
    have hwx : w.heap.size ≤ gx := by have := B.size; omega
    have R7 := L7.recsN.below b2
    replace B := B.trans (b2.mono B.size)
    have E0 : ArK 4 29 V2 gx V2.heap.size (.slice (some ⟨gx, 0, none⟩) 0 0) 0 (fun _ => 0) := .inr ⟨gx, 0, rfl, Nat.le_refl _, A2.lt, Nat.le_refl _, Nat.zero_le _, #[], A2, rfl, fun i hi => by omega⟩
    have hgl := A2.lt
    go_wp2_with (at_builtin; refine Hid.out (?_ : Hid _))
    clear hb0 hV2 hgx b2 L7 D A2
    refine (?_ : wpList _ _ _ _ _ _)
    refine wpListK_append Try.underlying40 infoDeed rfl (by omega) (by omega) V2 rfl _ _ rfl rfl E0 rfl (.inr ⟨g7, rfl, R7⟩) (fun h => by cases h) (by omega) (Nat.le_of_lt hgl) ?_
    intro v' u3 C' ho hN
    obtain ⟨ge, ce, rfl, -, -, -, -⟩ := C'.nn (hN (fun h => by cases h))
    replace R7 := R7.only ho (fun h => by have := (E0.lt h).1; omega)
    replace B := ho.belowK E0 hwx B B.size
    have C7 := C'.same (f' := f) (fun r _ => by unfold cat; simp)
    rw [Nat.zero_add] at C7 ⊢
    clear C' ho hN E0 hgl
    go_wp2_with fail
    refine (implPlay_any (ark_ls C7) hm1).mono ?_
    rintro e w4 ⟨vS, vJ, vC, rfl, S6, J6, C6, hC6, bb⟩
    have hsz4 := bb.size
    have h43 := B.size
    replace B := B.trans (bb.mono B.size)
    replace R7 := R7.below bb
    obtain ⟨sS, cS, rfl, -, -⟩ := S6.ls
    obtain ⟨sJ, cJ, rfl, -, -⟩ := J6.ls
    obtain ⟨gC, cC, rfl, -, -, -, -⟩ := C6.nn hC6
    replace S6 := S6.wide h43 (Nat.le_refl _)
    replace J6 := J6.wide h43 (Nat.le_refl _)
    replace C6 := C6.wide h43 (Nat.le_refl _)
    clear C7 bb hC6
    obtain ⟨L, hL⟩ : ∃ L, ply f m = L := ⟨_, rfl⟩
    rw [hL] at S6 J6
    have HL : Hid (ply f m = L) := hL
    obtain ⟨V5, hV5, A6, b5, -⟩ := boxed w4 27 #[.slice sS L.n cS, .slice sJ L.m cJ, .int .i64 L.T]
    obtain ⟨q6, hq6⟩ : ∃ q, w4.heap.size = q := ⟨_, rfl⟩
    obtain ⟨V6, hV6, A8, b6, -⟩ := boxed V5 27 #[.slice none 0 0, .slice none 0 0, .int .i64 0]
    obtain ⟨q8, hq8⟩ : ∃ q, V5.heap.size = q := ⟨_, rfl⟩
    rw [hq6] at A6
    rw [hq8] at A8
    have P0 : PlK w.heap.size V6 q6 g7 L (cod f) m f sS cS sJ cJ gC cC := ⟨A6.below b6, ((S6.below b5).below b6).fit, ((J6.below b5).below b6).fit, ((C6.below b5).below b6).fit, (R7.below b5).below b6⟩
    have hq68 : q6 ≠ q8 := by have := A6.lt; omega
    have hg78 : g7 ≠ q8 := by have := R7.1; have := b5.size; omega
    have hq8w : w.heap.size ≤ q8 := by have := B.size; have := b5.size; omega
    replace B := (B.trans (b5.mono B.size)).trans (b6.mono (by have := B.size; have := b5.size; omega))
    have P1 := P0.put A8 hq68 hg78 (.slice none 0 0) (.slice none 0 0) (.int .i64 0)
    have a8 := put3_at A8 (.slice none 0 0) (.slice none 0 0) (.int .i64 0)
    replace B := below_put3 B hq8w (.slice none 0 0) (.slice none 0 0) (.int .i64 0)
    obtain ⟨z0, z1, z2, y0, y1, y2⟩ := A8.open3
    rw [hL]
    clear S6 J6 C6 R7 A6 A8 b5 b6 hL P0
    obtain ⟨V7, hV7⟩ : ∃ V, ((V6.setCell ⟨q8, 0, none⟩ (.slice none 0 0)).setCell ⟨q8, 1, none⟩ (.slice none 0 0)).setCell ⟨q8, 2, none⟩ (.int .i64 0) = V := ⟨_, rfl⟩
    rw [hV7] at P1 a8 B
    have K0 : Lk w.heap.size q8 V7 (.slice none 0 0) (.slice none 0 0) 0 (fun _ => 0) 0 (fun _ => 0) 0 := ⟨a8, .inl ⟨rfl, rfl⟩, .inl ⟨rfl, rfl⟩, hq8w⟩
    go_wp2_with fail
    clear hV5 hV6 hV7 hq6 hq8 hsz4 h43 hg7x hwx hg7 hc7m hc7 z0 z1 z2 y0 y1 y2 a8
    go_loopw [9] (fun s wr => ∃ i : Nat, i ≤ m ∧ (100 < m → i = 0) ∧ s = .int .i64 (i : Int) ∧ ∃ vS vJ, Lk w.heap.size q8 wr vS vJ (ply f i).n (ply f i).f (ply f i).m (ply f i).g (ply f i).T ∧ PlK w.heap.size wr q6 g7 L (cod f) m f sS cS sJ cJ gC cC ∧ Below w.heap.size w wr) (fun s _ => m - (intOf s).toNat)
    case atStart => exact ⟨0, Nat.zero_le _, fun _ => rfl, rfl, _, _, K0, P1, B⟩
    case round =>
      clear K0 P1 B
      obtain ⟨i, hi, hi0, rfl, vS, vJ, K, P, B⟩ := hrel
      have hok : LbOk L.n L.f L.m L.g L.T := by rw [← HL.out]; exact ply_ok f m
      have hLn : L.n ≤ 1048576 := by have := hok.1.1; omega
      have hLm : L.m ≤ 1048576 := by have := hok.2.1.1; omega
      have HO : Hid (LbOk L.n L.f L.m L.g L.T) := hok
      clear hok
      by_cases h100 : 100 < m
      · have h100' : (100 : Int) < (m : Int) := by omega
        obtain rfl : i = 0 := hi0 h100
        have hlt' : ((0 : Nat) : Int) < (m : Int) := by omega
        obtain ⟨z0, z1, z2, -⟩ := P.bx.open3
        have hcJ : L.m ≤ cJ := by
          obtain ⟨a', c', e, hh, -⟩ := P.J.ls
          simp only [Value.slice.injEq, true_and] at e
          omega
        go_wp2_with fail
        refine (implLabOk_any (ark_ls P.S) hLn (ark_ls P.J) hLm hcJ true (show _ ↔ _ from ⟨fun _ => HO.out, fun _ => rfl⟩)).mono ?_
        rintro e w7 ⟨rfl, bb⟩
        replace B := B.trans (bb.mono B.size)
        go_wp2
        go_ret
        exact ⟨rfl, B⟩
      have h100' : ¬ (100 : Int) < (m : Int) := by omega
      by_cases hlt : i < m
      · have hlt' : (i : Int) < (m : Int) := by omega
        obtain ⟨p, ys, j, yj, hst⟩ := stp_is (ply f i) (f (i * 4)) (f (i * 4 + 1)) (f (i * 4 + 2)) (f (i * 4 + 3))
        have hki : LbOk (ply f i).n (ply f i).f (ply f i).m (ply f i).g (ply f i).T := ply_ok f i
        have hin : (ply f i).n ≤ 1048576 := by have := hki.1.1; omega
        have him : (ply f i).m ≤ 1048576 := by have := hki.2.1.1; omega
        clear hki
        obtain ⟨tS0, dS0, rfl, -, -⟩ := K.S.ls
        obtain ⟨tJ0, dJ0, rfl, hcJ0, -⟩ := K.J.ls
        obtain ⟨x, hx⟩ : ∃ X, stp (ply f i) (f (i * 4)) (f (i * 4 + 1)) (f (i * 4 + 2)) (f (i * 4 + 3)) = X := ⟨_, rfl⟩
        rw [hx] at hst
        have HX : Hid (ToldD (ply f i).n (ply f i).f (ply f i).m (ply f i).g (ply f i).T (f (i * 4)) (f (i * 4 + 1)) (f (i * 4 + 2)) (f (i * 4 + 3)) p ys j yj x) := hst
        have DO := fun w' (l : Ls 3 w' tS0 (ply f i).n (ply f i).f) (k : Ls 4 w' tJ0 (ply f i).m (ply f i).g) => implLabDo_any (d := dS0) (c := dJ0) (f (i * 4)) (f (i * 4 + 1)) (f (i * 4 + 2)) (f (i * 4 + 3)) l k (ark_c K.S) (ark_c K.J) hin him hcJ0 HX
        have HP : Hid (ply f (i + 1) = x.2) := by show _ = _; rw [ply, hx]
        have HC : Hid (cod f i = x.1) := by show _ = _; rw [cod, hx]
        clear hx hst
        have R := P.R
        go_wp2_with fail
        go_cut [10, 11] from 51 to 60 (fun s7 s8 wc => CutL x wr s7 s8 wc)
        case first =>
          obtain ⟨u0, hu0, bb⟩ : ∃ uu, wr.drew = uu ∧ Below wr.heap.size wr uu := ⟨_, rfl, (Below.refl _ _).drew⟩
          replace R := R.below bb
          have hbW := bb
          have hlW := bb.size
          have L0 := K.below bb
          have m0 := L0.bx
          have R0 := R
          clear bb
          refine wp_region_held_drew (S := Kb u0) (by kernel_rfl) (by rw [hu0]; exact Below.refl _ _) (fun hHeld => ?_)
          rw [hu0] at hHeld ⊢
          clear hu0
          have bu : Kb u0 u0 := Below.refl _ _
          change wpAnyH _ _ _ _ _ 12 #[false, false, false, false, false, false, false, false, false, false, false, false] _ _
          refine wpAnyH_take (i := 0) (v := .agg #[.slice tS0 ((ply f i).n) dS0, .slice tJ0 ((ply f i).m) dJ0, .int .i64 ((ply f i).T)]) rfl (by kernel_rfl) (by kernel_rfl) (by kernel_rfl) (fun _ _ _ h => h) (Or.inl ⟨by kernel_rfl, ?_⟩) hHeld ?_
          · intro w' hSw; obtain ⟨z0, z1, z2, -⟩ := (m0.below hSw).open3; go_simp
          try simp only [Act.put, List.setIfInBounds_toArray, List.set_cons_zero, List.set_cons_succ, List.getElem_toArray, List.getElem_cons_zero]
          refine wpAnyH_take (i := 1) (v := .slice ((some ⟨g7, 0, none⟩)) m c7) rfl (by kernel_rfl) (by kernel_rfl) (by kernel_rfl) (fun _ _ _ h => h) (Or.inl ⟨by kernel_rfl, ?_⟩) hHeld ?_
          · intro w' hSw; go_simp
          try simp only [Act.put, List.setIfInBounds_toArray, List.set_cons_zero, List.set_cons_succ, List.getElem_toArray, List.getElem_cons_succ, List.getElem_cons_zero]
          refine wpAnyH_take (i := 2) (v := .int .i64 ((i : Int))) rfl (by kernel_rfl) (by kernel_rfl) (by kernel_rfl) (fun _ _ _ h => h) (Or.inl ⟨by kernel_rfl, ?_⟩) hHeld ?_
          · intro w' hSw; go_simp
          try simp only [Act.put, List.setIfInBounds_toArray, List.set_cons_zero, List.set_cons_succ, List.getElem_toArray, List.getElem_cons_succ, List.getElem_cons_zero]
          refine wpAnyH_take (i := 3) (v := .pointer (some ⟨g7, i * 4, none⟩)) rfl (by kernel_rfl) (by kernel_rfl) (by kernel_rfl) (fun _ _ _ h => h) (Or.inl ⟨by kernel_rfl, ?_⟩) hHeld ?_
          · intro w' hSw; go_simp
          try simp only [Act.put, List.setIfInBounds_toArray, List.set_cons_zero, List.set_cons_succ, List.getElem_toArray, List.getElem_cons_succ, List.getElem_cons_zero]
          refine wpAnyH_take (i := 4) (v := deedV (f (i * 4)) (f (i * 4 + 1)) (f (i * 4 + 2)) (f (i * 4 + 3))) rfl (by kernel_rfl) (by kernel_rfl) (by kernel_rfl) (fun _ _ _ h => h) (Or.inl ⟨by kernel_rfl, ?_⟩) hHeld ?_
          · intro w' hSw; obtain ⟨z0, z1, z2, z3⟩ := Deed.open (R0.below hSw) i hlt; go_simp
          try simp only [Act.put, List.setIfInBounds_toArray, List.set_cons_zero, List.set_cons_succ, List.getElem_toArray, List.getElem_cons_succ, List.getElem_cons_zero]
          refine wpAnyH_ready (rs := [5, 9]) (by kernel_rfl) (by simp) ?_
          refine AllReadyH.cons rfl (fun KK hK' => ?_) (AllReadyH.cons rfl (fun KK hK' => ?_) AllReadyH.nil)
          · go_simp
            have hlo := bu.size
            refine (DO _ ((ark_ls L0.S).below bu) ((ark_ls L0.J).below bu)).mono ?_
            rintro e u1 ⟨vT, vK, rfl, OS, OJ, bb⟩
            replace bu : Kb u0 u1 := bu.trans (bb.mono bu.size)
            clear bb
            replace OS := OS.wide hlo (Nat.le_refl _)
            replace OJ := OJ.wide hlo (Nat.le_refl _)
            clear hlo
            obtain ⟨tS, dS, rfl, -, -⟩ := OS.ls
            obtain ⟨tJ, dJ, rfl, -, -⟩ := OJ.ls
            try go_wp2_with fail
            clear hHeld
            refine hK'.out _ _ (bu) (fun hHeld => ?_)
            clear hK' KK
            try simp only [List.setIfInBounds_toArray, List.set_cons_zero, List.set_cons_succ]
            refine wpAnyH_take (i := 6) (v := .tuple #[labV (.slice tS x.2.n dS) (.slice tJ x.2.m dJ) x.2.T, .int .i64 x.1]) rfl (by kernel_rfl) (by kernel_rfl) (by kernel_rfl) (fun _ _ _ h => h) (Or.inl ⟨by kernel_rfl, ?_⟩) hHeld ?_
            · intro w' hSw; go_simp
            try simp only [Act.put, List.setIfInBounds_toArray, List.set_cons_zero, List.set_cons_succ, List.getElem_toArray, List.getElem_cons_succ, List.getElem_cons_zero]
            refine wpAnyH_take (i := 7) (v := labV (.slice tS x.2.n dS) (.slice tJ x.2.m dJ) x.2.T) rfl (by kernel_rfl) (by kernel_rfl) (by kernel_rfl) (fun _ _ _ h => h) (Or.inl ⟨by kernel_rfl, ?_⟩) hHeld ?_
            · intro w' hSw; go_simp
            try simp only [Act.put, List.setIfInBounds_toArray, List.set_cons_zero, List.set_cons_succ, List.getElem_toArray, List.getElem_cons_succ, List.getElem_cons_zero]
            refine wpAnyH_take (i := 8) (v := .int .i64 (x.1)) rfl (by kernel_rfl) (by kernel_rfl) (by kernel_rfl) (fun _ _ _ h => h) (Or.inl ⟨by kernel_rfl, ?_⟩) hHeld ?_
            · intro w' hSw; go_simp
            try simp only [Act.put, List.setIfInBounds_toArray, List.set_cons_zero, List.set_cons_succ, List.getElem_toArray, List.getElem_cons_succ, List.getElem_cons_zero]
            refine wpAnyH_ready (rs := [9]) (by kernel_rfl) (by simp) ?_
            refine AllReadyH.cons rfl (fun KK hK' => ?_) AllReadyH.nil
            go_simp
            obtain ⟨u2, h6, G6, bb, -⟩ := boxed u1 27 #[.slice none 0 0, .slice none 0 0, .int .i64 0]
            rw [h6]
            clear h6
            obtain ⟨g6, hg6⟩ : ∃ q, u1.heap.size = q := ⟨_, rfl⟩
            rw [hg6] at G6 ⊢
            have hgu : u0.heap.size ≤ g6 := by have := bu.size; omega
            clear hg6
            replace OS := OS.below bb
            replace OJ := OJ.below bb
            replace bu : Kb u0 u2 := bu.trans (bb.mono bu.size)
            clear bb
            clear hHeld
            refine hK'.out _ _ (bu) (fun hHeld => ?_)
            clear hK' KK
            try simp only [List.setIfInBounds_toArray, List.set_cons_zero, List.set_cons_succ]
            refine wpAnyH_ready (rs := [10]) (by kernel_rfl) (by simp) ?_
            refine AllReadyH.cons rfl (fun KK hK' => ?_) AllReadyH.nil
            obtain ⟨y0, y1, y2, y3, y4, y5⟩ := G6.open3
            go_simp
            have G7 := put3_at G6 (.slice tS x.2.n dS) (.slice tJ x.2.m dJ) (.int .i64 x.2.T)
            replace OS := (OS.only (put3_only u2 g6 (.slice tS x.2.n dS) (.slice tJ x.2.m dJ) (.int .i64 x.2.T)) (apart_box (OS.box G6 (by decide)))).fit
            replace OJ := (OJ.only (put3_only u2 g6 (.slice tS x.2.n dS) (.slice tJ x.2.m dJ) (.int .i64 x.2.T)) (apart_box (OJ.box G6 (by decide)))).fit
            replace bu : Kb u0 (((u2.setCell ⟨g6, 0, none⟩ (.slice tS x.2.n dS)).setCell ⟨g6, 1, none⟩ (.slice tJ x.2.m dJ)).setCell ⟨g6, 2, none⟩ (.int .i64 x.2.T)) := below_put3 bu hgu _ _ _
            clear G6
            obtain ⟨u3, hv⟩ : ∃ V, ((u2.setCell ⟨g6, 0, none⟩ (.slice tS x.2.n dS)).setCell ⟨g6, 1, none⟩ (.slice tJ x.2.m dJ)).setCell ⟨g6, 2, none⟩ (.int .i64 x.2.T) = V := ⟨_, rfl⟩
            rw [hv] at G7 OS OJ bu ⊢
            clear hv y0 y1 y2 y3 y4 y5
            clear hHeld
            refine hK'.out _ _ (bu) (fun hHeld => ?_)
            clear hK' KK
            try simp only [List.setIfInBounds_toArray, List.set_cons_zero, List.set_cons_succ]
            refine wpAnyH_take (i := 11) (v := .int .i64 (x.1)) rfl (by kernel_rfl) (by kernel_rfl) (by kernel_rfl) (fun _ _ _ h => h) (Or.inl ⟨by kernel_rfl, ?_⟩) hHeld ?_
            · intro w' hSw; go_simp
            try simp only [Act.put, List.setIfInBounds_toArray, List.set_cons_zero, List.set_cons_succ, List.getElem_toArray, List.getElem_cons_succ, List.getElem_cons_zero]
            refine wpAnyH_done (by kernel_rfl) ?_ _
            clear hHeld
            go_wp2_with fail
            go_meet
            case rel => exact ⟨g6, tS, dS, tJ, dJ, rfl, rfl, G7, OS.wide hlW (Nat.le_refl _), OJ.wide hlW (Nat.le_refl _), hbW.trans (Below.mono bu hlW)⟩
          · go_simp
            obtain ⟨u1, h6, G6, bb, -⟩ := boxed u0 27 #[.slice none 0 0, .slice none 0 0, .int .i64 0]
            rw [h6]
            clear h6
            obtain ⟨g6, hg6⟩ : ∃ q, u0.heap.size = q := ⟨_, rfl⟩
            rw [hg6] at G6 ⊢
            have hgu : u0.heap.size ≤ g6 := by have := bu.size; omega
            clear hg6
            replace bu : Kb u0 u1 := bu.trans (bb.mono bu.size)
            clear bb
            clear hHeld
            refine hK'.out _ _ (bu) (fun hHeld => ?_)
            clear hK' KK
            try simp only [List.setIfInBounds_toArray, List.set_cons_zero, List.set_cons_succ]
            refine wpAnyH_ready (rs := [5]) (by kernel_rfl) (by simp) ?_
            refine AllReadyH.cons rfl (fun KK hK' => ?_) AllReadyH.nil
            go_simp
            have hlo := bu.size
            refine (DO _ ((ark_ls L0.S).below bu) ((ark_ls L0.J).below bu)).mono ?_
            rintro e u2 ⟨vT, vK, rfl, OS, OJ, bb⟩
            replace G6 := G6.below bb
            replace bu : Kb u0 u2 := bu.trans (bb.mono bu.size)
            clear bb
            replace OS := OS.wide hlo (Nat.le_refl _)
            replace OJ := OJ.wide hlo (Nat.le_refl _)
            clear hlo
            obtain ⟨tS, dS, rfl, -, -⟩ := OS.ls
            obtain ⟨tJ, dJ, rfl, -, -⟩ := OJ.ls
            try go_wp2_with fail
            clear hHeld
            refine hK'.out _ _ (bu) (fun hHeld => ?_)
            clear hK' KK
            try simp only [List.setIfInBounds_toArray, List.set_cons_zero, List.set_cons_succ]
            refine wpAnyH_take (i := 6) (v := .tuple #[labV (.slice tS x.2.n dS) (.slice tJ x.2.m dJ) x.2.T, .int .i64 x.1]) rfl (by kernel_rfl) (by kernel_rfl) (by kernel_rfl) (fun _ _ _ h => h) (Or.inl ⟨by kernel_rfl, ?_⟩) hHeld ?_
            · intro w' hSw; go_simp
            try simp only [Act.put, List.setIfInBounds_toArray, List.set_cons_zero, List.set_cons_succ, List.getElem_toArray, List.getElem_cons_succ, List.getElem_cons_zero]
            refine wpAnyH_take (i := 7) (v := labV (.slice tS x.2.n dS) (.slice tJ x.2.m dJ) x.2.T) rfl (by kernel_rfl) (by kernel_rfl) (by kernel_rfl) (fun _ _ _ h => h) (Or.inl ⟨by kernel_rfl, ?_⟩) hHeld ?_
            · intro w' hSw; go_simp
            try simp only [Act.put, List.setIfInBounds_toArray, List.set_cons_zero, List.set_cons_succ, List.getElem_toArray, List.getElem_cons_succ, List.getElem_cons_zero]
            refine wpAnyH_take (i := 8) (v := .int .i64 (x.1)) rfl (by kernel_rfl) (by kernel_rfl) (by kernel_rfl) (fun _ _ _ h => h) (Or.inl ⟨by kernel_rfl, ?_⟩) hHeld ?_
            · intro w' hSw; go_simp
            try simp only [Act.put, List.setIfInBounds_toArray, List.set_cons_zero, List.set_cons_succ, List.getElem_toArray, List.getElem_cons_succ, List.getElem_cons_zero]
            refine wpAnyH_ready (rs := [10]) (by kernel_rfl) (by simp) ?_
            refine AllReadyH.cons rfl (fun KK hK' => ?_) AllReadyH.nil
            obtain ⟨y0, y1, y2, y3, y4, y5⟩ := G6.open3
            go_simp
            have G7 := put3_at G6 (.slice tS x.2.n dS) (.slice tJ x.2.m dJ) (.int .i64 x.2.T)
            replace OS := (OS.only (put3_only u2 g6 (.slice tS x.2.n dS) (.slice tJ x.2.m dJ) (.int .i64 x.2.T)) (apart_box (OS.box G6 (by decide)))).fit
            replace OJ := (OJ.only (put3_only u2 g6 (.slice tS x.2.n dS) (.slice tJ x.2.m dJ) (.int .i64 x.2.T)) (apart_box (OJ.box G6 (by decide)))).fit
            replace bu : Kb u0 (((u2.setCell ⟨g6, 0, none⟩ (.slice tS x.2.n dS)).setCell ⟨g6, 1, none⟩ (.slice tJ x.2.m dJ)).setCell ⟨g6, 2, none⟩ (.int .i64 x.2.T)) := below_put3 bu hgu _ _ _
            clear G6
            obtain ⟨u3, hv⟩ : ∃ V, ((u2.setCell ⟨g6, 0, none⟩ (.slice tS x.2.n dS)).setCell ⟨g6, 1, none⟩ (.slice tJ x.2.m dJ)).setCell ⟨g6, 2, none⟩ (.int .i64 x.2.T) = V := ⟨_, rfl⟩
            rw [hv] at G7 OS OJ bu ⊢
            clear hv y0 y1 y2 y3 y4 y5
            clear hHeld
            refine hK'.out _ _ (bu) (fun hHeld => ?_)
            clear hK' KK
            try simp only [List.setIfInBounds_toArray, List.set_cons_zero, List.set_cons_succ]
            refine wpAnyH_take (i := 11) (v := .int .i64 (x.1)) rfl (by kernel_rfl) (by kernel_rfl) (by kernel_rfl) (fun _ _ _ h => h) (Or.inl ⟨by kernel_rfl, ?_⟩) hHeld ?_
            · intro w' hSw; go_simp
            try simp only [Act.put, List.setIfInBounds_toArray, List.set_cons_zero, List.set_cons_succ, List.getElem_toArray, List.getElem_cons_succ, List.getElem_cons_zero]
            refine wpAnyH_done (by kernel_rfl) ?_ _
            clear hHeld
            go_wp2_with fail
            go_meet
            case rel => exact ⟨g6, tS, dS, tJ, dJ, rfl, rfl, G7, OS.wide hlW (Nat.le_refl _), OJ.wide hlW (Nat.le_refl _), hbW.trans (Below.mono bu hlW)⟩
        case rest =>
          obtain ⟨g6, tS, dS, tJ, dJ, rfl, rfl, A6, S6, J6, bb⟩ := hcut
          rename World => v1
          replace B := B.trans (bb.mono B.size)
          replace P := P.below bb
          have hrw := K.lt
          have bx := K.bx.below bb
          have S6' := S6.wide hrw (Nat.le_refl _)
          have J6' := J6.wide hrw (Nat.le_refl _)
          clear K S6 J6 bb DO R
          obtain ⟨x0, x1, x2, -⟩ := A6.open3
          obtain ⟨y0, y1, y2, f0, f1, f2⟩ := bx.open3
          have U := put3_only v1 q8 (.slice tS x.2.n dS) (.slice tJ x.2.m dJ) (.int .i64 x.2.T)
          have L2 : Lk w.heap.size q8 _ (.slice tS x.2.n dS) (.slice tJ x.2.m dJ) x.2.n x.2.f x.2.m x.2.g x.2.T := ⟨put3_at bx (.slice tS x.2.n dS) (.slice tJ x.2.m dJ) (.int .i64 x.2.T), (S6'.only U (apart_box (S6'.box bx (by decide)))).fit, (J6'.only U (apart_box (J6'.box bx (by decide)))).fit, hq8w⟩
          have P2 := P.put bx hq68 hg78 (.slice tS x.2.n dS) (.slice tJ x.2.m dJ) (.int .i64 x.2.T)
          have B2 := below_put3 B hq8w (.slice tS x.2.n dS) (.slice tJ x.2.m dJ) (.int .i64 x.2.T)
          have cC0 : v1.cell? ⟨gC, i, none⟩ = some (.int .i64 x.1) := by
            rcases ark_ls P.C with h | ⟨g, e, r⟩
            · omega
            · cases e
              rw [← HC.out]
              exact r.2 i (by omega)
          obtain ⟨u2, hu2⟩ : ∃ u, ((v1.setCell ⟨q8, 0, none⟩ (.slice tS x.2.n dS)).setCell ⟨q8, 1, none⟩ (.slice tJ x.2.m dJ)).setCell ⟨q8, 2, none⟩ (.int .i64 x.2.T) = u := ⟨_, rfl⟩
          rw [hu2] at L2 P2 B2
          rw [← HP.out] at L2
          clear U S6' J6' P B
          go_wp2
          exact ⟨⟨i + 1, by omega, fun h => by omega, by go_num, _, _, L2, P2, B2⟩, by simp [intOf]; omega⟩
      · have hlt' : ¬ (i : Int) < (m : Int) := by omega
        obtain rfl : i = m := by omega
        rw [HL.out] at K
        obtain ⟨tS, dS, rfl, -, -⟩ := K.S.ls
        obtain ⟨tJ, dJ, rfl, -, -⟩ := K.J.ls
        obtain ⟨z0, z1, z2, -⟩ := P.bx.open3
        obtain ⟨y0, y1, y2, -⟩ := K.bx.open3
        go_wp2_with fail
        clear z0 z1 z2 y0 y1 y2
        go_loopw [12] (fun s wv => ∃ k : Nat, k ≤ L.n ∧ s = .int .i64 (k : Int) ∧ Lk w.heap.size q8 wv (.slice tS L.n dS) (.slice tJ L.m dJ) L.n L.f L.m L.g L.T ∧ PlK w.heap.size wv q6 g7 L (cod f) i f sS cS sJ cJ gC cC ∧ Below w.heap.size w wv) (fun s _ => L.n - (intOf s).toNat)
        case atStart => exact ⟨0, Nat.zero_le _, rfl, K, P, B⟩
        case round =>
          clear K P B
          obtain ⟨k, hk, rfl, K, P, B⟩ := hrel
          rename World => wv
          by_cases hkn : k < L.n
          · have hkn' : (k : Int) < (L.n : Int) := by omega
            obtain ⟨ga, rfl, Ra⟩ := (ark_ls P.S).some hkn
            obtain ⟨gb, rfl, Rb⟩ := (ark_ls K.S).some hkn
            obtain ⟨z0, z1, z2, -⟩ := P.bx.open3
            go_wp2_with fail
            clear z0 z1 z2
            obtain ⟨u0, hu0, bb⟩ : ∃ uu, wv.drew = uu ∧ Below wv.heap.size wv uu := ⟨_, rfl, (Below.refl _ _).drew⟩
            replace K := K.below bb
            replace P := P.below bb
            replace Ra := Ra.below bb
            replace Rb := Rb.below bb
            replace B := B.trans (bb.mono B.size)
            have m6 := P.bx
            have m8 := K.bx
            have Ra0 := Ra
            have Rb0 := Rb
            clear bb
            refine wp_region_held_drew (S := Kb u0) (by kernel_rfl) (by rw [hu0]; exact Below.refl _ _) (fun hHeld => ?_)
            rw [hu0] at hHeld ⊢
            clear hu0
            have bu : Kb u0 u0 := Below.refl _ _
            change wpAnyH _ _ _ _ _ 11 #[false, false, false, false, false, false, false, false, false, false, false] _ _
            refine wpAnyH_take (i := 0) (v := .pointer (some ⟨q6, 0, none⟩)) rfl (by kernel_rfl) (by kernel_rfl) (by kernel_rfl) (fun _ _ _ h => h) (Or.inl ⟨by kernel_rfl, ?_⟩) hHeld ?_
            · intro w' hSw; go_simp
            try simp only [Act.put, List.setIfInBounds_toArray, List.set_cons_zero, List.set_cons_succ, List.getElem_toArray, List.getElem_cons_zero]
            refine wpAnyH_take (i := 1) (v := .slice ((some ⟨ga, 0, none⟩)) L.n cS) rfl (by kernel_rfl) (by kernel_rfl) (by kernel_rfl) (fun _ _ _ h => h) (Or.inl ⟨by kernel_rfl, ?_⟩) hHeld ?_
            · intro w' hSw; obtain ⟨z0, z1, z2, -⟩ := (m6.below hSw).open3; go_simp
            try simp only [Act.put, List.setIfInBounds_toArray, List.set_cons_zero, List.set_cons_succ, List.getElem_toArray, List.getElem_cons_succ, List.getElem_cons_zero]
            refine wpAnyH_take (i := 2) (v := .int .i64 ((k : Int))) rfl (by kernel_rfl) (by kernel_rfl) (by kernel_rfl) (fun _ _ _ h => h) (Or.inl ⟨by kernel_rfl, ?_⟩) hHeld ?_
            · intro w' hSw; go_simp
            try simp only [Act.put, List.setIfInBounds_toArray, List.set_cons_zero, List.set_cons_succ, List.getElem_toArray, List.getElem_cons_succ, List.getElem_cons_zero]
            refine wpAnyH_take (i := 3) (v := .pointer (some ⟨ga, k * 3, none⟩)) rfl (by kernel_rfl) (by kernel_rfl) (by kernel_rfl) (fun _ _ _ h => h) (Or.inl ⟨by kernel_rfl, ?_⟩) hHeld ?_
            · intro w' hSw; go_simp
            try simp only [Act.put, List.setIfInBounds_toArray, List.set_cons_zero, List.set_cons_succ, List.getElem_toArray, List.getElem_cons_succ, List.getElem_cons_zero]
            refine wpAnyH_take (i := 4) (v := sampleV (L.f (k * 3)) (L.f (k * 3 + 1)) (L.f (k * 3 + 2))) rfl (by kernel_rfl) (by kernel_rfl) (by kernel_rfl) (fun _ _ _ h => h) (Or.inl ⟨by kernel_rfl, ?_⟩) hHeld ?_
            · intro w' hSw; obtain ⟨x0, x1, x2⟩ := Sample.open (Ra0.below hSw) k hkn; go_simp
            try simp only [Act.put, List.setIfInBounds_toArray, List.set_cons_zero, List.set_cons_succ, List.getElem_toArray, List.getElem_cons_succ, List.getElem_cons_zero]
            refine wpAnyH_take (i := 5) (v := .pointer (some ⟨q8, 0, none⟩)) rfl (by kernel_rfl) (by kernel_rfl) (by kernel_rfl) (fun _ _ _ h => h) (Or.inl ⟨by kernel_rfl, ?_⟩) hHeld ?_
            · intro w' hSw; go_simp
            try simp only [Act.put, List.setIfInBounds_toArray, List.set_cons_zero, List.set_cons_succ, List.getElem_toArray, List.getElem_cons_succ, List.getElem_cons_zero]
            refine wpAnyH_take (i := 6) (v := .slice ((some ⟨gb, 0, none⟩)) L.n dS) rfl (by kernel_rfl) (by kernel_rfl) (by kernel_rfl) (fun _ _ _ h => h) (Or.inl ⟨by kernel_rfl, ?_⟩) hHeld ?_
            · intro w' hSw; obtain ⟨z0, z1, z2, -⟩ := (m8.below hSw).open3; go_simp
            try simp only [Act.put, List.setIfInBounds_toArray, List.set_cons_zero, List.set_cons_succ, List.getElem_toArray, List.getElem_cons_succ, List.getElem_cons_zero]
            refine wpAnyH_take (i := 7) (v := .int .i64 ((k : Int))) rfl (by kernel_rfl) (by kernel_rfl) (by kernel_rfl) (fun _ _ _ h => h) (Or.inl ⟨by kernel_rfl, ?_⟩) hHeld ?_
            · intro w' hSw; go_simp
            try simp only [Act.put, List.setIfInBounds_toArray, List.set_cons_zero, List.set_cons_succ, List.getElem_toArray, List.getElem_cons_succ, List.getElem_cons_zero]
            refine wpAnyH_take (i := 8) (v := .pointer (some ⟨gb, k * 3, none⟩)) rfl (by kernel_rfl) (by kernel_rfl) (by kernel_rfl) (fun _ _ _ h => h) (Or.inl ⟨by kernel_rfl, ?_⟩) hHeld ?_
            · intro w' hSw; go_simp
            try simp only [Act.put, List.setIfInBounds_toArray, List.set_cons_zero, List.set_cons_succ, List.getElem_toArray, List.getElem_cons_succ, List.getElem_cons_zero]
            refine wpAnyH_take (i := 9) (v := sampleV (L.f (k * 3)) (L.f (k * 3 + 1)) (L.f (k * 3 + 2))) rfl (by kernel_rfl) (by kernel_rfl) (by kernel_rfl) (fun _ _ _ h => h) (Or.inl ⟨by kernel_rfl, ?_⟩) hHeld ?_
            · intro w' hSw; obtain ⟨x0, x1, x2⟩ := Sample.open (Rb0.below hSw) k hkn; go_simp
            try simp only [Act.put, List.setIfInBounds_toArray, List.set_cons_zero, List.set_cons_succ, List.getElem_toArray, List.getElem_cons_succ, List.getElem_cons_zero]
            refine wpAnyH_take (i := 10) (v := .bool false) rfl (by kernel_rfl) (by kernel_rfl) (by kernel_rfl) (fun _ _ _ h => h) (Or.inl ⟨by kernel_rfl, ?_⟩) hHeld ?_
            · intro w' hSw; go_simp
            try simp only [Act.put, List.setIfInBounds_toArray, List.set_cons_zero, List.set_cons_succ, List.getElem_toArray, List.getElem_cons_succ, List.getElem_cons_zero]
            refine wpAnyH_done (by kernel_rfl) ?_ _
            clear hHeld
            go_wp2
            exact ⟨⟨k + 1, by omega, by go_num, K, P, B⟩, by simp [intOf]; omega⟩
          · have hkn' : ¬ (k : Int) < (L.n : Int) := by omega
            obtain ⟨z0, z1, z2, -⟩ := P.bx.open3
            go_wp2_with fail
            clear z0 z1 z2
            go_loopw [13] (fun s wv => ∃ k : Nat, k ≤ L.m ∧ s = .int .i64 (k : Int) ∧ Lk w.heap.size q8 wv (.slice tS L.n dS) (.slice tJ L.m dJ) L.n L.f L.m L.g L.T ∧ PlK w.heap.size wv q6 g7 L (cod f) i f sS cS sJ cJ gC cC ∧ Below w.heap.size w wv) (fun s _ => L.m - (intOf s).toNat)
            case atStart => exact ⟨0, Nat.zero_le _, rfl, K, P, B⟩
            case round =>
              clear K P B
              obtain ⟨k, hk, rfl, K, P, B⟩ := hrel
              rename World => wv
              by_cases hkn : k < L.m
              · have hkn' : (k : Int) < (L.m : Int) := by omega
                obtain ⟨ga, rfl, Ra⟩ := (ark_ls P.J).some hkn
                obtain ⟨gb, rfl, Rb⟩ := (ark_ls K.J).some hkn
                obtain ⟨z0, z1, z2, -⟩ := P.bx.open3
                go_wp2_with fail
                clear z0 z1 z2
                obtain ⟨u0, hu0, bb⟩ : ∃ uu, wv.drew = uu ∧ Below wv.heap.size wv uu := ⟨_, rfl, (Below.refl _ _).drew⟩
                replace K := K.below bb
                replace P := P.below bb
                replace Ra := Ra.below bb
                replace Rb := Rb.below bb
                replace B := B.trans (bb.mono B.size)
                have m6 := P.bx
                have m8 := K.bx
                have Ra0 := Ra
                have Rb0 := Rb
                clear bb
                refine wp_region_held_drew (S := Kb u0) (by kernel_rfl) (by rw [hu0]; exact Below.refl _ _) (fun hHeld => ?_)
                rw [hu0] at hHeld ⊢
                clear hu0
                have bu : Kb u0 u0 := Below.refl _ _
                change wpAnyH _ _ _ _ _ 11 #[false, false, false, false, false, false, false, false, false, false, false] _ _
                refine wpAnyH_take (i := 0) (v := .pointer (some ⟨q6, 1, none⟩)) rfl (by kernel_rfl) (by kernel_rfl) (by kernel_rfl) (fun _ _ _ h => h) (Or.inl ⟨by kernel_rfl, ?_⟩) hHeld ?_
                · intro w' hSw; go_simp
                try simp only [Act.put, List.setIfInBounds_toArray, List.set_cons_zero, List.set_cons_succ, List.getElem_toArray, List.getElem_cons_zero]
                refine wpAnyH_take (i := 1) (v := .slice ((some ⟨ga, 0, none⟩)) L.m cJ) rfl (by kernel_rfl) (by kernel_rfl) (by kernel_rfl) (fun _ _ _ h => h) (Or.inl ⟨by kernel_rfl, ?_⟩) hHeld ?_
                · intro w' hSw; obtain ⟨z0, z1, z2, -⟩ := (m6.below hSw).open3; go_simp
                try simp only [Act.put, List.setIfInBounds_toArray, List.set_cons_zero, List.set_cons_succ, List.getElem_toArray, List.getElem_cons_succ, List.getElem_cons_zero]
                refine wpAnyH_take (i := 2) (v := .int .i64 ((k : Int))) rfl (by kernel_rfl) (by kernel_rfl) (by kernel_rfl) (fun _ _ _ h => h) (Or.inl ⟨by kernel_rfl, ?_⟩) hHeld ?_
                · intro w' hSw; go_simp
                try simp only [Act.put, List.setIfInBounds_toArray, List.set_cons_zero, List.set_cons_succ, List.getElem_toArray, List.getElem_cons_succ, List.getElem_cons_zero]
                refine wpAnyH_take (i := 3) (v := .pointer (some ⟨ga, k * 4, none⟩)) rfl (by kernel_rfl) (by kernel_rfl) (by kernel_rfl) (fun _ _ _ h => h) (Or.inl ⟨by kernel_rfl, ?_⟩) hHeld ?_
                · intro w' hSw; go_simp
                try simp only [Act.put, List.setIfInBounds_toArray, List.set_cons_zero, List.set_cons_succ, List.getElem_toArray, List.getElem_cons_succ, List.getElem_cons_zero]
                refine wpAnyH_take (i := 4) (v := jobV (L.g (k * 4)) (L.g (k * 4 + 1)) (L.g (k * 4 + 2)) (L.g (k * 4 + 3))) rfl (by kernel_rfl) (by kernel_rfl) (by kernel_rfl) (fun _ _ _ h => h) (Or.inl ⟨by kernel_rfl, ?_⟩) hHeld ?_
                · intro w' hSw; obtain ⟨x0, x1, x2, x3⟩ := Job.open (Ra0.below hSw) k hkn; go_simp
                try simp only [Act.put, List.setIfInBounds_toArray, List.set_cons_zero, List.set_cons_succ, List.getElem_toArray, List.getElem_cons_succ, List.getElem_cons_zero]
                refine wpAnyH_take (i := 5) (v := .pointer (some ⟨q8, 1, none⟩)) rfl (by kernel_rfl) (by kernel_rfl) (by kernel_rfl) (fun _ _ _ h => h) (Or.inl ⟨by kernel_rfl, ?_⟩) hHeld ?_
                · intro w' hSw; go_simp
                try simp only [Act.put, List.setIfInBounds_toArray, List.set_cons_zero, List.set_cons_succ, List.getElem_toArray, List.getElem_cons_succ, List.getElem_cons_zero]
                refine wpAnyH_take (i := 6) (v := .slice ((some ⟨gb, 0, none⟩)) L.m dJ) rfl (by kernel_rfl) (by kernel_rfl) (by kernel_rfl) (fun _ _ _ h => h) (Or.inl ⟨by kernel_rfl, ?_⟩) hHeld ?_
                · intro w' hSw; obtain ⟨z0, z1, z2, -⟩ := (m8.below hSw).open3; go_simp
                try simp only [Act.put, List.setIfInBounds_toArray, List.set_cons_zero, List.set_cons_succ, List.getElem_toArray, List.getElem_cons_succ, List.getElem_cons_zero]
                refine wpAnyH_take (i := 7) (v := .int .i64 ((k : Int))) rfl (by kernel_rfl) (by kernel_rfl) (by kernel_rfl) (fun _ _ _ h => h) (Or.inl ⟨by kernel_rfl, ?_⟩) hHeld ?_
                · intro w' hSw; go_simp
                try simp only [Act.put, List.setIfInBounds_toArray, List.set_cons_zero, List.set_cons_succ, List.getElem_toArray, List.getElem_cons_succ, List.getElem_cons_zero]
                refine wpAnyH_take (i := 8) (v := .pointer (some ⟨gb, k * 4, none⟩)) rfl (by kernel_rfl) (by kernel_rfl) (by kernel_rfl) (fun _ _ _ h => h) (Or.inl ⟨by kernel_rfl, ?_⟩) hHeld ?_
                · intro w' hSw; go_simp
                try simp only [Act.put, List.setIfInBounds_toArray, List.set_cons_zero, List.set_cons_succ, List.getElem_toArray, List.getElem_cons_succ, List.getElem_cons_zero]
                refine wpAnyH_take (i := 9) (v := jobV (L.g (k * 4)) (L.g (k * 4 + 1)) (L.g (k * 4 + 2)) (L.g (k * 4 + 3))) rfl (by kernel_rfl) (by kernel_rfl) (by kernel_rfl) (fun _ _ _ h => h) (Or.inl ⟨by kernel_rfl, ?_⟩) hHeld ?_
                · intro w' hSw; obtain ⟨x0, x1, x2, x3⟩ := Job.open (Rb0.below hSw) k hkn; go_simp
                try simp only [Act.put, List.setIfInBounds_toArray, List.set_cons_zero, List.set_cons_succ, List.getElem_toArray, List.getElem_cons_succ, List.getElem_cons_zero]
                refine wpAnyH_take (i := 10) (v := .bool false) rfl (by kernel_rfl) (by kernel_rfl) (by kernel_rfl) (fun _ _ _ h => h) (Or.inl ⟨by kernel_rfl, ?_⟩) hHeld ?_
                · intro w' hSw; go_simp
                try simp only [Act.put, List.setIfInBounds_toArray, List.set_cons_zero, List.set_cons_succ, List.getElem_toArray, List.getElem_cons_succ, List.getElem_cons_zero]
                refine wpAnyH_done (by kernel_rfl) ?_ _
                clear hHeld
                go_wp2
                exact ⟨⟨k + 1, by omega, by go_num, K, P, B⟩, by simp [intOf]; omega⟩
              · have hkn' : ¬ (k : Int) < (L.m : Int) := by omega
                obtain ⟨z0, z1, z2, -⟩ := P.bx.open3
                go_wp2
                go_ret
                exact ⟨rfl, B⟩
end Go.Proofs.Ytnjnffemidaopaa
