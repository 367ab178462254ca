/-
  Deeds played one after another, by the program: walked.
-/
import Derived.Test.YtnjnffemidaopaaL17r
import Derived.Test.YtnjnffemidaopaaL17v
import Derived.Test.YtnjnffemidaopaaQDeed
namespace Go.Proofs.Ytnjnffemidaopaa
open Go.RowKit

theorem told_x (n : Nat) (f : Nat → Int) (m : Nat) (g : Nat → Int) (T K s o a : Int) : ∃ x, ∃ p ys j yj, ToldD n f m g T K s o a p ys j yj x := by
  obtain ⟨p, ys, j, yj, x, h⟩ := told_is n f m g T K s o a
  exact ⟨x, p, ys, j, yj, h⟩
/-- What a deed tells of a lab. -/
noncomputable def stp (L : LS) (K s o a : Int) : Int × LS := Classical.choose (told_x L.n L.f L.m L.g L.T K s o a)
theorem stp_is (L : LS) (K s o a : Int) : ∃ p ys j yj, ToldD L.n L.f L.m L.g L.T K s o a p ys j yj (stp L K s o a) := Classical.choose_spec (told_x L.n L.f L.m L.g L.T K s o a)
def okL (L : LS) : Prop := LbOk L.n L.f L.m L.g L.T
theorem stp_ok {L : LS} (h : okL L) (K s o a : Int) : okL (stp L K s o a).2 ∧ ∃ p ys j yj, Fnd L.n L.f L.m L.g s o p ys j yj ∧ stp L K s o a = outc L.n L.f L.m L.g L.T K s o a p ys j yj := by
  obtain ⟨p, ys, j, yj, hx⟩ := stp_is L K s o a
  rcases hx with ⟨h1, h2, h3⟩ | ⟨h1, -⟩
  · refine ⟨?_, p, ys, j, yj, h2, h3⟩
    rw [h3]
    exact outc_ok h1 h2
  · exact absurd h h1
theorem noL_ok : okL noL := ⟨⟨Nat.zero_le _, fun _ hi => absurd hi (Nat.not_lt_zero _), fun _ hi => absurd hi (Nat.not_lt_zero _), Nat.zero_le _, Nat.zero_le _⟩, ⟨Nat.zero_le _, fun _ hi => absurd hi (Nat.not_lt_zero _)⟩, rfl⟩
/-- The lab behind the first deeds. -/
noncomputable def ply (d : Nat → Int) : Nat → LS
  | 0 => noL
  | i + 1 => (stp (ply d i) (d (i * 4)) (d (i * 4 + 1)) (d (i * 4 + 2)) (d (i * 4 + 3))).2
/-- The code of deed i. -/
noncomputable def cod (d : Nat → Int) (i : Nat) : Int := (stp (ply d i) (d (i * 4)) (d (i * 4 + 1)) (d (i * 4 + 2)) (d (i * 4 + 3))).1
theorem ply_ok (d : Nat → Int) : ∀ i, okL (ply d i)
  | 0 => noL_ok
  | i + 1 => (stp_ok (ply_ok d i) _ _ _ _).1
/-- How long a list is. -/
def lenV : Value → Nat
  | .slice _ n _ => n
  | _ => 0
/-- What is told of a lab and a list of codes. -/
def PlP (L : LS) (n : Nat) (cs : Nat → Int) (w : World) (e : Ending) (w' : World) : Prop := ∃ vS vJ vC, e = .returned (.tuple #[labV vS vJ L.T, vC]) ∧ ArK 3 37 w' w.heap.size w'.heap.size vS L.n L.f ∧ ArK 4 39 w' w.heap.size w'.heap.size vJ L.m L.g ∧ ArK 1 2 w' w.heap.size w'.heap.size vC n cs ∧ vC ≠ .slice none 0 0 ∧ Below w.heap.size w w'
section
variable {B q : Nat} {w : World} {vS vJ : Value} {n m p j : Nat} {f g : Nat → Int} {T D : Int} {ys yj : Bool}
theorem load_any (W : Wk B q w vS vJ n f m g T D) :
    Calls Try.prog 48 #[.pointer (some ⟨q, 3, none⟩)] w fun e w' => e = .returned (.int .i64 D) ∧ w = w' := by
  obtain ⟨c0, c1, c2, c3, -⟩ := Job.box W.bx
  have h := run_call_load (P := Try.prog) (f := 71) Try.func71 (by kernel_rfl) (by kernel_rfl) (by kernel_rfl) .i64 (by kernel_rfl) (a := ⟨q, 3, none⟩) (x := D) (w := w) c3
  go_enter Try.func48, Try.ntmps48
  go_wp2
  go_ret
  exact ⟨rfl, rfl⟩
theorem one_recs {w : World} {gx : Nat} {x : Int} (h : At 2 w gx #[.int .i64 x]) : Recs 1 w gx 1 (fun _ => x) := by
  refine ⟨h.lt, fun i hi => ?_⟩
  obtain rfl : i = 0 := by omega
  exact h.cell 0 rfl
theorem ArK.ki {w w' : World} {lo hi : Nat} {v : Value} {n : Nat} {c : Nat → Int} (h : ArK 1 2 w lo hi v n c) (k : ∀ q vs, At 2 w q vs → At 2 w' q vs) : ArK 1 2 w' lo hi v n c := by
  refine h.imp id ?_
  rintro ⟨b, d, e, h1, h2, h3, h4, cur, k1, k2⟩
  exact ⟨b, d, e, h1, h2, h3, h4, cur, k _ _ k1, k2⟩
end
set_option maxRecDepth 100000 in
set_option maxHeartbeats 3200000 in
theorem implPlay_any {w : World} {a : Option Addr} {n c : Nat} {d : Nat → Int} (hd : Ls 4 w a n d) (hn : n ≤ 1000) :
    Calls Try.prog 17 #[.slice a n c] w (PlP (ply d n) n (cod d) w) := by
  have hn' : (n : Int) ≤ 1000 := by omega
  have hn2 : ¬ (1000 : Int) < (n : Int) := by omega
  obtain ⟨W1, hW1, A1, B1, -⟩ := boxed w 27 #[.slice none 0 0, .slice none 0 0, .int .i64 0]
  obtain ⟨q1, hq1⟩ : ∃ q, w.heap.size = q := ⟨_, rfl⟩
  rw [hq1] at A1
  obtain ⟨W2, hW2, A2, B2, -⟩ := boxed W1 81 #[.slice none 0 0, .slice none 0 0, .int .i64 0, .int .i64 0]
  obtain ⟨q2, hq2⟩ : ∃ q, W1.heap.size = q := ⟨_, rfl⟩
  rw [hq2] at A2
  obtain ⟨W3, hW3, A3, B3, -⟩ := boxed W2 2 #[]
  obtain ⟨q3, hq3⟩ : ∃ q, W2.heap.size = q := ⟨_, rfl⟩
  rw [hq3] at A3
  have hl1 := A1.lt
  have hl2 := A2.lt
  have BW := (B1.trans (B2.mono B1.size)).trans (B3.mono (by have := B1.size; have := B2.size; omega))
  have hbs : ∀ w, (Instr.buildSlice 42 0 #[]).run Try.prog w = .ok (.slice (some ⟨w.heap.size, 0, none⟩) 0 0) (w.alloc (.cells #[] 2)) := fun _ => by kernel_rfl
  go_enter Try.func17, Try.ntmps17
  go_wp2_with fail
  have hB : w.heap.size ≤ q2 := by have := B1.size; omega
  have hq12 : q1 < q2 := by omega
  have hq1w : w.heap.size ≤ q1 := by omega
  have hq23 : q2 ≤ q3 := by omega
  have A1' := (A1.below B2).below B3
  have A2' := A2.below B3
  have WK0 : Wk q2 q2 W3 (.slice none 0 0) (.slice none 0 0) 0 (fun _ => 0) 0 (fun _ => 0) 0 0 := ⟨A2', .inl ⟨rfl, rfl⟩, .inl ⟨rfl, rfl⟩, Nat.le_refl _⟩
  have CK0 : ArK 1 2 W3 q2 W3.heap.size (.slice (some ⟨q3, 0, none⟩) 0 0) 0 (cod d) := .inr ⟨q3, 0, rfl, hq23, A3.lt, Nat.le_refl _, Nat.zero_le _, #[], A3, rfl, fun i hi => by omega⟩
  clear hW1 hW2 hW3 hq1 hq2 hq3 hbs A2 A2' A3 A1 B1 B2 B3 hl1 hl2
  go_loopw [5] (fun s wr => ∃ i : Nat, i ≤ n ∧ ∃ vS vJ gc cc, s = .slice (some ⟨gc, 0, none⟩) i cc ∧ Wk q2 q2 wr vS vJ (ply d i).n (ply d i).f (ply d i).m (ply d i).g (ply d i).T (i : Int) ∧ ArK 1 2 wr q2 wr.heap.size s i (cod d) ∧ At 27 wr q1 #[.slice none 0 0, .slice none 0 0, .int .i64 0] ∧ Below w.heap.size w wr) (fun s _ => n - lenV s)
  case atStart => exact ⟨0, Nat.zero_le _, _, _, q3, 0, rfl, WK0, CK0, A1', BW⟩
  case round =>
    clear WK0 CK0 A1' BW hq23
    obtain ⟨i, hi, vS, vJ, gc, cc, rfl, W, C, A1, BW⟩ := hrel
    have HL : Hid (LbOk (ply d i).n (ply d i).f (ply d i).m (ply d i).g (ply d i).T) := ply_ok d i
    by_cases hlt : i < n
    · have hlt' : (i : Int) < (n : Int) := by omega
      obtain ⟨gd, rfl, R⟩ := (hd.below BW).some hlt
      obtain ⟨x0, x1, x2, x3⟩ := Deed.open R i hlt
      obtain ⟨-, p, ys, j, yj, hf, hst⟩ := stp_ok (ply_ok d i) (d (i * 4)) (d (i * 4 + 1)) (d (i * 4 + 2)) (d (i * 4 + 3))
      have HF : Hid (Fnd (ply d i).n (ply d i).f (ply d i).m (ply d i).g (d (i * 4 + 1)) (d (i * 4 + 2)) p ys j yj) := hf
      have WO := work_any (d (i * 4)) (d (i * 4 + 1)) (d (i * 4 + 2)) (d (i * 4 + 3)) W (by omega) HL HF
      rw [← hst] at WO
      obtain ⟨X, hX⟩ : ∃ X, stp (ply d i) (d (i * 4)) (d (i * 4 + 1)) (d (i * 4 + 2)) (d (i * 4 + 3)) = X := ⟨_, rfl⟩
      rw [hX] at WO
      have HP : Hid (ply d (i + 1) = X.2) := by show _ = _; rw [ply, hX]
      have HC : Hid (cod d i = X.1) := by show _ = _; rw [cod, hX]
      clear hX hst hf
      go_wp2_with fail
      refine (load_any W).mono ?_
      rintro e u1 ⟨rfl, rfl⟩
      go_wp2_with fail
      refine (load_any W).mono ?_
      rintro e u1 ⟨rfl, rfl⟩
      go_wp2_with fail
      refine WO.mono ?_
      rintro e u2 ⟨vS2, vJ2, rfl, W2, b2⟩
      have C2 := C.ki b2.ki
      have A2 := A1.belowN b2.bel hq12
      have BW2 := BW.trans (b2.bel.mono hB)
      clear WO W C A1 BW b2 x0 x1 x2 x3 R
      obtain ⟨V9, hV9, X9, b9, -⟩ := boxed u2 2 #[.int .i64 X.1]
      obtain ⟨gx, hgx⟩ : ∃ q, u2.heap.size = q := ⟨_, rfl⟩
      have hbs : ∀ w, (Instr.buildSlice 42 1 #[(0, .int .i64 X.1)]).run Try.prog w = .ok (.slice (some ⟨w.heap.size, 0, none⟩) 1 1) (w.alloc (.cells #[.int .i64 X.1] 2)) := fun _ => by kernel_rfl
      go_wp2_with (at_builtin; refine Hid.out (?_ : Hid _))
      have W9 := W2.below b9
      have C9 := C2.below b9
      have A9 := A2.below b9
      have BW9 := BW2.trans (b9.mono BW2.size)
      rw [hgx] at X9
      clear hV9 hgx hbs b9
      refine (?_ : wpList _ _ _ _ _ _)
      refine wpListK_append Try.underlying42 infoI rfl (by omega) (by omega) V9 rfl _ _ rfl rfl C9 rfl (.inr ⟨gx, rfl, one_recs X9⟩) (fun h => by cases h) (by omega) W9.lt ?_
      intro v' u3 C' ho hN
      obtain ⟨gv, cv', rfl, -, -, -, -⟩ := C'.nn (hN (fun h => by cases h))
      have W' : Wk q2 q2 u3 vS2 vJ2 (ply d (i + 1)).n (ply d (i + 1)).f (ply d (i + 1)).m (ply d (i + 1)).g (ply d (i + 1)).T ((i + 1 : Nat) : Int) := by
        rw [HP.out]
        exact ⟨W9.bx.only ho (C9.box W9.bx (by decide)), (W9.S.only ho (C9.apart W9.S (by decide))).fit, (W9.J.only ho (C9.apart W9.J (by decide))).fit, Nat.le_refl _⟩
      have A' := A9.only ho (C9.box A9 (by decide))
      have BW' := ho.belowK C9 hB BW9 (by have := W9.lt; omega)
      have C'' := C'.same (f' := cod d) (fun r hr => by
        unfold cat
        by_cases e : r < i * 1
        · rw [if_pos e]
        · rw [if_neg e, ← HC.out]
          show cod d i = cod d r
          rw [show r = i by omega])
      clear C' ho hN W9 C9 A9 BW9 X9 W2 C2 A2 BW2
      go_wp2
      exact ⟨⟨i + 1, by omega, vS2, vJ2, gv, cv', rfl, W', C'', A', BW'⟩, by simp [lenV]; omega⟩
    · have hlt' : ¬ (i : Int) < (n : Int) := by omega
      obtain rfl : i = n := by omega
      obtain ⟨sS, cS, rfl, -, -⟩ := W.S.ls
      obtain ⟨sJ, cJ, rfl, -, -⟩ := W.J.ls
      go_wp2_with fail
      refine (load_any W).mono ?_
      rintro e u1 ⟨rfl, rfl⟩
      obtain ⟨c0, c1, c2, c3, -⟩ := Job.box W.bx
      obtain ⟨d0, d1, d2, e0, e1, e2⟩ := A1.open3
      go_wp2
      have a7 := put3_at A1 (.slice sS (ply d i).n cS) (.slice sJ (ply d i).m cJ) (.int .i64 (ply d i).T)
      obtain ⟨p0, p1, p2, -⟩ := a7.open3
      refine bodyPost_ret (v := .tuple #[labV (.slice sS (ply d i).n cS) (.slice sJ (ply d i).m cJ) (ply d i).T, .slice (some ⟨gc, 0, none⟩) i cc]) (by simp [results, Try.results17, go_sem, p0, p1, p2]) rfl ?_
      have U := put3_only wr q1 (.slice sS (ply d i).n cS) (.slice sJ (ply d i).m cJ) (.int .i64 (ply d i).T)
      exact ⟨_, _, _, rfl, ((W.S.only U (apart_box (W.S.box A1 (by decide)))).fit).wide hB (Nat.le_refl _), ((W.J.only U (apart_box (W.J.box A1 (by decide)))).fit).wide hB (Nat.le_refl _), ((C.only U (apart_box (C.box A1 (by decide)))).fit).wide hB (Nat.le_refl _), (fun h => by cases h), below_put3 BW hq1w _ _ _⟩
end Go.Proofs.Ytnjnffemidaopaa
