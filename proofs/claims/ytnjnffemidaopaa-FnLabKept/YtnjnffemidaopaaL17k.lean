/-
  A worker's lab; which deeds are right; a sample moved: walked.
-/
import Derived.Test.YtnjnffemidaopaaL17c
import Derived.Test.YtnjnffemidaopaaL17j
import Derived.Test.YtnjnffemidaopaaRDeed
namespace Go.Proofs.Ytnjnffemidaopaa
open Go.RowKit

def dOk (K s o a : Int) : Prop := (1 ≤ K ∧ K ≤ 8) ∧ (1 ≤ s ∧ s ≤ 1000000) ∧ (K = 1 → 0 ≤ a ∧ a ≤ 1000) ∧ (K = 2 → (1 ≤ o ∧ o ≤ 1000000) ∧ (1 ≤ a ∧ a ≤ 1000)) ∧ (K = 6 ∨ K = 7 → 1 ≤ o ∧ o ≤ 1000000)
/-- All that lay below B lies there still, and so do the lists of numbers. -/
structure Bel (B : Nat) (w w' : World) : Prop where
  bel : Below B w w'
  ki : ∀ q vs, At 2 w q vs → At 2 w' q vs
theorem Bel.refl (B : Nat) (w : World) : Bel B w w := ⟨Below.refl _ _, fun _ _ h => h⟩
theorem Bel.trans {B : Nat} {a b c : World} (h : Bel B a b) (k : Bel B b c) : Bel B a c := ⟨h.bel.trans k.bel, fun q vs x => k.ki q vs (h.ki q vs x)⟩
theorem Bel.of {B : Nat} {w w' : World} (h : Below w.heap.size w w') (hB : B ≤ w.heap.size) : Bel B w w' := ⟨h.mono hB, fun _ _ x => x.below h⟩
theorem Bel.set {B b i : Nat} {t : TypeId} {w : World} {us : Array Value} (h : At t w b us) (ht : 2 ≠ t) (hB : B ≤ b) (v : Value) : Bel B w (w.setCell ⟨b, i, none⟩ v) := ⟨(Below.refl _ _).setCell hB v, fun _ _ x => x.setOther (x.apart h ht) v⟩
theorem Bel.only {K B : Nat} {t : TypeId} {w w' : World} {lo hi : Nat} {v : Value} {n : Nat} {f : Nat → Int} (ho : Only v w w') (h : ArK K t w lo hi v n f) (ht : t ≠ 2) (hN : B ≤ lo) (hs : B ≤ w.heap.size) : Bel B w w' := ⟨ho.belowK h hN (Below.refl _ _) hs, fun _ _ x => x.only ho (h.box x ht)⟩
/-- A worker with a lab of its own. -/
structure Wk (B q : Nat) (w : World) (vS vJ : Value) (n : Nat) (f : Nat → Int) (m : Nat) (g : Nat → Int) (T D : Int) : Prop where
  bx : At 81 w q #[vS, vJ, .int .i64 T, .int .i64 D]
  S : ArK 3 37 w B w.heap.size vS n f
  J : ArK 4 39 w B w.heap.size vJ m g
  hq : B ≤ q
section
variable {B q : Nat} {w w' : World} {vS vJ : Value} {n m : Nat} {f g : Nat → Int} {T D : Int}
theorem Wk.below (h : Wk B q w vS vJ n f m g T D) (hb : Below w.heap.size w w') : Wk B q w' vS vJ n f m g T D := ⟨h.bx.below hb, (h.S.below hb).fit, (h.J.below hb).fit, h.hq⟩
theorem Wk.lt (h : Wk B q w vS vJ n f m g T D) : B ≤ w.heap.size := Nat.le_trans h.hq (Nat.le_of_lt h.bx.lt)
theorem ArK.pick {K : Nat} {t : TypeId} {lo hi : Nat} {v : Value} {k : Nat} (h : ArK K t w lo hi v n f) (hk : k < n) : ∃ gs cs, v = .slice (some ⟨gs, 0, none⟩) n cs ∧ lo ≤ gs ∧ n ≤ cs ∧ cs ≤ maxLen ∧ LaidK K t w gs cs n f := by
  rcases h with ⟨-, h⟩ | ⟨gs, cs, e, h1, _, h3, h4, h5⟩
  · omega
  · exact ⟨gs, cs, e, h1, h3, h4, h5⟩
theorem set_only (w : World) (b i : Nat) (v : Value) : Only (.slice (some ⟨b, 0, none⟩) 0 0) w (w.setCell ⟨b, i, none⟩ v) := .of_kept (a := ⟨b, 0, none⟩) (Kept.set (Kept.refl b w) v)
theorem Wk.updS {gs cs i : Nat} (h : Wk B q w (.slice (some ⟨gs, 0, none⟩) n cs) vJ n f m g T D) (hi : i < n * 3) (x : Int) : Wk B q (w.setCell ⟨gs, i, none⟩ (.int .i64 x)) (.slice (some ⟨gs, 0, none⟩) n cs) vJ n (upd f i x) m g T D ∧ Bel B w (w.setCell ⟨gs, i, none⟩ (.int .i64 x)) := by
  rcases h.S with ⟨h1, -⟩ | ⟨b, c, h1, h2, _, h3, h4, h5⟩
  · cases h1
  simp only [Value.slice.injEq, Option.some.injEq, Addr.mk.injEq] at h1
  obtain ⟨⟨rfl, -, -⟩, -, rfl⟩ := h1
  have hle : n * 3 ≤ cs * 3 := Nat.mul_le_mul_right 3 h3
  refine ⟨⟨h.bx.setOther (fun e => (h5.apartA h.bx (by decide)) e.symm) _, ArK.own (h5.upd (by omega) x) h2 h3 h4, ((h.J.only (set_only _ _ _ _) (fun j e1 e2 => ?_))).fit, h.hq⟩, Bel.set (Classical.choose_spec h5).1 (by decide) h2 _⟩
  have : gs = j := by simpa [Value.ownBlock] using e1
  subst this
  exact (h.S.apart h.J (by decide)) gs rfl e2
theorem Wk.updJ {gs cs i : Nat} (h : Wk B q w vS (.slice (some ⟨gs, 0, none⟩) m cs) n f m g T D) (hi : i < m * 4) (x : Int) : Wk B q (w.setCell ⟨gs, i, none⟩ (.int .i64 x)) vS (.slice (some ⟨gs, 0, none⟩) m cs) n f m (upd g i x) T D ∧ Bel B w (w.setCell ⟨gs, i, none⟩ (.int .i64 x)) := by
  rcases h.J with ⟨h1, -⟩ | ⟨b, c, h1, h2, _, h3, h4, h5⟩
  · cases h1
  simp only [Value.slice.injEq, Option.some.injEq, Addr.mk.injEq] at h1
  obtain ⟨⟨rfl, -, -⟩, -, rfl⟩ := h1
  have hle : m * 4 ≤ cs * 4 := Nat.mul_le_mul_right 4 h3
  refine ⟨⟨h.bx.setOther (fun e => (h5.apartA h.bx (by decide)) e.symm) _, ((h.S.only (set_only _ _ _ _) (fun j e1 e2 => ?_))).fit, ArK.own (h5.upd (by omega) x) h2 h3 h4, h.hq⟩, Bel.set (Classical.choose_spec h5).1 (by decide) h2 _⟩
  have : gs = j := by simpa [Value.ownBlock] using e1
  subst this
  exact (h.J.apart h.S (by decide)) gs rfl e2
theorem Wk.updT (h : Wk B q w vS vJ n f m g T D) (x : Int) : Wk B q (w.setCell ⟨q, 2, none⟩ (.int .i64 x)) vS vJ n f m g x D ∧ Bel B w (w.setCell ⟨q, 2, none⟩ (.int .i64 x)) := by
  refine ⟨⟨by simpa using h.bx.set 2 (.int .i64 x), (h.S.only (set_only _ _ _ _) (apart_box (h.S.box h.bx (by decide)))).fit, (h.J.only (set_only _ _ _ _) (apart_box (h.J.box h.bx (by decide)))).fit, h.hq⟩, Bel.set h.bx (by decide) h.hq _⟩
theorem Wk.frS {gs cs i : Nat} (h : Wk B q w (.slice (some ⟨gs, 0, none⟩) n cs) vJ n f m g T D) (hi : i < n * 3) : w.cell? ⟨gs, i, none⟩ = some (.int .i64 (f i)) ∧ w.frozen? ⟨gs, i, none⟩ = false ∧ gs < w.heap.size := by
  rcases h.S with ⟨h1, -⟩ | ⟨b, c, h1, h2, _, h3, h4, cur, k1, k2, k3⟩
  · cases h1
  simp only [Value.slice.injEq, Option.some.injEq, Addr.mk.injEq] at h1
  obtain ⟨⟨rfl, -, -⟩, -, rfl⟩ := h1
  exact ⟨k1.cell i (k3 i hi), k1.frozen i, k1.lt⟩
theorem Wk.frJ {gs cs i : Nat} (h : Wk B q w vS (.slice (some ⟨gs, 0, none⟩) m cs) n f m g T D) (hi : i < m * 4) : w.cell? ⟨gs, i, none⟩ = some (.int .i64 (g i)) ∧ w.frozen? ⟨gs, i, none⟩ = false ∧ gs < w.heap.size := by
  rcases h.J with ⟨h1, -⟩ | ⟨b, c, h1, h2, _, h3, h4, cur, k1, k2, k3⟩
  · cases h1
  simp only [Value.slice.injEq, Option.some.injEq, Addr.mk.injEq] at h1
  obtain ⟨⟨rfl, -, -⟩, -, rfl⟩ := h1
  exact ⟨k1.cell i (k3 i hi), k1.frozen i, k1.lt⟩
end
/-- What is told behind a deed. -/
def DoP (B q : Nat) (w : World) (D c : Int) (n : Nat) (f : Nat → Int) (m : Nat) (g : Nat → Int) (T : Int) (e : Ending) (w' : World) : Prop := ∃ vS vJ, e = .returned (.int .i64 c) ∧ Wk B q w' vS vJ n f m g T D ∧ Bel B w w'
set_option maxHeartbeats 1600000 in
theorem dRight_any (K s o a : Int) (w : World) (b : Bool) (hb : Hid (b = true ↔ dOk K s o a)) : Calls Try.prog 77 #[deedV K s o a] w fun e w' => e = .returned (.bool b) ∧ Below w.heap.size w w' := by
  obtain ⟨V1, hV1, m1, bb1, -⟩ := boxed w 29 #[.int .i64 K, .int .i64 s, .int .i64 o, .int .i64 a]
  obtain ⟨c0, c1, c2, c3, -⟩ := Job.box m1
  have I1 := fun w => isId_any s w
  have I2 := fun w => isId_any o w
  have I3 := fun w => isNeed_any a w
  have I4 := fun w => isLeft_any a w
  obtain ⟨y1, hy1⟩ : ∃ y, decide (1 ≤ s ∧ s ≤ 1000000) = y := ⟨_, rfl⟩
  obtain ⟨y2, hy2⟩ : ∃ y, decide (1 ≤ o ∧ o ≤ 1000000) = y := ⟨_, rfl⟩
  obtain ⟨y3, hy3⟩ : ∃ y, decide (1 ≤ a ∧ a ≤ 1000) = y := ⟨_, rfl⟩
  obtain ⟨y4, hy4⟩ : ∃ y, decide (0 ≤ a ∧ a ≤ 1000) = y := ⟨_, rfl⟩
  have H : Hid (b = true ↔ (1 ≤ K ∧ K ≤ 8) ∧ y1 = true ∧ (K = 1 → y4 = true) ∧ (K = 2 → y2 = true ∧ y3 = true) ∧ (K = 6 ∨ K = 7 → y2 = true)) := by
    show _ ↔ _
    rw [hb.out, ← hy1, ← hy2, ← hy3, ← hy4]
    simp [dOk]
  rw [hy1] at I1
  rw [hy2] at I2
  rw [hy3] at I3
  rw [hy4] at I4
  clear hb hy1 hy2 hy3 hy4 m1
  by_cases k2 : K = 2
  · subst k2
    cases y3
    · obtain rfl := no_of H (fun k => absurd (k.2.2.2.1 rfl).2 (by simp))
      clear H
      go_enter Try.func77, Try.ntmps77
      go_wp2_with fail
      refine (I3 _).mono ?_
      rintro e w2 ⟨rfl, rfl⟩
      go_wp2
      go_ret
      exact ⟨rfl, bb1⟩
    cases y2
    · obtain rfl := no_of H (fun k => absurd (k.2.2.2.1 rfl).1 (by simp))
      clear H
      go_enter Try.func77, Try.ntmps77
      go_wp2_with fail
      refine (I3 _).mono ?_
      rintro e w2 ⟨rfl, rfl⟩
      go_wp2_with fail
      refine (I2 _).mono ?_
      rintro e w2 ⟨rfl, rfl⟩
      go_wp2
      go_ret
      exact ⟨rfl, bb1⟩
    cases y1
    · obtain rfl := no_of H (fun k => absurd k.2.1 (by simp))
      clear H
      go_enter Try.func77, Try.ntmps77
      go_wp2_with fail
      refine (I3 _).mono ?_
      rintro e w2 ⟨rfl, rfl⟩
      go_wp2_with fail
      refine (I2 _).mono ?_
      rintro e w2 ⟨rfl, rfl⟩
      go_wp2_with fail
      refine (I1 _).mono ?_
      rintro e w2 ⟨rfl, rfl⟩
      go_wp2
      go_ret
      exact ⟨rfl, bb1⟩
    obtain rfl : b = true := H.out.2 (by simp)
    clear H
    go_enter Try.func77, Try.ntmps77
    go_wp2_with fail
    refine (I3 _).mono ?_
    rintro e w2 ⟨rfl, rfl⟩
    go_wp2_with fail
    refine (I2 _).mono ?_
    rintro e w2 ⟨rfl, rfl⟩
    go_wp2_with fail
    refine (I1 _).mono ?_
    rintro e w2 ⟨rfl, rfl⟩
    go_wp2
    go_ret
    exact ⟨rfl, bb1⟩
  by_cases k6 : K = 6
  · subst k6
    cases y2
    · obtain rfl := no_of H (fun k => absurd (k.2.2.2.2 (by simp)) (by simp))
      clear H
      go_enter Try.func77, Try.ntmps77
      go_wp2_with fail
      refine (I2 _).mono ?_
      rintro e w2 ⟨rfl, rfl⟩
      go_wp2
      go_ret
      exact ⟨rfl, bb1⟩
    cases y1
    · obtain rfl := no_of H (fun k => absurd k.2.1 (by simp))
      clear H
      go_enter Try.func77, Try.ntmps77
      go_wp2_with fail
      refine (I2 _).mono ?_
      rintro e w2 ⟨rfl, rfl⟩
      go_wp2_with fail
      refine (I1 _).mono ?_
      rintro e w2 ⟨rfl, rfl⟩
      go_wp2
      go_ret
      exact ⟨rfl, bb1⟩
    obtain rfl : b = true := H.out.2 (by simp)
    clear H
    go_enter Try.func77, Try.ntmps77
    go_wp2_with fail
    refine (I2 _).mono ?_
    rintro e w2 ⟨rfl, rfl⟩
    go_wp2_with fail
    refine (I1 _).mono ?_
    rintro e w2 ⟨rfl, rfl⟩
    go_wp2
    go_ret
    exact ⟨rfl, bb1⟩
  by_cases k7 : K = 7
  · subst k7
    cases y2
    · obtain rfl := no_of H (fun k => absurd (k.2.2.2.2 (by simp)) (by simp))
      clear H
      go_enter Try.func77, Try.ntmps77
      go_wp2_with fail
      refine (I2 _).mono ?_
      rintro e w2 ⟨rfl, rfl⟩
      go_wp2
      go_ret
      exact ⟨rfl, bb1⟩
    cases y1
    · obtain rfl := no_of H (fun k => absurd k.2.1 (by simp))
      clear H
      go_enter Try.func77, Try.ntmps77
      go_wp2_with fail
      refine (I2 _).mono ?_
      rintro e w2 ⟨rfl, rfl⟩
      go_wp2_with fail
      refine (I1 _).mono ?_
      rintro e w2 ⟨rfl, rfl⟩
      go_wp2
      go_ret
      exact ⟨rfl, bb1⟩
    obtain rfl : b = true := H.out.2 (by simp)
    clear H
    go_enter Try.func77, Try.ntmps77
    go_wp2_with fail
    refine (I2 _).mono ?_
    rintro e w2 ⟨rfl, rfl⟩
    go_wp2_with fail
    refine (I1 _).mono ?_
    rintro e w2 ⟨rfl, rfl⟩
    go_wp2
    go_ret
    exact ⟨rfl, bb1⟩
  by_cases k3 : K = 3
  · subst k3
    cases y1
    · obtain rfl := no_of H (fun k => absurd k.2.1 (by simp))
      clear H
      go_enter Try.func77, Try.ntmps77
      go_wp2_with fail
      refine (I1 _).mono ?_
      rintro e w2 ⟨rfl, rfl⟩
      go_wp2
      go_ret
      exact ⟨rfl, bb1⟩
    obtain rfl : b = true := H.out.2 (by simp)
    clear H
    go_enter Try.func77, Try.ntmps77
    go_wp2_with fail
    refine (I1 _).mono ?_
    rintro e w2 ⟨rfl, rfl⟩
    go_wp2
    go_ret
    exact ⟨rfl, bb1⟩
  by_cases k4 : K = 4
  · subst k4
    cases y1
    · obtain rfl := no_of H (fun k => absurd k.2.1 (by simp))
      clear H
      go_enter Try.func77, Try.ntmps77
      go_wp2_with fail
      refine (I1 _).mono ?_
      rintro e w2 ⟨rfl, rfl⟩
      go_wp2
      go_ret
      exact ⟨rfl, bb1⟩
    obtain rfl : b = true := H.out.2 (by simp)
    clear H
    go_enter Try.func77, Try.ntmps77
    go_wp2_with fail
    refine (I1 _).mono ?_
    rintro e w2 ⟨rfl, rfl⟩
    go_wp2
    go_ret
    exact ⟨rfl, bb1⟩
  by_cases k5 : K = 5
  · subst k5
    cases y1
    · obtain rfl := no_of H (fun k => absurd k.2.1 (by simp))
      clear H
      go_enter Try.func77, Try.ntmps77
      go_wp2_with fail
      refine (I1 _).mono ?_
      rintro e w2 ⟨rfl, rfl⟩
      go_wp2
      go_ret
      exact ⟨rfl, bb1⟩
    obtain rfl : b = true := H.out.2 (by simp)
    clear H
    go_enter Try.func77, Try.ntmps77
    go_wp2_with fail
    refine (I1 _).mono ?_
    rintro e w2 ⟨rfl, rfl⟩
    go_wp2
    go_ret
    exact ⟨rfl, bb1⟩
  by_cases k8 : K = 8
  · subst k8
    cases y1
    · obtain rfl := no_of H (fun k => absurd k.2.1 (by simp))
      clear H
      go_enter Try.func77, Try.ntmps77
      go_wp2_with fail
      refine (I1 _).mono ?_
      rintro e w2 ⟨rfl, rfl⟩
      go_wp2
      go_ret
      exact ⟨rfl, bb1⟩
    obtain rfl : b = true := H.out.2 (by simp)
    clear H
    go_enter Try.func77, Try.ntmps77
    go_wp2_with fail
    refine (I1 _).mono ?_
    rintro e w2 ⟨rfl, rfl⟩
    go_wp2
    go_ret
    exact ⟨rfl, bb1⟩
  by_cases k1 : K = 1
  · subst k1
    cases y1
    · obtain rfl := no_of H (fun k => absurd k.2.1 (by simp))
      clear H
      go_enter Try.func77, Try.ntmps77
      go_wp2_with fail
      refine (I1 _).mono ?_
      rintro e w2 ⟨rfl, rfl⟩
      go_wp2
      go_ret
      exact ⟨rfl, bb1⟩
    cases y4
    · obtain rfl := no_of H (fun k => absurd (k.2.2.1 rfl) (by simp))
      clear H
      go_enter Try.func77, Try.ntmps77
      go_wp2_with fail
      refine (I1 _).mono ?_
      rintro e w2 ⟨rfl, rfl⟩
      go_wp2_with fail
      refine (I4 _).mono ?_
      rintro e w2 ⟨rfl, rfl⟩
      go_wp2
      go_ret
      exact ⟨rfl, bb1⟩
    obtain rfl : b = true := H.out.2 (by simp)
    clear H
    go_enter Try.func77, Try.ntmps77
    go_wp2_with fail
    refine (I1 _).mono ?_
    rintro e w2 ⟨rfl, rfl⟩
    go_wp2_with fail
    refine (I4 _).mono ?_
    rintro e w2 ⟨rfl, rfl⟩
    go_wp2
    go_ret
    exact ⟨rfl, bb1⟩
  have p1 : (K == 1) = false := by simpa using k1
  have p2 : (K == 2) = false := by simpa using k2
  have p3 : (K == 3) = false := by simpa using k3
  have p4 : (K == 4) = false := by simpa using k4
  have p5 : (K == 5) = false := by simpa using k5
  have p6 : (K == 6) = false := by simpa using k6
  have p7 : (K == 7) = false := by simpa using k7
  have p8 : (K == 8) = false := by simpa using k8
  obtain rfl := no_of H (fun k => by omega)
  clear H
  clear k1 k2 k3 k4 k5 k6 k7 k8
  go_enter Try.func77, Try.ntmps77
  go_wp2
  go_ret
  exact ⟨rfl, bb1⟩
end Go.Proofs.Ytnjnffemidaopaa
