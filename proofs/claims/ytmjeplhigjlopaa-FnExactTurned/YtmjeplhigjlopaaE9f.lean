/-
  Turned by the specification, whatever is handed in: walked.
-/
import Derived.Test.YtmjeplhigjlopaaE9d
namespace Go.Proofs.Ytmjeplhigjlopaa
open Go.RowKit

theorem TurE.lower {w w4 w' : World} {n : Nat} {A : Nat → OpD} {o : OpD} {e : Ending} (h : TurE w4 n A o e w') (B : Below w.heap.size w w4) : TurE w n A o e w' := by
  obtain ⟨⟨g', m, c', b, H, e1, hR, hS⟩, hb⟩ := h
  exact ⟨⟨g', m, c', b, H, e1, hR.lower B.size, hS⟩, B.trans (hb.mono B.size)⟩
set_option maxRecDepth 100000 in
set_option maxHeartbeats 3000000 in
theorem specTurned_any {w : World} {g n c : Nat} {A : Nat → OpD} {a b : Option Addr} {c1 c2 : Nat} {o : OpD} (hL : OpsL w g n A) (hn : n ≤ 1048576) (s1 : Src w a o.n o.f) (s2 : Src w b o.k o.h) :
    Calls Try.prog 19 #[.slice (some ⟨g, 0, none⟩) n c, .agg #[.slice a o.n c1, .slice b o.k c2]] w fun e w' => TurE w n A o e w' := by
  have hbs : ∀ w, (Instr.buildSlice 24 0 #[]).run Try.prog w = .ok (.slice (some ⟨w.heap.size, 0, none⟩) 0 0) (w.alloc (.cells #[] 37)) := fun _ => by kernel_rfl
  have NO : Hid (∀ wq, Below w.heap.size w wq → ¬ TurOk n A o → TurE w n A o (.returned (.tuple #[.slice (some ⟨wq.heap.size, 0, none⟩) 0 0, .bool false])) (wq.alloc (.cells #[] 37))) := fun wq hq hno =>
    ⟨⟨_, 0, 0, false, A, rfl, opsR_empty A hq.size, .inr ⟨rfl, rfl, hno⟩⟩, hq.trans ((below_alloc _ _).mono hq.size)⟩
  obtain ⟨N, hN⟩ : ∃ N, o.n = N := ⟨_, rfl⟩
  obtain ⟨K, hK⟩ : ∃ N, o.k = N := ⟨_, rfl⟩
  rw [hN] at s1 ⊢
  rw [hK] at s2 ⊢
  have HOK : Hid (isOp N o.f K o.h ↔ o.ok) := by rw [← hN, ← hK]; exact Iff.rfl
  clear hN hK
  obtain ⟨W1, hW1, Q1, B1, -⟩ := boxed w 37 #[.slice a N c1, .slice b K c2]
  obtain ⟨q1, hq1⟩ : ∃ q, w.heap.size = q := ⟨_, rfl⟩
  rw [hq1] at Q1
  go_enter Try.func19, Try.ntmps19
  go_wp2_with fail
  refine (groupOk_any (hL.below B1) hn).mono ?_
  rintro e w2 ⟨⟨r, rfl, hr⟩, b2⟩
  have B2 := B1.trans (b2.mono B1.size)
  have Q2 := Q1.below b2
  cases r
  · have N0 := hid_of (NO.out _ B2 (fun h => absurd (hr.2 h.1) (by decide)))
    clear NO hr b2 B2 B1 Q1 Q2 hL s1 s2
    go_wp2
    refine bodyPost_ret (v := .tuple #[.slice (some ⟨_, 0, none⟩) 0 0, .bool false]) (by simp [results, Try.results19, go_sem]) rfl N0.out
  have HG := hid_of (hr.1 rfl)
  obtain ⟨d0, d1, -⟩ := Q2.open2
  clear hr Q1 b2
  go_wp2_with fail
  refine (specOk_any c1 c2 (s1.below B2) (s2.below B2)).mono ?_
  rintro e w3 ⟨rfl, b3⟩
  have B3 := B2.trans (b3.mono B2.size)
  have Q3 := Q2.below b3
  by_cases ho : isOp N o.f K o.h
  rotate_left
  · rw [decide_eq_false ho]
    have N0 := hid_of (NO.out _ B3 (fun h => ho (HOK.out.2 h.2.1)))
    clear NO b3 B3 B2 B1 Q2 Q3 hL s1 s2 d0 d1
    go_wp2
    refine bodyPost_ret (v := .tuple #[.slice (some ⟨_, 0, none⟩) 0 0, .bool false]) (by simp [results, Try.results19, go_sem]) rfl N0.out
  rw [decide_eq_true ho]
  have HO := hid_of (HOK.out.1 ho)
  obtain ⟨rfl, rfl, -⟩ := ho
  clear d0 d1 Q2
  obtain ⟨d0, d1, -⟩ := Q3.open2
  go_wp2_with fail
  refine (l4Turned_any (hL.below B3) HG.out (s1.below B3) (s2.below B3) HO.out).mono ?_
  rintro e w4 hE
  have hE2 := hE.lower B3
  obtain ⟨⟨g', m, c', bo, H, rfl, -, -⟩, -⟩ := hE
  have HE := hid_of hE2
  clear hE2 d0 d1 NO Q3 B3 B2 B1 b3 hL s1 s2
  go_wp2
  refine bodyPost_ret (v := .tuple #[.slice (some ⟨g', 0, none⟩) m c', .bool bo]) (by simp [results, Try.results19, go_sem]) rfl HE.out
end Go.Proofs.Ytmjeplhigjlopaa
