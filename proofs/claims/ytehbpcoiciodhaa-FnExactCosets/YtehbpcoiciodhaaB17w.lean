/-
  The law of Cosets: walked.
-/
import Derived.Test.YtehbpcoiciodhaaB17u
import Derived.Test.YtehbpcoiciodhaaMN
import Derived.Test.YtehbpcoiciodhaaMO
import Derived.Test.YtehbpcoiciodhaaE6c
namespace Go.Proofs.Ytehbpcoiciodhaa
open Go.RowKit

theorem totN_12 {A : Nat → OpD} {m : Nat} (h : ∀ i, i < m → (A i).n = 9 ∧ (A i).k = 3) : totN A m = 12 * m := by
  induction m with
  | zero => rfl
  | succ m ih =>
    have h1 := h m (by omega)
    have h2 := ih (fun i hi => h i (by omega))
    simp only [totN]
    omega
set_option maxRecDepth 100000 in
set_option maxHeartbeats 1600000 in
/-- How much is left. -/
theorem szOpS_from {w : World} {a : Option Addr} {n cap : Nat} {A : Nat → OpD} (l : Int) (hl : 0 ≤ l ∧ l ≤ 1048576) (hS : OpsS w a n A) (hn : n ≤ maxLen) :
    Calls Try.prog 5 #[.slice a n cap, .int .i64 l] w fun e w' => ∃ r : Int, e = .returned (.int .i64 r) ∧ (r = -1 ∨ (0 ≤ r ∧ r ≤ 1048576 ∧ Short n A ∧ totN A n ≤ 1048576)) ∧ Below w.heap.size w w' := by
  unfold maxLen at hn
  obtain ⟨hl0, hl1⟩ := hl
  by_cases hb : l < n
  · have h1 : l - (n : Int) < 0 := by omega
    go_enter Try.func5, Try.ntmps5
    go_wp2
    go_ret
    exact ⟨_, rfl, .inl rfl, Below.refl _ _⟩
  · have h1 : ¬ l - (n : Int) < 0 := by omega
    go_enter Try.func5, Try.ntmps5
    go_wp2
    go_loopw [1, 5] (fun l s wr => ∃ (k : Nat) (r : Int), k ≤ n ∧ s = .int .i64 k ∧ l = .int .i64 r ∧ 0 ≤ r ∧ r + (totN A k : Int) ≤ 1048576 ∧ Hid (∀ i, i < k → (A i).n ≤ 1048576 ∧ (A i).k ≤ 1048576) ∧ Below w.heap.size w wr) (fun _ s _ => n - (intOf s).toNat)
    case atStart => exact ⟨0, _, Nat.zero_le _, rfl, rfl, by omega, by simp [totN]; omega, fun i hi => by omega, Below.refl _ _⟩
    case round =>
      obtain ⟨k, r, hk, rfl, rfl, hr0, hr1, hok, B⟩ := hrel
      by_cases hlt : k < n
      · have hlt' : (k : Int) < (n : Int) := by omega
        rcases hS.below B with h0 | ⟨g, off, rfl, hg, rr⟩
        · omega
        obtain ⟨x, c, y, d, e1, e2, s1, s2, m1, m2⟩ := rr k hlt
        obtain ⟨N, hN⟩ : ∃ N, (A k).n = N := ⟨_, rfl⟩
        obtain ⟨K, hK⟩ : ∃ N, (A k).k = N := ⟨_, rfl⟩
        rw [hN] at e1 m1
        rw [hK] at e2 m2
        clear rr s1 s2
        go_wp2_with fail
        refine (szOp_any x y N c K d r wr m1 m2 (by omega)).mono ?_
        rintro e w3 ⟨r', rfl, hr', b3⟩
        replace B := B.trans (b3.mono B.size)
        clear b3 e1 e2 m1 m2
        rcases hr' with rfl | ⟨he, hr'⟩
        · go_wp2
          go_ret
          exact ⟨_, rfl, .inl rfl, B⟩
        · have hr2 : ¬ r' < 0 := by omega
          have HO : Hid (∀ i, i < k + 1 → (A i).n ≤ 1048576 ∧ (A i).k ≤ 1048576) := fun i hi => by
            by_cases e : i = k
            · rw [e, hN, hK]; omega
            · exact hok.out i (by omega)
          have hr3 : r' + (totN A (k + 1) : Int) ≤ 1048576 := by simp only [totN]; rw [hN, hK]; omega
          clear hok he
          go_wp2
          exact ⟨⟨k + 1, r', by omega, by go_num, rfl, hr', hr3, HO, B⟩, by simp [intOf]; omega⟩
      · have hlt' : ¬ (k : Int) < (n : Int) := by omega
        obtain rfl : k = n := by omega
        go_wp2
        go_ret
        exact ⟨_, rfl, .inr ⟨hr0, by omega, ⟨by omega, hok.out⟩, by omega⟩, B⟩
theorem lsL_cellW {w : World} {g L m i : Nat} {B : Nat → Nat → OpD} (h : LsL w g L m B) (hi : i < L) : ∃ q c, (∀ wq, Below w.heap.size w wq → wq.cell? ⟨g, i, none⟩ = some (.slice (some ⟨q, 0, none⟩) m c)) ∧ OpsL w q m (B i) := by
  obtain ⟨q, c, e, r⟩ := h.2 i hi
  exact ⟨q, c, fun wq hq => (hq.cell (p := ⟨g, i, none⟩) h.1).trans e, r⟩
set_option maxRecDepth 100000 in
set_option maxHeartbeats 1600000 in
theorem eqOpSS_true {w : World} {g1 g2 L m c1 c2 : Nat} {B : Nat → Nat → OpD} (h1 : LsL w g1 L m B) (h2 : LsL w g2 L m B) (hs : ∀ s, s < L → Short m (B s)) (hL : L ≤ 1000) :
    Calls Try.prog 17 #[.slice (some ⟨g1, 0, none⟩) L c1, .slice (some ⟨g2, 0, none⟩) L c2] w fun e w' => e = .returned (.bool true) ∧ Below w.heap.size w w' := by
  have H1 := hid_of h1
  have H2 := hid_of h2
  have HS := hid_of hs
  have hL' : (L : Int) ≤ 1000 := by omega
  clear h1 h2 hs
  go_enter Try.func17, Try.ntmps17
  go_wp2
  go_loopw [5] (fun s wr => ∃ k : Nat, k ≤ L ∧ s = .int .i64 (k : Int) ∧ Hid (Below w.heap.size w wr)) (fun s _ => L - (intOf s).toNat)
  case atStart => exact ⟨0, Nat.zero_le _, rfl, Below.refl _ _⟩
  case round =>
    obtain ⟨k, hk, rfl, BW⟩ := hrel
    by_cases hlt : k < L
    · have hlt' : (k : Int) < (L : Int) := by omega
      obtain ⟨q1, d1, z1, O1⟩ := lsL_cellW H1.out hlt
      obtain ⟨q2, d2, z2, O2⟩ := lsL_cellW H2.out hlt
      have CI1 := hid_of z1
      have CI2 := hid_of z2
      have CP : Hid (∀ wq, Kb w wq → Calls Try.prog 11 #[.slice (some ⟨q1, 0, none⟩) m d1, .slice (some ⟨q2, 0, none⟩) m d2] wq fun e w' => e = .returned (.bool true) ∧ Below wq.heap.size wq w') := fun wq hq => eqOpS_true (O1.below hq) (O2.below hq) (HS.out k hlt)
      clear z1 z2 O1 O2
      go_wp2_with fail
      obtain ⟨u0, hu0, bb⟩ : ∃ uu, wr.drew = uu ∧ Below wr.heap.size wr uu := ⟨_, rfl, (Below.refl _ _).drew⟩
      have bu : Kb w u0 := BW.out.trans (bb.mono BW.out.size)
      clear bb
      refine wp_region_held_drew (S := Kb w) (by kernel_rfl) (by rw [hu0]; exact bu) (fun hHeld => ?_)
      rw [hu0] at hHeld ⊢
      clear hu0
      change wpAnyH _ _ _ _ _ 10 #[false, false, false, false, false, false, false, false, false, false] _ _
      refine wpAnyH_take (i := 0) (v := .slice ((some ⟨g1, 0, none⟩)) L c1) rfl (by kernel_rfl) (by kernel_rfl) (by kernel_rfl) (fun _ _ _ h => h) (Or.inl ⟨by kernel_rfl, ?_⟩) hHeld ?_
      · intro w' hSw; go_simp
      try simp only [Act.put, List.setIfInBounds_toArray, List.set_cons_zero, List.set_cons_succ, List.getElem_toArray, List.getElem_cons_zero]
      refine wpAnyH_take (i := 1) (v := .int .i64 ((k : Int))) rfl (by kernel_rfl) (by kernel_rfl) (by kernel_rfl) (fun _ _ _ h => h) (Or.inl ⟨by kernel_rfl, ?_⟩) hHeld ?_
      · intro w' hSw; go_simp
      try simp only [Act.put, List.setIfInBounds_toArray, List.set_cons_zero, List.set_cons_succ, List.getElem_toArray, List.getElem_cons_succ, List.getElem_cons_zero]
      refine wpAnyH_take (i := 2) (v := .pointer (some ⟨g1, k, none⟩)) rfl (by kernel_rfl) (by kernel_rfl) (by kernel_rfl) (fun _ _ _ h => h) (Or.inl ⟨by kernel_rfl, ?_⟩) hHeld ?_
      · intro w' hSw; go_simp
      try simp only [Act.put, List.setIfInBounds_toArray, List.set_cons_zero, List.set_cons_succ, List.getElem_toArray, List.getElem_cons_succ, List.getElem_cons_zero]
      refine wpAnyH_take (i := 3) (v := .slice ((some ⟨q1, 0, none⟩)) m d1) rfl (by kernel_rfl) (by kernel_rfl) (by kernel_rfl) (fun _ _ _ h => h) (Or.inl ⟨by kernel_rfl, ?_⟩) hHeld ?_
      · intro w' hSw; have z0 := CI1.out _ hSw; go_simp
      try simp only [Act.put, List.setIfInBounds_toArray, List.set_cons_zero, List.set_cons_succ, List.getElem_toArray, List.getElem_cons_succ, List.getElem_cons_zero]
      refine wpAnyH_take (i := 4) (v := .slice ((some ⟨g2, 0, none⟩)) L c2) rfl (by kernel_rfl) (by kernel_rfl) (by kernel_rfl) (fun _ _ _ h => h) (Or.inl ⟨by kernel_rfl, ?_⟩) hHeld ?_
      · intro w' hSw; go_simp
      try simp only [Act.put, List.setIfInBounds_toArray, List.set_cons_zero, List.set_cons_succ, List.getElem_toArray, List.getElem_cons_succ, List.getElem_cons_zero]
      refine wpAnyH_take (i := 5) (v := .int .i64 ((k : Int))) rfl (by kernel_rfl) (by kernel_rfl) (by kernel_rfl) (fun _ _ _ h => h) (Or.inl ⟨by kernel_rfl, ?_⟩) hHeld ?_
      · intro w' hSw; go_simp
      try simp only [Act.put, List.setIfInBounds_toArray, List.set_cons_zero, List.set_cons_succ, List.getElem_toArray, List.getElem_cons_succ, List.getElem_cons_zero]
      refine wpAnyH_take (i := 6) (v := .pointer (some ⟨g2, k, none⟩)) rfl (by kernel_rfl) (by kernel_rfl) (by kernel_rfl) (fun _ _ _ h => h) (Or.inl ⟨by kernel_rfl, ?_⟩) hHeld ?_
      · intro w' hSw; go_simp
      try simp only [Act.put, List.setIfInBounds_toArray, List.set_cons_zero, List.set_cons_succ, List.getElem_toArray, List.getElem_cons_succ, List.getElem_cons_zero]
      refine wpAnyH_take (i := 7) (v := .slice ((some ⟨q2, 0, none⟩)) m d2) rfl (by kernel_rfl) (by kernel_rfl) (by kernel_rfl) (fun _ _ _ h => h) (Or.inl ⟨by kernel_rfl, ?_⟩) hHeld ?_
      · intro w' hSw; have z0 := CI2.out _ hSw; go_simp
      try simp only [Act.put, List.setIfInBounds_toArray, List.set_cons_zero, List.set_cons_succ, List.getElem_toArray, List.getElem_cons_succ, List.getElem_cons_zero]
      refine wpAnyH_ready (rs := [8]) (by kernel_rfl) (by simp) ?_
      refine AllReadyH.cons rfl (fun KK hK' => ?_) AllReadyH.nil
      go_simp
      refine (CP.out _ bu).mono ?_
      rintro e u1 ⟨rfl, bb⟩
      replace bu : Kb w u1 := bu.trans (bb.mono bu.size)
      clear bb
      try go_wp2_with fail
      clear hHeld
      refine hK'.out _ _ (bu) (fun hHeld => ?_)
      clear hK' KK
      try simp only [List.setIfInBounds_toArray, List.set_cons_zero, List.set_cons_succ]
      refine wpAnyH_take (i := 9) (v := .bool false) rfl (by kernel_rfl) (by kernel_rfl) (by kernel_rfl) (fun _ _ _ h => h) (Or.inl ⟨by kernel_rfl, ?_⟩) hHeld ?_
      · intro w' hSw; go_simp
      try simp only [Act.put, List.setIfInBounds_toArray, List.set_cons_zero, List.set_cons_succ, List.getElem_toArray, List.getElem_cons_succ, List.getElem_cons_zero]
      refine wpAnyH_done (by kernel_rfl) ?_ _
      clear hHeld
      replace BW := hid_of (show Below w.heap.size w u1 from bu)
      clear bu CP CI1 CI2
      go_wp2
      exact ⟨⟨k + 1, by omega, by go_num, BW⟩, by simp [intOf]; omega⟩
    · obtain rfl : k = L := by omega
      have hlt' : ¬ (k : Int) < (k : Int) := by omega
      go_wp2
      go_ret
      exact ⟨rfl, BW.out⟩
theorem LsA.congr {w : World} {lo L m : Nat} {v : Value} {V : Nat → Value} {S T : Nat → Nat} {B B' : Nat → Nat → OpD} (h : LsA w lo v L V m S T B) (e : ∀ s, s < L → B s = B' s) : LsA w lo v L V m S T B' :=
  ⟨h.row, h.nn, fun j hj => by
    obtain ⟨g, c, X, Y, e1, r⟩ := h.el j hj
    exact ⟨g, c, X, Y, e1, e j hj ▸ r⟩, h.st, h.ord, h.ob⟩
/-- One of the lists has been marked. -/
theorem LsA.mark {w w' : World} {lo L m i q c : Nat} {v : Value} {V : Nat → Value} {S T : Nat → Nat} {B : Nat → Nat → OpD} {X Y : Nat → Value} {E : Nat → OpD} (h : LsA w lo v L V m S T B) (hi : i < L) (e : V i = .slice (some ⟨q, 0, none⟩) m c) (ho : OpsA w' (S i) (T i) q m X Y E) (ht : Turn (S i) (T i) w w') : LsA w' lo v L V m S T (fun s => if s = i then E else B s) := by
  refine ⟨?_, h.nn, fun j hj => ?_, fun j hj => ⟨(h.st j hj).1, Nat.le_trans (h.st j hj).2 ht.size⟩, h.ord, h.ob⟩
  · obtain ⟨e0, h1 | ⟨g', c', cur, e2, hb, hh, r⟩⟩ := h.row
    · exact ⟨e0, .inl h1⟩
    · subst e2
      exact ⟨e0, .inr ⟨g', c', cur, rfl, hb, (ht.block g' (Array.getElem?_eq_some_iff.1 hh).1 (h.ob g' rfl i hi)).trans hh, r⟩⟩
  · by_cases c : j = i
    · subst c
      refine ⟨q, _, X, Y, e, ?_⟩
      rw [if_pos rfl]
      exact ho
    · rw [if_neg c]
      obtain ⟨g, d, X', Y', e1, r⟩ := h.el j hj
      refine ⟨g, d, X', Y', e1, r.turn ht ?_⟩
      rcases Nat.lt_or_gt_of_ne c with c | c
      · exact .inl (h.ord j i c hi)
      · exact .inr (h.ord i j c hj)
/-- Lists, the first i marked. -/
def mkd (B : Nat → Nat → OpD) (m x i : Nat) : Nat → Nat → OpD := fun s => if s < i then marked (B s) (x + s * (12 * m)) else B s
theorem mkd_next (B : Nat → Nat → OpD) (m x i : Nat) : (fun s => if s = i then marked (B i) (x + i * (12 * m)) else mkd B m x i s) = mkd B m x (i + 1) := by
  funext s
  unfold mkd
  by_cases h : s = i
  · subst h; rw [if_pos rfl, if_pos (by omega)]
  · rw [if_neg h]
    by_cases h2 : s < i
    · rw [if_pos h2, if_pos (by omega)]
    · rw [if_neg h2, if_neg (by omega)]
theorem many_le {i L m : Nat} (hi : i < L) (hLm : L * m ≤ 200) : i * (12 * m) + 12 * m ≤ 2400 := by
  have h1 : (i + 1) * (12 * m) ≤ L * (12 * m) := Nat.mul_le_mul_right _ hi
  have h2 : L * (12 * m) = 12 * (L * m) := by rw [← Nat.mul_assoc, Nat.mul_comm L 12, Nat.mul_assoc]
  rw [h2, Nat.add_mul, Nat.one_mul] at h1
  omega
set_option maxRecDepth 100000 in
set_option maxHeartbeats 3000000 in
theorem markOpSS_any {w : World} {lo hi g L c m : Nat} {V : Nat → Value} {S T : Nat → Nat} {B : Nat → Nat → OpD} (h : LsA w lo (.slice (some ⟨g, 0, none⟩) L c) L V m S T B) (hsh : ∀ s, s < L → ∀ k, k < m → (B s k).n = 9 ∧ (B s k).k = 3) (hhi : ∀ s, s < L → T s ≤ hi) (hL : L ≤ 1000) (hLm : L * m ≤ 200) (x : Nat) (hx : x ≤ 100000) :
    Calls Try.prog 18 #[.slice (some ⟨g, 0, none⟩) L c, .int .i64 (x : Int)] w fun e w' => e = .returned (.int .i64 ((x + L * (12 * m) : Nat) : Int)) ∧ LsA w' lo (.slice (some ⟨g, 0, none⟩) L c) L V m S T (fun s => marked (B s) (x + s * (12 * m))) ∧ Turn lo hi w w' := by
  have hL' : (L : Int) ≤ 1000 := by omega
  have H0 : Hid (LsA w lo (.slice (some ⟨g, 0, none⟩) L c) L V m S T (mkd B m x 0)) := h.congr (fun s _ => by unfold mkd; rw [if_neg (by omega)])
  have HSH := hid_of hsh
  have HHI := hid_of hhi
  have HT0 : Hid (x = x + 0 * (12 * m)) := by show x = x + 0 * (12 * m); omega
  have T0 : Hid (Turn lo hi w w) := Turn.of_below (Below.refl _ _)
  clear h hsh hhi
  go_enter Try.func18, Try.ntmps18
  go_wp2
  go_loopw [1, 5] (fun kk s wr => ∃ i t : Nat, i ≤ L ∧ s = .int .i64 i ∧ kk = .int .i64 (t : Int) ∧ Hid (t = x + i * (12 * m)) ∧ Hid (LsA wr lo (.slice (some ⟨g, 0, none⟩) L c) L V m S T (mkd B m x i)) ∧ Hid (Turn lo hi w wr)) (fun _ s _ => L - (intOf s).toNat)
  case atStart => exact ⟨0, x, Nat.zero_le _, rfl, rfl, HT0, H0, T0⟩
  case round =>
    clear H0 HT0 T0
    obtain ⟨i, t, hi', rfl, rfl, HT, H, HU⟩ := hrel
    by_cases hlt : i < L
    · have hlt' : (i : Int) < (L : Int) := by omega
      have hml := many_le hlt hLm
      have ht : t ≤ 102400 := by have := HT.out; omega
      have htot : totN (B i) m = 12 * m := totN_12 (HSH.out i hlt)
      obtain ⟨q, cq, X, Y, ev, OA⟩ := H.out.el i hlt
      have hBi : mkd B m x i i = B i := by unfold mkd; rw [if_neg (by omega)]
      rw [hBi] at OA
      obtain ⟨g', c', cur, eg, -, a, ec⟩ := H.out.open
      cases eg
      have hc : wr.cell? ⟨g, i, none⟩ = some (.slice (some ⟨q, 0, none⟩) m cq) := by rw [← ev]; exact a.cell _ (ec i hlt)
      obtain ⟨tt, htt⟩ : ∃ z, t + 12 * m = z := ⟨_, rfl⟩
      have htt' := hid_of htt
      have MK := markOpS_any (c := cq) OA (by omega) (by omega) t (by omega)
      rw [htot, htt] at MK
      have HEV := hid_of ev
      have HTO := hid_of htot
      clear a ec ev htot htt hml hBi
      go_wp2_with fail
      refine MK.mono ?_
      rintro e w3 ⟨rfl, hO, hTu⟩
      have HT2 : Hid (tt = x + (i + 1) * (12 * m)) := by
        show tt = x + (i + 1) * (12 * m)
        rw [← htt'.out, HT.out, Nat.add_mul, Nat.one_mul, Nat.add_assoc]
      have H2 : Hid (LsA w3 lo (.slice (some ⟨g, 0, none⟩) L c) L V m S T (mkd B m x (i + 1))) := by
        rw [← mkd_next, ← HT.out]
        exact H.out.mark hlt HEV.out hO hTu
      have HU2 : Hid (Turn lo hi w w3) := HU.out.trans ⟨hTu.os, hTu.tape, hTu.output, hTu.size, fun k hk hd => hTu.block k hk (by
        have h1 := (H.out.st i hlt).1
        have h2 := HHI.out i hlt
        omega)⟩
      clear H HU HT htt' HEV HTO hO hTu MK hc OA ht
      go_wp2
      exact ⟨⟨i + 1, tt, by omega, by go_num, rfl, HT2, H2, HU2⟩, by simp [intOf]; omega⟩
    · obtain rfl : i = L := by omega
      have hlt' : ¬ (i : Int) < (i : Int) := by omega
      have FI : Hid (LsA wr lo (.slice (some ⟨g, 0, none⟩) i c) i V m S T (fun s => marked (B s) (x + s * (12 * m)))) := H.out.congr (fun s hs => by unfold mkd; rw [if_pos hs])
      have HTE := hid_of HT.out
      clear H HT
      go_wp2
      go_ret
      exact ⟨by rw [HTE.out]; go_num, FI.out, HU.out⟩
set_option maxRecDepth 100000 in
set_option maxHeartbeats 3000000 in
theorem heldOpSS_any {w : World} {lo g L c m : Nat} {V : Nat → Value} {S T : Nat → Nat} {B : Nat → Nat → OpD} (x : Nat) (h : LsA w lo (.slice (some ⟨g, 0, none⟩) L c) L V m S T (fun s => marked (B s) (x + s * (12 * m)))) (hsh : ∀ s, s < L → ∀ k, k < m → (B s k).n = 9 ∧ (B s k).k = 3) (hL : L ≤ 1000) (hLm : L * m ≤ 200) (hx : x ≤ 100000) :
    Calls Try.prog 19 #[.slice (some ⟨g, 0, none⟩) L c, .int .i64 (x : Int)] w fun e w' => e = .returned (.int .i64 ((x + L * (12 * m) : Nat) : Int)) ∧ Below w.heap.size w w' := by
  have hL' : (L : Int) ≤ 1000 := by omega
  have H := hid_of h
  have HSH := hid_of hsh
  have HT0 : Hid (x = x + 0 * (12 * m)) := by show x = x + 0 * (12 * m); omega
  have B0 : Hid (Below w.heap.size w w) := Below.refl _ _
  clear h hsh
  go_enter Try.func19, Try.ntmps19
  go_wp2
  go_loopw [1, 5] (fun kk s wr => ∃ i t : Nat, i ≤ L ∧ s = .int .i64 i ∧ kk = .int .i64 (t : Int) ∧ Hid (t = x + i * (12 * m)) ∧ Hid (Below w.heap.size w wr)) (fun _ s _ => L - (intOf s).toNat)
  case atStart => exact ⟨0, x, Nat.zero_le _, rfl, rfl, HT0, B0⟩
  case round =>
    clear HT0 B0
    obtain ⟨i, t, hi', rfl, rfl, HT, HB⟩ := hrel
    by_cases hlt : i < L
    · have hlt' : (i : Int) < (L : Int) := by omega
      have hml := many_le hlt hLm
      have ht : t ≤ 102400 := by have := HT.out; omega
      have htot : totN (B i) m = 12 * m := totN_12 (HSH.out i hlt)
      obtain ⟨q, cq, X, Y, ev, OA⟩ := H.out.el i hlt
      obtain ⟨g', c', cur, eg, -, a, ec⟩ := H.out.open
      cases eg
      have hc : wr.cell? ⟨g, i, none⟩ = some (.slice (some ⟨q, 0, none⟩) m cq) := (HB.out.cell (p := ⟨g, i, none⟩) a.lt).trans (by rw [← ev]; exact a.cell _ (ec i hlt))
      rw [← HT.out] at OA
      obtain ⟨tt, htt⟩ : ∃ z, t + 12 * m = z := ⟨_, rfl⟩
      have htt' := hid_of htt
      have MK := heldOpS_any (c := cq) t (OA.below HB.out) (by omega) (by omega) (by omega)
      rw [htot, htt] at MK
      have htn : ¬ (tt : Int) < 0 := by omega
      clear a ec ev htot htt hml OA
      go_wp2_with fail
      refine MK.mono ?_
      rintro e w3 ⟨rfl, b3⟩
      have HT2 : Hid (tt = x + (i + 1) * (12 * m)) := by
        show tt = x + (i + 1) * (12 * m)
        rw [← htt'.out, HT.out, Nat.add_mul, Nat.one_mul, Nat.add_assoc]
      have HB2 := hid_of (HB.out.trans (b3.mono HB.out.size))
      clear HB HT htt' MK hc ht b3
      go_wp2
      exact ⟨⟨i + 1, tt, by omega, by go_num, rfl, HT2, HB2⟩, by simp [intOf]; omega⟩
    · obtain rfl : i = L := by omega
      have hlt' : ¬ (i : Int) < (i : Int) := by omega
      have HTE := hid_of HT.out
      clear H HT
      go_wp2
      go_ret
      exact ⟨by rw [HTE.out]; go_num, HB.out⟩
end Go.Proofs.Ytehbpcoiciodhaa
