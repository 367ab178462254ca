/-
  The specification's reduced forms, walked, and the law on Reduce.
-/
import Derived.Test.YtlgkohiempcbhabWalkR
namespace Go.Proofs.Ytlgkohiempcbhab
open Go.RowKit

theorem At.open4 {t : TypeId} {w : World} {q : Nat} {v0 v1 v2 v3 : Value} (h : At t w q #[v0, v1, v2, v3]) : w.cell? ⟨q, 0, none⟩ = some v0 ∧ w.cell? ⟨q, 1, none⟩ = some v1 ∧ w.cell? ⟨q, 2, none⟩ = some v2 ∧ w.cell? ⟨q, 3, none⟩ = some v3 ∧ w.frozen? ⟨q, 2, none⟩ = false ∧ w.frozen? ⟨q, 3, none⟩ = false :=
  ⟨h.cell 0 rfl, h.cell 1 rfl, h.cell 2 rfl, h.cell 3 rfl, h.frozen 2, h.frozen 3⟩
theorem bl_al0 {V X : World} {o : Obj} (hX : Below V.heap.size V X) : Below V.heap.size V (X.alloc o) := hX.alloc hX.size o
/-- Four numbers in a block of their own. -/
def Four (w : World) (g : Nat) : Prop := ∃ p q r s : Int, At 2 w g #[.int .i64 p, .int .i64 q, .int .i64 r, .int .i64 s]
set_option maxRecDepth 100000 in
set_option maxHeartbeats 3200000 in
theorem l2Reduce_any {a b c : Int} (h : Good a b c) (w : World) :
    Calls Try.prog 44 #[.agg #[.int .i64 a, .int .i64 b, .int .i64 c]] w fun e w' => (∃ v, e = .returned (.tuple #[.agg #[.int .i64 (fin a.toNat a (sb a b) (sc a b c)).1, .int .i64 (fin a.toNat a (sb a b) (sc a b c)).2.1, .int .i64 (fin a.toNat a (sb a b) (sc a b c)).2.2], v])) ∧ Below w.heap.size w w' := by
  obtain ⟨R, hR⟩ : ∃ R, fin a.toNat a (sb a b) (sc a b c) = R := ⟨_, rfl⟩
  rw [hR]
  obtain ⟨W1, hW1, a1, bW1, z1⟩ := boxed w 32 #[.int .i64 a, .int .i64 b, .int .i64 c]
  obtain ⟨W2, hW2, a2, bW2, z2⟩ := boxed W1 32 #[.int .i64 0, .int .i64 0, .int .i64 0]
  obtain ⟨W3, hW3, a3, bW3, z3⟩ := boxed W2 2 #[.int .i64 1, .int .i64 0, .int .i64 0, .int .i64 1]
  rw [z1] at a2 bW2 z2
  rw [z2] at a3 bW3 z3
  replace a1 := (a1.belowN bW2 (by omega)).belowN bW3 (by omega)
  replace a2 := a2.belowN bW3 (by omega)
  have bW : Below w.heap.size w W3 := (bW1.trans (bW2.mono (by omega))).trans (bW3.mono (by omega))
  clear bW1 bW2 bW3
  go_enter Try.func44, Try.ntmps44
  go_wp2
  have hc0 : Good a b c ∧ a.toNat ≤ a.toNat ∧ fin a.toNat a (sb a b) (sc a b c) = R := ⟨h, Nat.le_refl _, hR⟩
  have hF : Four W3 (w.heap.size + 1 + 1) := ⟨_, _, _, _, a3⟩
  clear h hR hW1 hW2 hW3 z1 z2 z3 a3
  go_loopw [4] (fun s wr => ∃ (n : Nat) (x y z : Int) (g : Nat), (Good x y z ∧ x.toNat ≤ n ∧ fin n x (sb x y) (sc x y z) = R) ∧ s = .slice (some ⟨g, 0, none⟩) 4 4 ∧ w.heap.size + 1 < g ∧ Four wr g ∧ At 32 wr w.heap.size #[.int .i64 x, .int .i64 y, .int .i64 z] ∧ At 32 wr (w.heap.size + 1) #[.int .i64 0, .int .i64 0, .int .i64 0] ∧ Below w.heap.size w wr) (fun s wr => hd w.heap.size wr)
  case atStart => exact ⟨a.toNat, a, b, c, w.heap.size + 1 + 1, hc0, rfl, by omega, hF, a1, a2, bW⟩
  case round =>
    clear hc0 hF a1 a2 bW
    obtain ⟨n, x, y, z, g, ⟨hg, hn, hf⟩, rfl, hgn, ⟨p, q, r, s, a4⟩, a1, a2, bW⟩ := hrel
    obtain ⟨k1, k2⟩ := kk_bound hg
    have hs2 := slid_good hg
    have HG : Hid (Good x y z ∧ x.toNat ≤ n ∧ fin n x (sb x y) (sc x y z) = R ∧ Good x (sb x y) (sc x y z)) := ⟨hg, hn, hf, hs2⟩
    have hxb := hg.1
    have hyb := hg.2.2.1
    have hzb := hg.2.1
    have HH : Hid (hd w.heap.size wr = x.toNat) := hd_at a1
    obtain ⟨k, hk⟩ : ∃ k, kk x y = k := ⟨_, rfl⟩
    rw [hk] at k1 k2
    have hsb : sb x y = y - k * x := by unfold sb; rw [hk]
    have hsc : sc x y z = z - 2 * k * y + k * k * x := by unfold sc; rw [hk]
    have HSB : Hid (sb x y = y - k * x ∧ sc x y z = z - 2 * k * y + k * k * x) := ⟨hsb, hsc⟩
    have b1 := mul_bound (x := k) (y := k * x) (M := 2000000) (N := 2000000) k1 k2
    rw [← Int.mul_assoc] at b1
    have b2 := mul_bound (x := 2 * k) (y := y) (M := 4000000) (N := 1000000) (by omega) hyb
    have b3 := mul_bound (x := k) (y := k) (M := 2000000) (N := 2000000) k1 k1
    have hk' : (2 * y + x) / (2 * x) = k := hk
    clear hk hsb hsc hg hn hf hs2
    obtain ⟨c0, c1, c2, f0, f1, f2⟩ := a1.open3
    obtain ⟨v0, v1, v2, v3, g2, g3⟩ := a4.open4
    have hN0 : w.heap.size ≠ g := by omega
    go_wp2_with (go_at_call 50; refine (sdown_any _ _ _ (by omega) (by omega)).mono ?_; rintro e w2 ⟨rfl, rfl⟩; rw [hk']; clear hk')
    obtain ⟨z', hz'⟩ : ∃ z', z - 2 * k * y + k * k * x = z' := ⟨_, rfl⟩
    obtain ⟨y', hy'⟩ : ∃ y', y - k * x = y' := ⟨_, rfl⟩
    rw [hz', hy'] at HSB
    rw [hz', hy']
    have d1 : At 32 ((wr.setCell ⟨w.heap.size, 2, none⟩ (.int .i64 z')).setCell ⟨w.heap.size, 1, none⟩ (.int .i64 y')) w.heap.size #[.int .i64 x, .int .i64 y', .int .i64 z'] := by simpa using (a1.set 2 (.int .i64 z')).set 1 (.int .i64 y')
    have d2 : At 32 ((wr.setCell ⟨w.heap.size, 2, none⟩ (.int .i64 z')).setCell ⟨w.heap.size, 1, none⟩ (.int .i64 y')) (w.heap.size + 1) #[.int .i64 0, .int .i64 0, .int .i64 0] := (a2.setOther (by omega) _).setOther (by omega) _
    have d4 : At 2 ((wr.setCell ⟨w.heap.size, 2, none⟩ (.int .i64 z')).setCell ⟨w.heap.size, 1, none⟩ (.int .i64 y')) g #[.int .i64 p, .int .i64 q, .int .i64 r, .int .i64 s] := (a4.setOther (by omega) _).setOther (by omega) _
    have dW : Below w.heap.size w ((wr.setCell ⟨w.heap.size, 2, none⟩ (.int .i64 z')).setCell ⟨w.heap.size, 1, none⟩ (.int .i64 y')) := (bW.setCell (Nat.le_refl _) _).setCell (Nat.le_refl _) _
    obtain ⟨Y, hY⟩ : ∃ Y, (wr.setCell ⟨w.heap.size, 2, none⟩ (.int .i64 z')).setCell ⟨w.heap.size, 1, none⟩ (.int .i64 y') = Y := ⟨_, rfl⟩
    rw [hY] at d1 d2 d4 dW ⊢
    clear hY hz' hy' a1 a2 a4 bW c0 c1 c2 f0 f1 f2 v0 v1 v2 v3 g2 g3 b1 b2 b3
    obtain ⟨c0, c1, c2, f0, f1, f2⟩ := d1.open3
    obtain ⟨v0, v1, v2, v3, g2, g3⟩ := d4.open4
    go_region
    go_wp2
    obtain ⟨r', hr'⟩ : ∃ r', wrap64 (r - wrap64 (k * p)) = r' := ⟨_, rfl⟩
    rw [hr']
    replace d4 : At 2 (Y.setCell ⟨g, 2, none⟩ (.int .i64 r')).drew g #[.int .i64 p, .int .i64 q, .int .i64 r', .int .i64 s] := (by simpa using d4.set 2 (.int .i64 r') : At 2 (Y.setCell ⟨g, 2, none⟩ (.int .i64 r')) g #[.int .i64 p, .int .i64 q, .int .i64 r', .int .i64 s])
    replace d1 : At 32 (Y.setCell ⟨g, 2, none⟩ (.int .i64 r')).drew w.heap.size #[.int .i64 x, .int .i64 y', .int .i64 z'] := d1.setOther (by omega) _
    replace d2 : At 32 (Y.setCell ⟨g, 2, none⟩ (.int .i64 r')).drew (w.heap.size + 1) #[.int .i64 0, .int .i64 0, .int .i64 0] := d2.setOther (by omega) _
    replace dW : Below w.heap.size w (Y.setCell ⟨g, 2, none⟩ (.int .i64 r')).drew := (dW.setCell (p := ⟨g, 2, none⟩) (by show w.heap.size ≤ g; omega) _).drew
    obtain ⟨Z, hZ⟩ : ∃ Z, (Y.setCell ⟨g, 2, none⟩ (.int .i64 r')).drew = Z := ⟨_, rfl⟩
    rw [hZ] at d1 d2 d4 dW ⊢
    clear hZ hr' c0 c1 c2 f0 f1 f2 v0 v1 v2 v3 g2 g3
    obtain ⟨c0, c1, c2, f0, f1, f2⟩ := d1.open3
    obtain ⟨v0, v1, v2, v3, g2, g3⟩ := d4.open4
    go_region
    obtain ⟨s', hs'⟩ : ∃ s', wrap64 (s - wrap64 (k * q)) = s' := ⟨_, rfl⟩
    rw [hs']
    replace d4 : At 2 (Z.setCell ⟨g, 3, none⟩ (.int .i64 s')).drew g #[.int .i64 p, .int .i64 q, .int .i64 r', .int .i64 s'] := (by simpa using d4.set 3 (.int .i64 s') : At 2 (Z.setCell ⟨g, 3, none⟩ (.int .i64 s')) g #[.int .i64 p, .int .i64 q, .int .i64 r', .int .i64 s'])
    replace d1 : At 32 (Z.setCell ⟨g, 3, none⟩ (.int .i64 s')).drew w.heap.size #[.int .i64 x, .int .i64 y', .int .i64 z'] := d1.setOther (by omega) _
    replace d2 : At 32 (Z.setCell ⟨g, 3, none⟩ (.int .i64 s')).drew (w.heap.size + 1) #[.int .i64 0, .int .i64 0, .int .i64 0] := d2.setOther (by omega) _
    replace dW : Below w.heap.size w (Z.setCell ⟨g, 3, none⟩ (.int .i64 s')).drew := (dW.setCell (p := ⟨g, 3, none⟩) (by show w.heap.size ≤ g; omega) _).drew
    obtain ⟨T, hT⟩ : ∃ T, (Z.setCell ⟨g, 3, none⟩ (.int .i64 s')).drew = T := ⟨_, rfl⟩
    rw [hT] at d1 d2 d4 dW ⊢
    clear hT hs' c0 c1 c2 f0 f1 f2 v0 v1 v2 v3 g2 g3
    obtain ⟨c0, c1, c2, f0, f1, f2⟩ := d1.open3
    obtain ⟨v0, v1, v2, v3, g2, g3⟩ := d4.open4
    by_cases hlt : z' < x
    · have hge : ¬ x ≤ z' := by omega
      have hlt1 := d1.lt
      have hlt2 := d2.lt
      have hlt4 := d4.lt
      go_wp2_with fail
      replace d1 := put3_at d1 (.int .i64 z') (.int .i64 y') (.int .i64 x)
      replace d2 : At 32 (((T.setCell ⟨w.heap.size, 0, none⟩ (.int .i64 z')).setCell ⟨w.heap.size, 1, none⟩ (.int .i64 y')).setCell ⟨w.heap.size, 2, none⟩ (.int .i64 x)) (w.heap.size + 1) #[.int .i64 0, .int .i64 0, .int .i64 0] := ((d2.setOther (by omega) _).setOther (by omega) _).setOther (by omega) _
      replace d4 : At 2 (((T.setCell ⟨w.heap.size, 0, none⟩ (.int .i64 z')).setCell ⟨w.heap.size, 1, none⟩ (.int .i64 y')).setCell ⟨w.heap.size, 2, none⟩ (.int .i64 x)) g #[.int .i64 p, .int .i64 q, .int .i64 r', .int .i64 s'] := ((d4.setOther (by omega) _).setOther (by omega) _).setOther (by omega) _
      replace dW := put3_below dW (Nat.le_refl w.heap.size) (.int .i64 z') (.int .i64 y') (.int .i64 x)
      obtain ⟨U, hU⟩ : ∃ U, ((T.setCell ⟨w.heap.size, 0, none⟩ (.int .i64 z')).setCell ⟨w.heap.size, 1, none⟩ (.int .i64 y')).setCell ⟨w.heap.size, 2, none⟩ (.int .i64 x) = U := ⟨_, rfl⟩
      rw [hU] at d1 d2 d4 dW ⊢
      have hg4 := d4.lt
      clear hU c0 c1 c2 f0 f1 f2 v0 v1 v2 v3 g2 g3 hlt1 hlt2 hlt4
      obtain ⟨v0, v1, v2, v3, g2, g3⟩ := d4.open4
      go_region
      go_wp2
      obtain ⟨hsb, hsc⟩ := HSB.out
      obtain ⟨hg, hn, hf, hs2⟩ := HG.out
      rw [hsb, hsc] at hf hs2
      obtain ⟨m, hm, hfm⟩ := fin_step (y := y') hg.1.1 hn hs2.2.1.1 hlt
      have q1 := d1.below (below_alloc U (.cells #[.int .i64 r', .int .i64 s', .int .i64 p, .int .i64 q] 2))
      refine ⟨⟨m, z', y', x, U.heap.size, ⟨hs2.swap, hm, hfm.symm.trans hf⟩, rfl, by omega, ⟨r', s', p, q, at_new 2 U _⟩, q1, d2.below (below_alloc U _).drew, (bl_al0 dW).drew⟩, ?_⟩
      have hh : hd w.heap.size (U.alloc (.cells #[.int .i64 r', .int .i64 s', .int .i64 p, .int .i64 q] 2)).drew = z'.toNat := hd_at q1
      rw [hh, HH.out]
      have := hs2.2.1.1
      omega
    · have hge : x ≤ z' := by omega
      obtain ⟨e0, e1, e2, e3, e4, e5⟩ := d2.open3
      obtain ⟨hsb, hsc⟩ := HSB.out
      obtain ⟨hg, hn, hf, hs2⟩ := HG.out
      rw [hsb, hsc] at hf hs2
      have hR := fin_end (n := n) (y := y') hlt
      rw [hf] at hR
      have hyb' := hs2.2.2.1
      subst hR
      clear hf hg hn hs2 hsb hsc HG HSB HH
      by_cases hneg : y' < 0
      · have hmag : mag y' = -y' := if_pos hneg
        go_wp2
        have q2 : At 32 (((T.setCell ⟨w.heap.size, 1, none⟩ (.int .i64 (-y'))).setCell ⟨g, 2, none⟩ (.int .i64 (wrap64 (-r')))).setCell ⟨g, 3, none⟩ (.int .i64 (wrap64 (-s')))) (w.heap.size + 1) #[.int .i64 0, .int .i64 0, .int .i64 0] := ((d2.setOther (by omega) _).setOther (by omega) _).setOther (by omega) _
        obtain ⟨r0, r1, r2, -⟩ := (put3_at q2 (.int .i64 x) (.int .i64 (-y')) (.int .i64 z')).open3
        refine bodyPost_ret (v := .tuple #[.agg #[.int .i64 x, .int .i64 (-y'), .int .i64 z'], .slice (some ⟨g, 0, none⟩) 4 4]) (by simp [results, Try.results44, go_sem, r0, r1, r2]) rfl ⟨⟨.slice (some ⟨g, 0, none⟩) 4 4, ?_⟩, put3_below (((dW.setCell (p := ⟨w.heap.size, 1, none⟩) (Nat.le_refl _) _).setCell (p := ⟨g, 2, none⟩) (by show w.heap.size ≤ g; omega) _).setCell (p := ⟨g, 3, none⟩) (by show w.heap.size ≤ g; omega) _) (Nat.le_succ _) _ _ _⟩
        first | rfl | (rw [hmag])
      · have hmag : mag y' = y' := if_neg hneg
        go_wp2
        obtain ⟨r0, r1, r2, -⟩ := (put3_at d2 (.int .i64 x) (.int .i64 y') (.int .i64 z')).open3
        refine bodyPost_ret (v := .tuple #[.agg #[.int .i64 x, .int .i64 y', .int .i64 z'], .slice (some ⟨g, 0, none⟩) 4 4]) (by simp [results, Try.results44, go_sem, r0, r1, r2]) rfl ⟨⟨.slice (some ⟨g, 0, none⟩) 4 4, ?_⟩, put3_below dW (Nat.le_succ _) _ _ _⟩
        first | rfl | (rw [hmag])
end Go.Proofs.Ytlgkohiempcbhab
