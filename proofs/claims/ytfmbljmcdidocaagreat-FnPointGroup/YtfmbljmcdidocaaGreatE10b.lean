/-
  The point group by the program: walked.
-/
import Derived.Test.YtfmbljmcdidocaaGreatE10a
import Derived.Test.YtfmbljmcdidocaaGreatMQ
import Derived.Test.YtfmbljmcdidocaaGreatNC
namespace Go.Proofs.YtfmbljmcdidocaaGreat
open Go.RowKit

/-- The turn of an operator alone. -/
def zk (K : Nat → Int) : Nat → Int := cat 9 K (fun _ => 0)
def zF (F : Nat → Nat → Int) (i : Nat) : Nat → Int := zk (F i)
/-- An operator's M, with nothing in T. -/
def turnD (o : OpD) : OpD := ⟨9, o.f, 3, fun _ => 0⟩
theorem zk_key (o : OpD) : kV (zk o.key) = kV (turnD o).key := by
  refine kV_ext.2 ⟨fun j hj => ?_, fun i hi => ?_⟩
  · unfold zk
    rw [cat_lo _ _ hj, key_lo _ hj, key_lo _ hj]
    rfl
  · unfold zk
    rw [cat_hi, key_hi]
    rfl
set_option maxRecDepth 100000 in
set_option maxHeartbeats 3000000 in
theorem turnsOf_any {w : World} {base g n c : Nat} {F : Nat → Nat → Int} (hF : Oprs w base (.slice (some ⟨g, 0, none⟩) n c) n F) (hn : n ≤ 192) :
    Calls Tryz.prog 30 #[.slice (some ⟨g, 0, none⟩) n c] w fun e w' => (∃ v, e = .returned v ∧ Oprs w' w.heap.size v (kN (dup (zF F)) n) (fun j => zF F (kI (dup (zF F)) n j))) ∧ Below w.heap.size w w' := by
  have hbs2 : ∀ w, (Instr.buildSlice 52 0 #[]).run Tryz.prog w = .ok (.slice (some ⟨w.heap.size, 0, none⟩) 0 0) (w.alloc (.cells #[] 62)) := fun _ => by kernel_rfl
  obtain ⟨i0, hi0, hz0, hz1, hz2⟩ := info_parts Tryz.info62
  have hn' : (n : Int) ≤ 192 := by omega
  have HO := hid_of hF
  obtain ⟨W5, hW5, a5, B5, -⟩ := boxed w 62 #[]
  obtain ⟨p5, hp5⟩ : ∃ q, w.heap.size = q := ⟨_, rfl⟩
  have o5 : Hid (Oprs W5 w.heap.size (.slice (some ⟨p5, 0, none⟩) 0 0) 0 (zF F)) := hp5 ▸ oprs_new a5
  clear hF a5
  go_enter Tryz.func30, Tryz.ntmps30
  go_wp2
  clear hW5 hp5
  go_loopw [3, 9] (fun v s wr => ∃ i : Nat, i ≤ n ∧ s = .int .i64 (i : Int) ∧ Hid (Oprs wr w.heap.size v i (zF F)) ∧ Below w.heap.size w wr) (fun _ s _ => n - (intOf s).toNat)
  case atStart => exact ⟨0, Nat.zero_le _, rfl, o5, B5⟩
  case round =>
    clear o5 B5
    obtain ⟨i, hi, rfl, own, B⟩ := hrel
    by_cases hlt : i < n
    rotate_left
    · obtain rfl : i = n := by omega
      have hlt' : ¬ (i : Int) < (i : Int) := by omega
      obtain ⟨g', c', e'⟩ := oprs_open own.out
      subst e'
      go_wp2_with fail
      refine (compact_any own.out (by omega)).mono ?_
      rintro e w9 ⟨rfl, hO, hk⟩
      have hlo := own.out.lt.1
      have BF : Below w.heap.size w w9 := B.trans (hk.below hlo B.size)
      have HOF := hid_of hO
      clear hO hk own B
      go_wp2
      go_ret
      exact ⟨⟨_, rfl, HOF.out⟩, BF⟩
    have hlt' : (i : Int) < (n : Int) := by omega
    obtain ⟨e0, e1, e2, e3, e4, e5, e6, e7, e8, e9, e10, e11⟩ := (HO.out.below B).open i hlt
    obtain ⟨K, hK⟩ : ∃ K, F i = K := ⟨_, rfl⟩
    have HK := hid_of hK
    simp only [hK] at e0 e1 e2 e3 e4 e5 e6 e7 e8 e9 e10 e11
    clear hK
    obtain ⟨W7, hW7, a7, b7, -⟩ := boxed wr 62 (kc K).toArray
    obtain ⟨p7, hp7⟩ : ∃ p, wr.heap.size = p := ⟨_, rfl⟩
    rw [hp7] at a7
    have B7 := B.trans (b7.mono B.size)
    obtain ⟨d0, d1, d2, d3, d4, d5, d6, d7, d8, d9, d10, d11⟩ := At.openk (x := K) a7
    obtain ⟨W4, hW4, a4', b4, -⟩ := boxed W7 62 #[.int .i64 (K 0), .int .i64 (K 1), .int .i64 (K 2), .int .i64 (K 3), .int .i64 (K 4), .int .i64 (K 5), .int .i64 (K 6), .int .i64 (K 7), .int .i64 (K 8), .int .i64 0, .int .i64 0, .int .i64 0]
    obtain ⟨p4, hp4⟩ : ∃ p, W7.heap.size = p := ⟨_, rfl⟩
    rw [hp4] at a4'
    have a4 : At 62 W4 p4 (kc (zk K)).toArray := a4'
    have own4 := hid_of ((own.out.below b7).below b4).1
    have B14 := B7.trans (b4.mono B7.size)
    have hm1 : i + 1 ≤ maxLen := by unfold maxLen; omega
    have hm2 : (i + 1) * 96 ≤ 140737488355328 := by omega
    clear own b7 B B7 b4 a4'
    unfold kc at hW7
    go_wp2_with (at_builtin; refine Hid.out (?_ : Hid _))
    refine (?_ : wpList _ _ _ _ _ _)
    refine wpList_append_own_at _ rfl _ _ _ rfl w.heap.size 62 i0 _ 12 96 Tryz.underlying52 hi0 hz0 hz1 hz2 rfl (by omega) u3 i (kCells (zF F) i) rfl own4.out ⟨p4, 0, none⟩ 1 1 (kc (zk K)) rfl rfl (cell12_new W4 p4 (zk K) a4) (kc_one _) hm1 hm2 B14.size ?_
    intro v6 w6 hown5 hgrow5 hne5 hblk5
    have OF : Hid (Oprs w6 w.heap.size v6 (i + 1) (zF F)) := by
      refine ⟨?_, fun e => by have := (hne5.1 e).2; omega⟩
      show w6.ownsRow _ _ 12 v6 _ (kCells (zF F) i ++ kc (zk (F i)))
      rw [HK.out]
      exact hown5
    have BF : Below w.heap.size w w6 := B14.grown hgrow5 B14.size (fun x hx => ownBlock_ge own4.out hx)
    clear hown5 hgrow5 hne5 hblk5 own4 B14 a4 hW4 hp4 hm1 hm2 d0 d1 d2 d3 d4 d5 d6 d7 d8 d9 d10 d11 e0 e1 e2 e3 e4 e5 e6 e7 e8 e9 e10 e11 hW7 hp7 a7
    go_wp2
    exact ⟨⟨i + 1, by omega, by go_num, OF, BF⟩, by simp [intOf]; omega⟩
/-- How the program's PointGroup ends. -/
def PgF (w : World) (n : Nat) (A : Nat → OpD) (e : Ending) (w' : World) : Prop :=
  (∃ g' m c' X Y, e = .returned (.slice (some ⟨g', 0, none⟩) m c') ∧ OpsA w' w.heap.size w'.heap.size g' m X Y (fun j => opD (zF (fun i => (A i).key) (kI (dup (zF (fun i => (A i).key))) n j))) ∧ ((isG n A ∧ m = kN (dup (zF (fun i => (A i).key))) n) ∨ (¬ isG n A ∧ m = 0))) ∧ Below w.heap.size w w'
set_option maxRecDepth 100000 in
set_option maxHeartbeats 1600000 in
theorem implPoint_any {w : World} {g n c : Nat} {A : Nat → OpD} (hL : OpsL w g n A) (hn : n ≤ 1048576) :
    Calls Tryz.prog 8 #[.slice (some ⟨g, 0, none⟩) n c] w fun e w' => PgF w n A e w' := by
  go_enter Tryz.func8, Tryz.ntmps8
  go_wp2_with fail
  refine (groupOf_any hL hn).mono ?_
  rintro e w4 ⟨⟨v6, rfl, hG⟩, b4⟩
  obtain ⟨g6, m, c6, rfl, hO, hm, hmn, hGm⟩ := grp_one hG
  have HGm := hid_of hGm
  clear hG hGm
  go_wp2_with fail
  refine (turnsOf_any hO hm).mono ?_
  rintro e w5 ⟨⟨v7, rfl, hO5⟩, b5⟩
  obtain ⟨g7, c7, rfl⟩ := oprs_open hO5
  have hk := kN_le (dup (zF (fun i => (A i).key))) m
  have B5 := b4.trans (b5.mono b4.size)
  go_wp2_with fail
  refine (toldOps_any hO5 (by omega)).mono ?_
  rintro e w8 ⟨⟨g8, c8, X, Y, rfl, H⟩, b8⟩
  have B8 := B5.trans (b8.mono B5.size)
  have FI : Hid (PgF w n A (.returned (.slice (some ⟨g8, 0, none⟩) (kN (dup (zF (fun i => (A i).key))) m) c8)) w8) := by
    rcases HGm.out with ⟨h1, h2⟩ | ⟨h1, h2⟩
    · subst h2
      exact ⟨⟨g8, _, c8, X, Y, rfl, H.lower B5.size, .inl ⟨h1, rfl⟩⟩, B8⟩
    · subst h2
      have h0 : kN (dup (zF (fun i => (A i).key))) 0 = 0 := rfl
      rw [h0] at H ⊢
      exact ⟨⟨g8, 0, c8, X, Y, rfl, ⟨⟨Nat.le_trans B5.size H.blk.1, H.blk.2⟩, fun i hi => absurd hi (Nat.not_lt_zero _), fun i hi => absurd hi (Nat.not_lt_zero _), H.dj⟩, .inr ⟨h1, rfl⟩⟩, B8⟩
  clear H b8 hO5 hO b5 B5 B8 b4
  go_wp2
  go_ret
  exact FI.out
end Go.Proofs.YtfmbljmcdidocaaGreat
