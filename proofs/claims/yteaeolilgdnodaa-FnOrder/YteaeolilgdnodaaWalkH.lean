/-
  The program's order of complex numbers, walked, and held against the specification's.
-/
import Derived.Test.YteaeolilgdnodaaWalkG
namespace Go.Proofs.Yteaeolilgdnodaa
open Go.RowKit Fl

/-- Two whole numbers compared. -/
def cmpI (a b : Int) : Int := if a < b then -1 else if b < a then 1 else 0

theorem compare_any (a b : Int) (w : World) : Calls Try.prog 30 #[.int .i64 a, .int .i64 b] w fun e w' => e = .returned (.int .i64 (cmpI a b)) ∧ w' = w := by
  by_cases h1 : a < b
  · have e : cmpI a b = -1 := by unfold cmpI; rw [if_pos h1]
    rw [e]
    go_enter Try.func30, Try.ntmps30
    go_wp2
    go_ret
    exact ⟨rfl, rfl⟩
  · by_cases h2 : b < a
    · have e : cmpI a b = 1 := by unfold cmpI; rw [if_neg h1, if_pos h2]
      rw [e]
      go_enter Try.func30, Try.ntmps30
      go_wp2
      go_ret
      exact ⟨rfl, rfl⟩
    · have e : cmpI a b = 0 := by unfold cmpI; rw [if_neg h1, if_neg h2]
      rw [e]
      go_enter Try.func30, Try.ntmps30
      go_wp2
      go_ret
      exact ⟨rfl, rfl⟩

theorem floatRank_same {x : Nat} (hx : x < 2 ^ 64) (w : World) : Calls Try.prog 31 #[.float .f64 x] w fun e w' => e = .returned (.int .i64 (key x)) ∧ w' = w :=
  (floatRank_any hx w).mono fun _ _ ⟨h1, h2⟩ => ⟨h1, h2.symm⟩

/-- The order of two floats by rank. -/
def ko (x y : Nat) : Int := cmpI (key x) (key y)
/-- The order of two complex numbers by rank. -/
def cko (a b c d : Nat) : Int := if ko a c = 0 then ko b d else ko a c

theorem or_first (a : Int) (q : Nat) (w : World) (h : a ≠ 0) (h0 : w.cell? ⟨q, 0, none⟩ = some (.int .i64 a)) :
    Calls Try.prog 32 #[.slice (some ⟨q, 0, none⟩) 2 2] w fun e w' => e = .returned (.int .i64 a) ∧ w' = w := by
  have hn : (a != 0) = true := by simpa using h
  clear h
  go_enter Try.func32, Try.ntmps32
  go_wp2
  refine wp_loop_rounds 1 ?_
  rw [rounds_succ]
  go_wp2
  go_ret
  exact ⟨rfl, rfl⟩

theorem or_second (b : Int) (q : Nat) (w : World) (h0 : w.cell? ⟨q, 0, none⟩ = some (.int .i64 0)) (h1 : w.cell? ⟨q, 1, none⟩ = some (.int .i64 b)) :
    Calls Try.prog 32 #[.slice (some ⟨q, 0, none⟩) 2 2] w fun e w' => e = .returned (.int .i64 b) ∧ w' = w := by
  by_cases h : b = 0
  · subst h
    go_enter Try.func32, Try.ntmps32
    go_wp2
    refine wp_loop_rounds 3 ?_
    rw [rounds_succ]
    go_wp2
    rw [rounds_succ]
    go_wp2
    rw [rounds_succ]
    go_wp2
    go_ret
    exact ⟨rfl, rfl⟩
  · have hn : (b != 0) = true := by simpa using h
    clear h
    go_enter Try.func32, Try.ntmps32
    go_wp2
    refine wp_loop_rounds 2 ?_
    rw [rounds_succ]
    go_wp2
    rw [rounds_succ]
    go_wp2
    go_ret
    exact ⟨rfl, rfl⟩

theorem implOrder_any {a b c d : Nat} (ha : a < 2 ^ 64) (hb : b < 2 ^ 64) (hc : c < 2 ^ 64) (hd : d < 2 ^ 64) (w : World) :
    Calls Try.prog 13 #[.agg #[.float .f64 a, .float .f64 b], .agg #[.float .f64 c, .float .f64 d]] w fun e w' => e = .returned (.int .i64 (cko a b c d)) ∧ Below w.heap.size w w' := by
  obtain ⟨W, hW⟩ : ∃ W, (w.alloc (.cells #[.float .f64 a, .float .f64 b] 26)).alloc (.cells #[.float .f64 c, .float .f64 d] 26) = W := ⟨_, rfl⟩
  have bW : Below w.heap.size w W := by subst hW; exact (below_alloc _ _).trans ((below_alloc _ _).mono (by simp))
  have b0 : Box W w.heap.size (.float .f64 a) (.float .f64 b) := by subst hW; exact (box_new _ _ _).below (below_alloc _ _)
  have b1 : Box W (w.heap.size + 1) (.float .f64 c) (.float .f64 d) := by subst hW; exact box_new' _ _ _ (by simp)
  obtain ⟨p0, p1, p2, p3⟩ := b0.open
  obtain ⟨q0, q1, q2, q3⟩ := b1.open
  go_enter Try.func13, Try.ntmps13
  go_wp2
  clear hW
  go_quiet ((first | (go_at_call 31; exact Calls.quiet_of_same (floatRank_same (by assumption) _)) | (go_at_call 30; exact Calls.quiet_of_same (compare_any _ _ _))))
  go_wp2
  generalize hV : W.drewN nq = V
  have bV : Below w.heap.size w V := by subst hV; exact below_drewN bW _
  replace p1 : V.cell? ⟨w.heap.size, 1, none⟩ = some (.float .f64 b) := by subst hV; exact p1
  replace q1 : V.cell? ⟨w.heap.size + 1, 1, none⟩ = some (.float .f64 d) := by subst hV; exact q1
  clear hV p0 p2 p3 q0 q2 q3 bW b0 b1
  go_quiet ((first | (go_at_call 31; exact Calls.quiet_of_same (floatRank_same (by assumption) _)) | (go_at_call 30; exact Calls.quiet_of_same (compare_any _ _ _))))
  go_wp2_with fail
  have hfin : Below w.heap.size w ((V.drewN nq).alloc (.cells #[.int .i64 (cmpI (key a) (key c)), .int .i64 (cmpI (key b) (key d))] 3)) := (below_drewN bV _).alloc bV.size _
  have c0 : ((V.drewN nq).alloc (.cells #[.int .i64 (cmpI (key a) (key c)), .int .i64 (cmpI (key b) (key d))] 3)).cell? ⟨V.heap.size, 0, none⟩ = some (.int .i64 (cmpI (key a) (key c))) := 
    World.cell?_alloc_at (w := V.drewN nq) _ _ _ _ rfl
  have c1 : ((V.drewN nq).alloc (.cells #[.int .i64 (cmpI (key a) (key c)), .int .i64 (cmpI (key b) (key d))] 3)).cell? ⟨V.heap.size, 1, none⟩ = some (.int .i64 (cmpI (key b) (key d))) := 
    World.cell?_alloc_at (w := V.drewN nq) _ _ _ _ rfl
  by_cases h : cmpI (key a) (key c) = 0
  · have e : cko a b c d = cmpI (key b) (key d) := by unfold cko ko; rw [if_pos h]
    refine (or_second (cmpI (key b) (key d)) _ _ (by rw [c0, h]) c1).mono ?_
    rintro e w1 ⟨rfl, rfl⟩
    clear c0 c1 h
    go_wp2
    go_ret
    rw [e]
    exact ⟨rfl, hfin⟩
  · have e : cko a b c d = cmpI (key a) (key c) := by unfold cko ko; rw [if_neg h]
    refine (or_first (cmpI (key a) (key c)) _ _ h c0).mono ?_
    rintro e w1 ⟨rfl, rfl⟩
    clear c0 c1 h
    go_wp2
    go_ret
    rw [e]
    exact ⟨rfl, hfin⟩

theorem isn_rung {x : Nat} (h : isn Ieee.double x = false) : rung Ieee.double x ≤ Ieee.double.infRung := by
  unfold isn at h
  rw [read_eq, rd_nan] at h
  have hb := dbl_ok
  simp at h
  omega

/-- The specification's order of two floats is that of their ranks. -/
theorem lo_eq_ko (x y : Nat) : lo x y = ko x y := by
  have hi : Ieee.double.infRung = 9218868437227405312 := by decide +kernel
  by_cases hx : isn Ieee.double x = true
  · by_cases hy : isn Ieee.double y = true
    · unfold lo ko cmpI rk key
      simp [hx, hy, ord_nan (.inl hx)]
    · have hy : isn Ieee.double y = false := by simpa using hy
      have hr := isn_rung hy
      rw [hi] at hr
      have e1 : rk x = 4 := by unfold rk; rw [if_pos hx]
      have e2 : rk y < 4 := by unfold rk; rw [hy]; simp; split <;> split <;> omega
      have e3 : key x = 9223372036854775807 := by unfold key; rw [if_pos hx]
      have e4 : key y < 9223372036854775807 := by unfold key; rw [hy]; simp; split <;> omega
      unfold lo ko cmpI
      rw [if_neg (by omega), if_pos (by omega), if_neg (by omega), if_pos (by omega)]
  · have hx : isn Ieee.double x = false := by simpa using hx
    have hrx := isn_rung hx
    rw [hi] at hrx
    by_cases hy : isn Ieee.double y = true
    · have e1 : rk y = 4 := by unfold rk; rw [if_pos hy]
      have e2 : rk x < 4 := by unfold rk; rw [hx]; simp; split <;> split <;> omega
      have e3 : key y = 9223372036854775807 := by unfold key; rw [if_pos hy]
      have e4 : key x < 9223372036854775807 := by unfold key; rw [hx]; simp; split <;> omega
      unfold lo ko cmpI
      rw [if_pos (by omega), if_pos (by omega)]
    · have hy : isn Ieee.double y = false := by simpa using hy
      have ho : FloatKind.f64.format.order x y = some (compare (ival Ieee.double x) (ival Ieee.double y)) := order_ival Ieee.double dbl_ok hx hy
      have ol : (FloatKind.f64.format.order x y = some .lt) ↔ ival Ieee.double x < ival Ieee.double y := by rw [ho]; simp [Int.compare_eq_lt]
      have og : (FloatKind.f64.format.order x y = some .gt) ↔ ival Ieee.double y < ival Ieee.double x := by rw [ho]; simp [Int.compare_eq_gt]
      have v1 := val_lt_iff Ieee.double (rung Ieee.double x) (rung Ieee.double y)
      have v2 := val_lt_iff Ieee.double (rung Ieee.double y) (rung Ieee.double x)
      unfold lo ko cmpI
      simp only [ol, og]
      unfold rk key ival
      rw [hx, hy]
      generalize val Ieee.double (rung Ieee.double x) = vx at *
      generalize val Ieee.double (rung Ieee.double y) = vy at *
      generalize rung Ieee.double x = rx at *
      generalize rung Ieee.double y = ry at *
      cases sgn Ieee.double x <;> cases sgn Ieee.double y <;> simp only [Bool.false_eq_true, if_false, if_true] <;> (repeat' split) <;> omega

end Go.Proofs.Yteaeolilgdnodaa
