/-
  The cursor made, and floats and complex numbers drawn, walked.
-/
import Derived.Test.YtmlgkmgkicdnbaaLWalkC
namespace Go.Proofs.Ytmlgkmgkicdnbaa
open Go.RowKit Fl

@[go_sem] theorem build65 (s : Value) (h : Int) (w : World) (hs : s.oneCell' = true) : (Instr.build 84 #[(0, s), (2, .int .i64 h)]).run Try.prog w = .ok (.agg #[s, .int .i64 0, .int .i64 h]) w := by
  cases s <;> first | (simp [Value.oneCell'] at hs; done) | exact run_build w 84 _ _ (by kernel_rfl)

theorem new_any {w : World} {a : Option Addr} {len cap : Nat} (hr : Row w w.heap.size a len) :
    Calls Try.prog 25 #[.slice a len cap] w fun e w' => e = .returned (.pointer (some ⟨w.heap.size, 0, none⟩)) ∧ Below w.heap.size w w' ∧ Cur w' w.heap.size a len cap := by
  have hm := hr.1
  have HR : Hid (Row w w.heap.size a len) := hr
  clear hr
  unfold maxLen at hm
  have hb : ∀ (s : Option Addr) (l c : Nat) (h : Int) (w : World), (Instr.build 84 #[(0, .slice s l c), (2, .int .i64 h)]).run Try.prog w = .ok (.agg #[.slice s l c, .int .i64 0, .int .i64 h]) w := fun s l c h w => run_build w 84 _ _ (by kernel_rfl)
  go_enter Try.func25, Try.ntmps25
  go_wp2
  go_loop [3, 4] (fun h i => ∃ (k : Nat) (z : Int), k ≤ len ∧ i = .int .i64 k ∧ h = .int .i64 z) (fun _ i => len - (intOf i).toNat)
  case atStart => exact ⟨0, _, Nat.zero_le _, rfl, rfl⟩
  case round =>
    obtain ⟨k, z, hk, rfl, rfl⟩ := hrel
    by_cases hlt : k < len
    · rcases HR.out.2 with h0 | ⟨b, off, rfl, hbp, hcell⟩
      · omega
      obtain ⟨n, n0, n1, hn⟩ := hcell k hlt
      clear hcell
      have hlt' : (k : Int) < (len : Int) := by omega
      go_wp2
      go_round
      case rel => exact ⟨k + 1, _, by omega, by go_num, rfl⟩
      case measure => simp [intOf]; omega
    · go_wp2
      go_ret
      have hbl : Below w.heap.size w (w.alloc (.cells #[.slice a len cap, .int .i64 0, .int .i64 z] 84)) := (Below.refl _ _).alloc (Nat.le_refl _) _
      exact ⟨rfl, hbl, 0, z, Nat.zero_le _, heap_alloc_new _ _, HR.out.kept (.of_below hbl) (Nat.le_refl _)⟩

theorem zero_any (w : World) : Calls Try.prog 72 #[] w fun e w' => e = .returned (.float .f64 0) ∧ w = w' := by
  go_enter Try.func72, Try.ntmps72
  go_wp2
  go_ret
  exact ⟨rfl, rfl⟩

theorem Dr.drewN {w0 w : World} {p : Nat} {a : Option Addr} {len cap n : Nat} (h : Dr w0 p a len cap w) : Dr w0 p a len cap (w.drewN n) := h.below (below_drewN (Below.refl _ _) n)
theorem Dr.alloc {w0 w : World} {p : Nat} {a : Option Addr} {len cap : Nat} (h : Dr w0 p a len cap w) (o : Obj) : Dr w0 p a len cap (w.alloc o) := h.below ((Below.refl _ _).alloc (Nat.le_refl _) _)

theorem isn_lt (k : FloatKind) (x y t : Nat) : (Question.nanBits k x y).cut t < 2 ^ k.format.width := by
  cases k
  · show _ < 2 ^ 32
    have h1 : t / 2 % (2 ^ 23 - 1) < 2 ^ 23 - 1 := Nat.mod_lt _ (by decide)
    simp only [Question.cut]; omega
  · show _ < 2 ^ 64
    have h1 : t / 2 % (2 ^ 52 - 1) < 2 ^ 52 - 1 := Nat.mod_lt _ (by decide)
    simp only [Question.cut]; omega

theorem fv_lt (op : BinOp) (x y : Nat) (w : World) : fv op .f64 x y w < 2 ^ 64 := by
  unfold fv
  split
  · rename_i r h
    have := floatBits_wf h
    simpa [Lit.wf] using this
  · exact isn_lt .f64 x y _

theorem ofInt_lt (n : Int) : floatOfInt .f64 n < 2 ^ 64 := by
  have := floatOfInt_wf .f64 n
  simpa [Lit.wf] using this

/-- A row of floats that was just laid, read behind a draw. -/
theorem floats_at {w w2 : World} {p q : Nat} {cs : Array Value} {t : TypeId} (hq : q = w.heap.size) (hk : Kept p (w.alloc (.cells cs t)) w2) (hp : p < w.heap.size) {j : Nat} {v : Nat} (hv : cs[j]? = some (.float .f64 v)) :
    w2.cell? ⟨q, j, none⟩ = some (.float .f64 v) := by
  rw [hk.cell (by omega) (by simp; omega), World.cell?_alloc_at _ _ _ _ hq, hv]

theorem drawFloat_dr {w0 w : World} {p : Nat} {a : Option Addr} {len cap : Nat} (hc : Dr w0 p a len cap w) :
    Calls Try.prog 62 #[.pointer (some ⟨p, 0, none⟩)] w fun e w' => ∃ x : Nat, e = .returned (.float .f64 x) ∧ x < 2 ^ 64 ∧ Dr w0 p a len cap w' := by
  go_enter Try.func62, Try.ntmps62
  go_wp2_with (first | (go_at_call 61; refine (from_dr hc _ _ (by omega) (by omega) (by omega)).mono ?_; clear hc; rintro e w1 ⟨x, rfl, x0, x1, hc⟩) | (go_at_call 72; refine (zero_any _).mono ?_; rintro e w1 ⟨rfl, rfl⟩) | (go_at_call 27; refine (below_dr hc _ (by omega) (by omega)).mono ?_; clear hc; rintro e w1 ⟨y, rfl, y0, y1, hc⟩) | (go_at_call 27; refine (below_dr hc.drewN _ (by omega) (by omega)).mono ?_; clear hc; rintro e w1 ⟨y, rfl, y0, y1, hc⟩))
  · go_ret
    exact ⟨_, rfl, fv_lt .., hc.drewN⟩
  · go_ret
    exact ⟨_, rfl, fv_lt .., hc.drewN⟩
  · go_ret
    exact ⟨_, rfl, fv_lt .., hc.drewN⟩
  · go_ret
    exact ⟨_, rfl, fv_lt .., hc.drewN⟩
  · have hlt := (hc.drewN (n := 0)).2.lt
    refine (below_dr (Dr.start (hc.drewN.alloc _).2) 13 (by omega) (by omega)).mono ?_
    rintro e w2 ⟨z, rfl, z0, z1, hd⟩
    obtain ⟨v, hv, hcell⟩ : ∃ v, v < 2 ^ 64 ∧ w2.cell? ⟨w1.heap.size, z.toNat, none⟩ = some (.float .f64 v) := by
      have hj : z.toNat = 0 ∨ z.toNat = 1 ∨ z.toNat = 2 ∨ z.toNat = 3 ∨ z.toNat = 4 ∨ z.toNat = 5 ∨ z.toNat = 6 ∨ z.toNat = 7 ∨ z.toNat = 8 ∨ z.toNat = 9 ∨ z.toNat = 10 ∨ z.toNat = 11 ∨ z.toNat = 12 := by omega
      rcases hj with e | e | e | e | e | e | e | e | e | e | e | e | e <;> rw [e]
      all_goals exact ⟨_, by first | exact fv_lt .. | decide, floats_at rfl hd.1 hlt rfl⟩
    have hc2 : Dr w0 p a len cap w2 := hd.from (hc.drewN.alloc _).1
    clear hd hlt hc
    go_wp2
    go_ret
    exact ⟨_, rfl, hv, hc2⟩
  · go_loopw [3, 5] (fun x i wr => ∃ (v k : Nat), v < 2 ^ 64 ∧ x = .float .f64 v ∧ k ≤ 40 ∧ i = .int .i64 k ∧ Dr w0 p a len cap wr) (fun _ i _ => (intOf i).toNat)
    case atStart => exact ⟨_, y.toNat, ofInt_lt _, rfl, by omega, by rw [Int.toNat_of_nonneg y0], hc⟩
    case round =>
      obtain ⟨v, k, hv, rfl, hk, rfl, hd⟩ := hrel
      by_cases hz : k = 0
      · subst hz
        go_wp2
        go_ret
        exact ⟨_, rfl, hv, hd⟩
      · have hz' : (0 : Int) < (k : Int) := by omega
        go_wp2
        go_roundw
        case rel => exact ⟨_, k - 1, fv_lt .., rfl, by omega, by go_num, hd.drewN⟩
        case measure => simp [intOf]; omega
  · go_ret
    exact ⟨_, rfl, fv_lt .., hc.drewN⟩
  · go_ret
    exact ⟨_, rfl, ofInt_lt _, hc⟩

theorem Kept.setNew {p q i : Nat} {w w' : World} (h : Kept p w w') (hq : w.heap.size ≤ q) (v : Value) : Kept p w (w'.setCell ⟨q, i, none⟩ v) :=
  ⟨h.os, h.tape, h.output, by simp [World.setCell]; exact h.size, fun k hk hp => (Below.heap_setCell _ _ _ _ (by show k ≠ q; omega)).trans (h.block k hk hp)⟩

theorem Dr.set {w0 w : World} {p q i : Nat} {a : Option Addr} {len cap : Nat} (h : Dr w0 p a len cap w) (hp : p < q) (hq : w0.heap.size ≤ q) (v : Value) : Dr w0 p a len cap (w.setCell ⟨q, i, none⟩ v) := by
  refine ⟨h.1.setNew hq v, ?_⟩
  obtain ⟨j, x, hj, hh, hr⟩ := h.2
  refine ⟨j, x, hj, (Below.heap_setCell _ _ _ _ (by show p ≠ q; omega)).trans hh, hr.1, hr.2.imp id ?_⟩
  rintro ⟨b, off, e, hb, hcell⟩
  refine ⟨b, off, e, hb, fun j hj => ?_⟩
  obtain ⟨n, h0, h1, h2⟩ := hcell j hj
  exact ⟨n, h0, h1, (World.cell?_of_block (w := w) (Below.heap_setCell _ _ _ _ (by show b ≠ q; omega))).trans h2⟩

/-- A block of two cells of the call's own stands behind a draw. -/
theorem slot_keep {p q : Nat} {W w' : World} (hk : Kept p W w') {v0 v1 : Value} {t : TypeId} (hs : W.heap[q]? = some (.cells #[v0, v1] t)) (hq : q ≠ p) :
    w'.cell? ⟨q, 0, none⟩ = some v0 ∧ w'.cell? ⟨q, 1, none⟩ = some v1 ∧ w'.frozen? ⟨q, 0, none⟩ = false ∧ w'.frozen? ⟨q, 1, none⟩ = false := by
  have h := (hk.block q (Array.getElem?_eq_some_iff.1 hs).1 hq).trans hs
  simp [World.cell?, World.frozen?, h]

theorem drawCx_dr {w0 w : World} {p : Nat} {a : Option Addr} {len cap : Nat} (hc : Dr w0 p a len cap w) :
    Calls Try.prog 48 #[.pointer (some ⟨p, 0, none⟩)] w fun e w' => ∃ x y : Nat, e = .returned (.agg #[.float .f64 x, .float .f64 y]) ∧ x < 2 ^ 64 ∧ y < 2 ^ 64 ∧ Dr w0 p a len cap w' := by
  have hlt := hc.2.lt
  obtain ⟨W, hW⟩ : ∃ W, w.alloc (.cells #[.float .f64 0, .float .f64 0] 28) = W := ⟨_, rfl⟩
  have hd : Dr W p a len cap W := by subst hW; exact Dr.start (hc.alloc _).2
  have hk0 : Kept p w0 W := by subst hW; exact (hc.alloc _).1
  have hs : W.heap[w.heap.size]? = some (.cells #[.float .f64 0, .float .f64 0] 28) := by subst hW; exact heap_alloc_new _ _
  have hq : w.heap.size ≠ p := by omega
  have hsz : W.heap.size = w.heap.size + 1 := by subst hW; simp
  have hw0 : w0.heap.size ≤ w.heap.size := hc.1.size
  clear hc
  go_enter Try.func48, Try.ntmps48
  go_wp2_with (first | (go_at_call 28; refine (once_dr hd 3 (by omega) (by omega)).mono ?_; clear hd; rintro e w1 ⟨b, rfl, hd⟩; cases b) | (go_at_call 61; refine (from_dr hd _ _ (by omega) (by omega) (by omega)).mono ?_; clear hd; rintro e w1 ⟨x, rfl, x0, x1, hd⟩; obtain ⟨s0, s1, s2, s3⟩ := slot_keep hd.1 hs hq) | (go_at_call 62; refine (drawFloat_dr hd).mono ?_; clear hd; rintro e w1 ⟨x, rfl, hx, hd⟩; obtain ⟨s0, s1, s2, s3⟩ := slot_keep hd.1 hs hq))
  · rename_i u hu _ _ _ _
    have hf : Dr w0 p a len cap ((w1.setCell ⟨w.heap.size, 0, none⟩ (.float .f64 u)).setCell ⟨w.heap.size, 1, none⟩ (.float .f64 x)) := ((hd.from hk0).set hlt hw0 _).set hlt hw0 _
    exact bodyPost_ret (v := .agg #[.float .f64 u, .float .f64 x]) (by simp [results, Try.results48, go_sem, s0, s1]) rfl ⟨_, _, rfl, hu, hx, hf⟩
  · rename_i u _ _ _ _ _ _
    have hf : Dr w0 p a len cap ((w1.setCell ⟨w.heap.size, 0, none⟩ (.float .f64 (floatOfInt .f64 u))).setCell ⟨w.heap.size, 1, none⟩ (.float .f64 (floatOfInt .f64 x))) := ((hd.from hk0).set hlt hw0 _).set hlt hw0 _
    exact bodyPost_ret (v := .agg #[.float .f64 (floatOfInt .f64 u), .float .f64 (floatOfInt .f64 x)]) (by simp [results, Try.results48, go_sem, s0, s1]) rfl ⟨_, _, rfl, ofInt_lt _, ofInt_lt _, hf⟩

end Go.Proofs.Ytmlgkmgkicdnbaa
