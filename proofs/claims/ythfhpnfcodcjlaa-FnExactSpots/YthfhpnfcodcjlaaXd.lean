/-
  Spots, by the specification, walked.
-/
import Derived.Test.YthfhpnfcodcjlaaXc
namespace Go.Proofs.Ythfhpnfcodcjlaa
open Go.RowKit

/-- Pixel j comes ahead of the place (X, Y). -/
def Dn (N : Nat) (Y X : Int) (j : Nat) : Prop := ((j / N : Nat) : Int) < Y ∨ (((j / N : Nat) : Int) = Y ∧ ((j % N : Nat) : Int) < X)
/-- What is told so far of pixel k. -/
def Hi (N len : Nat) (f : Nat → Int) (lv : Int) (k : Nat) (Y X : Int) (b : Bool) : Prop := b = true ↔ (lv ≤ f k ∧ ∀ j, j < len → pr N ((k % N : Nat) : Int) ((k / N : Nat) : Int) 1 j = true → Dn N Y X j → ¬ bad f k j)
theorem Hi.start {N len : Nat} {f : Nat → Int} {lv : Int} {k : Nat} {b : Bool} (h : b = true ↔ lv ≤ f k) : Hi N len f lv k (((k / N : Nat) : Int) - 1) (((k % N : Nat) : Int) - 1) b := by
  unfold Hi
  rw [h]
  refine ⟨fun h => ⟨h, fun j _ hp hd => ?_⟩, fun h => h.1⟩
  rw [pr_iff] at hp
  unfold Dn at hd
  generalize ((k % N : Nat) : Int) = x at *
  generalize ((k / N : Nat) : Int) = y at *
  generalize ((j % N : Nat) : Int) = x' at *
  generalize ((j / N : Nat) : Int) = y' at *
  omega
theorem Hi.row {N len : Nat} {f : Nat → Int} {lv : Int} {k : Nat} {Y X : Int} {b : Bool} (h : Hi N len f lv k Y X b) (hX : ((k % N : Nat) : Int) + 1 < X) : Hi N len f lv k (Y + 1) (((k % N : Nat) : Int) - 1) b := by
  refine h.trans (and_congr_right fun _ => forall_congr' fun j => imp_congr_right fun _ => imp_congr_right fun hp => ?_)
  rw [pr_iff] at hp
  have : Dn N Y X j ↔ Dn N (Y + 1) (((k % N : Nat) : Int) - 1) j := by
    unfold Dn
    generalize ((k % N : Nat) : Int) = x at *
    generalize ((k / N : Nat) : Int) = y at *
    generalize ((j % N : Nat) : Int) = x' at *
    generalize ((j / N : Nat) : Int) = y' at *
    omega
  rw [this]
theorem Hi.fin {N len : Nat} {f : Nat → Int} {lv : Int} {k : Nat} {Y X : Int} {b : Bool} (h : Hi N len f lv k Y X b) (hY : ((k / N : Nat) : Int) + 1 < Y) : b = sp N len f lv k := by
  rw [Bool.eq_iff_iff, sp_iff]
  refine h.trans (and_congr_right fun _ => forall_congr' fun j => imp_congr_right fun _ => imp_congr_right fun hp => ?_)
  rw [pr_iff] at hp
  refine ⟨fun h => h (.inl ?_), fun h _ => h⟩
  generalize ((k % N : Nat) : Int) = x at *
  generalize ((k / N : Nat) : Int) = y at *
  generalize ((j % N : Nat) : Int) = x' at *
  generalize ((j / N : Nat) : Int) = y' at *
  omega
/-- One step of the row: nothing, or the pixel J. -/
theorem dn_step {N : Nat} {Y X : Int} {j : Nat} : Dn N Y (X + 1) j ↔ (Dn N Y X j ∨ (((j / N : Nat) : Int) = Y ∧ ((j % N : Nat) : Int) = X)) := by
  unfold Dn
  generalize ((j % N : Nat) : Int) = x' at *
  generalize ((j / N : Nat) : Int) = y' at *
  omega
theorem Hi.out {N len M : Nat} {f : Nat → Int} {lv : Int} {k : Nat} {Y X : Int} {b : Bool} (h : Hi N len f lv k Y X b) (hN : 0 < N) (hMN : M * N = len) (ho : X < 0 ∨ Y < 0 ∨ (N : Int) ≤ X ∨ (M : Int) ≤ Y) : Hi N len f lv k Y (X + 1) b := by
  refine h.trans (and_congr_right fun _ => forall_congr' fun j => imp_congr_right fun hj => imp_congr_right fun hp => ?_)
  rw [dn_step]
  have a1 : j % N < N := Nat.mod_lt _ hN
  have a2 : j / N < M := (Nat.div_lt_iff_lt_mul hN).2 (by omega)
  have : ¬ (((j / N : Nat) : Int) = Y ∧ ((j % N : Nat) : Int) = X) := by
    generalize j % N = x' at *
    generalize j / N = y' at *
    omega
  simp only [this, or_false]
theorem place_eq {N j J : Nat} {xn yn : Nat} (hx : xn < N) (hJ : J = yn * N + xn) : (((j / N : Nat) : Int) = (yn : Int) ∧ ((j % N : Nat) : Int) = (xn : Int)) ↔ j = J := by
  constructor
  · rintro ⟨h1, h2⟩
    have := Nat.div_add_mod j N
    have h1' : j / N = yn := by omega
    have h2' : j % N = xn := by omega
    rw [h1', h2', Nat.mul_comm] at this
    omega
  · rintro rfl
    rw [hJ, at_div hx, at_mod hx]
    exact ⟨rfl, rfl⟩
theorem Hi.good {N len : Nat} {f : Nat → Int} {lv : Int} {k xn yn J : Nat} {b : Bool} (h : Hi N len f lv k (yn : Int) (xn : Int) b) (hx : xn < N) (hJ : J = yn * N + xn) (hb : ¬ bad f k J) : Hi N len f lv k (yn : Int) ((xn : Int) + 1) b := by
  refine h.trans (and_congr_right fun _ => forall_congr' fun j => imp_congr_right fun hj => imp_congr_right fun hp => ?_)
  rw [dn_step, place_eq hx hJ]
  constructor
  · rintro h0 (h1 | rfl)
    · exact h0 h1
    · exact hb
  · exact fun h0 h1 => h0 (.inl h1)
theorem Hi.no {N len : Nat} {f : Nat → Int} {lv : Int} {k xn yn J : Nat} (hx : xn < N) (hJ : J = yn * N + xn) (hJl : J < len) (hp : pr N ((k % N : Nat) : Int) ((k / N : Nat) : Int) 1 J = true) (hb : bad f k J) : Hi N len f lv k (yn : Int) ((xn : Int) + 1) false := by
  refine Iff.intro (fun h => Bool.noConfusion h) (fun h => ?_)
  exact absurd hb (h.2 J hJl hp (dn_step.2 (.inr ((place_eq hx hJ).2 rfl))))
theorem not_bad_self (f : Nat → Int) (k : Nat) : ¬ bad f k k := by
  unfold bad
  omega
/-- The slot that holds it. -/
def HiS (N len : Nat) (f : Nat → Int) (lv : Int) (k : Nat) (Y X : Int) (s : Value) : Prop := ∃ b : Bool, s = .bool b ∧ Hi N len f lv k Y X b
set_option maxRecDepth 100000 in
set_option maxHeartbeats 16000000 in
theorem specSpots_any {w : World} {a : Option Addr} {len c : Nat} {f : Nat → Int} (W H lv : Int) (hs : Src w a len f) (hlen : len ≤ 1048576) :
    Calls Try.prog 21 #[fV W H (.slice a len c), .int .i64 lv] w (SpP W H len f lv w) := by
  have hbs : ∀ w, (Instr.buildSlice 34 0 #[]).run Try.prog w = .ok (.slice (some ⟨w.heap.size, 0, none⟩) 0 0) (w.alloc (.cells #[] 37)) := fun _ => by kernel_rfl
  obtain ⟨i0, hi0, hz0, hz1, hz2⟩ := info_parts infoSpot
  obtain ⟨V, hV, b0, bW, -⟩ := boxed w 26 #[.int .i64 W, .int .i64 H, .slice a len c]
  obtain ⟨V1, hV1, a1, bb, -⟩ := boxed V 37 #[]
  have s0 := b0.lt
  have z1 := a1.lt
  replace b0 := b0.below bb
  replace bW := bW.trans (bb.mono bW.size)
  clear bb
  have G : Gat w V1 w.heap.size 37 3 (.slice (some ⟨V.heap.size, 0, none⟩) 0 0) 0 [] :=
    ⟨⟨rfl, .inr ⟨V.heap.size, 0, #[], rfl, by omega, a1, Nat.le_refl _, Nat.zero_le _, rfl, rfl⟩⟩, ne_nil _ _ _, bW, Nat.le_refl _, bW.size⟩
  clear a1
  go_enter Try.func21, Try.ntmps21
  obtain ⟨oc00, oc01, oc02, -⟩ := b0.open3
  go_wp2_with fail
  refine (specFrameOk_any W H (hs.below bW) hlen).mono ?_
  rintro e w3 ⟨rfl, bb⟩
  clear oc00 oc01 oc02
  replace b0 := b0.below bb
  replace G := G.below bb
  replace bW := bW.trans (bb.mono bW.size)
  have z_w3 := bb.size
  clear bb
  clear hV hV1 hbs
  rcases hfr : frB W H len f with _ | _
  · have hno : ¬ spOk W H len f lv := fun h => frB_not hfr h.1
    clear hfr
    go_wp2
    go_ret
    exact ⟨_, rfl, by rw [spO_no hno]; exact G⟩
  · have hok := frB_of hfr
    go_wp2_with fail
    refine (in_any _ _ _ _).mono ?_
    rintro e w4 ⟨rfl, rfl⟩
    by_cases hl1 : 1 ≤ lv ∧ lv ≤ 65535
    · rw [decide_eq_true hl1]
      have hyes : spOk W H len f lv := ⟨hok, hl1⟩
      have HE : SpP W H len f lv w = fun e w' => ∃ v, e = .returned v ∧ Gat w w' w.heap.size 37 3 v (fil (sp W.toNat len f lv) len).length (spL W.toNat f (fil (sp W.toNat len f lv) len)) := by
        funext e w'
        unfold SpP
        rw [spO_yes hyes]
      have HEnd : ∀ v w', Gat w w' w.heap.size 37 3 v (fil (sp W.toNat len f lv) len).length (spL W.toNat f (fil (sp W.toNat len f lv) len)) → SpP W H len f lv w (.returned v) w' := fun v w' h => by
        rw [HE]; exact ⟨v, rfl, h⟩
      obtain ⟨hW, hH, hl, hf⟩ := hok
      obtain ⟨N, rfl⟩ : ∃ N : Nat, W = (N : Int) := ⟨W.toNat, by omega⟩
      obtain ⟨M, rfl⟩ : ∃ M : Nat, H = (M : Int) := ⟨H.toNat, by omega⟩
      have hN : 1 ≤ N ∧ N ≤ 64 := by omega
      have hM : 1 ≤ M ∧ M ≤ 64 := by omega
      have hMN : M * N = len := by
        have : ((M * N : Nat) : Int) = (len : Int) := by rw [hl, Int.natCast_mul, Int.mul_comm]
        omega
      have hl4 : len ≤ 4096 := by
        have := Nat.mul_le_mul hM.2 hN.2
        omega
      have hl0 : 0 < len := by
        have := Nat.mul_pos (show 0 < M by omega) (show 0 < N by omega)
        omega
      have HMN : Hid (M * N = len) := hMN
      clear hMN HE hfr hyes hl
      rcases hs with h0 | ⟨b, off, rfl, hb, hr⟩
      · omega
      simp only [Int.toNat_natCast] at HEnd
      have hN0 : ¬ N = 0 := by omega
      have r0 : Gat w w3 w.heap.size 37 3 (.slice (some ⟨V.heap.size, 0, none⟩) 0 0) (fil (sp N len f lv) 0).length (spL N f (fil (sp N len f lv) 0)) ∧ At 26 w3 w.heap.size #[.int .i64 N, .int .i64 M, .slice (some ⟨b, off, none⟩) len c] := ⟨G, b0⟩
      clear G b0 bW
      go_wp2_with fail
      go_loopw [5, 6] (fun s5 s6 wr => ∃ k : Nat, k ≤ len ∧ s6 = .int .i64 k ∧ Gat w wr w.heap.size 37 3 s5 (fil (sp N len f lv) k).length (spL N f (fil (sp N len f lv) k)) ∧ At 26 wr w.heap.size #[.int .i64 N, .int .i64 M, .slice (some ⟨b, off, none⟩) len c]) (fun _ s6 _ => len - (intOf s6).toNat)
      case atStart => exact ⟨0, Nat.zero_le _, rfl, r0⟩
      case round =>
        clear r0
        obtain ⟨k, hk, rfl, G, b0⟩ := hrel
        have bW := G.b
        obtain ⟨c0, c1, c2, -⟩ := b0.open3
        by_cases hlt : k < len
        · have hlt' : (k : Int) < (len : Int) := by omega
          have g0 := (bW.cell (p := ⟨b, off + k, none⟩) hb).trans (hr k hlt)
          have hX1 : k % N < N := Nat.mod_lt _ (by omega)
          have hY1 : k / N < M := (Nat.div_lt_iff_lt_mul (by omega)).2 (by have := HMN.out; omega)
          have hXt : (k : Int).tmod (N : Int) = ((k % N : Nat) : Int) := by simp [Int.tmod_eq_emod_of_nonneg]
          have hYt : (k : Int).tdiv (N : Int) = ((k / N : Nat) : Int) := by simp [Int.tdiv_eq_ediv_of_nonneg]
          obtain ⟨X, hX⟩ : ∃ X, k % N = X := ⟨_, rfl⟩
          obtain ⟨Y, hY⟩ : ∃ Y, k / N = Y := ⟨_, rfl⟩
          have hst := fun (b : Bool) (h : b = true ↔ lv ≤ f k) => Hi.start (N := N) (len := len) h
          have hrw := fun (Y X : Int) (b : Bool) (h : Hi N len f lv k Y X b) => Hi.row h
          have hfi := fun (Y X : Int) (b : Bool) (h : Hi N len f lv k Y X b) => Hi.fin h
          have hno := fun (xn yn J : Nat) (hx : xn < N) (hJ : J = yn * N + xn) => Hi.no (len := len) (f := f) (lv := lv) (k := k) hx hJ
          have hpr : ∀ J : Nat, pr N ((k % N : Nat) : Int) ((k / N : Nat) : Int) 1 J = pr N (X : Int) (Y : Int) 1 J := fun J => by rw [hX, hY]
          rw [hX] at hX1 hXt
          rw [hY] at hY1 hYt
          simp only [hX, hY] at hst hrw hfi hno
          have hFk := hf k hlt
          obtain ⟨Fk, hF⟩ : ∃ F, f k = F := ⟨_, rfl⟩
          rw [hF] at g0 hFk
          simp only [hF] at hst
          have wx : IntKind.i64.wrap (X : Int) = (X : Int) := IntWalk.i64_in _ (by omega)
          have wy : IntKind.i64.wrap (Y : Int) = (Y : Int) := IntWalk.i64_in _ (by omega)
          obtain ⟨s5, hs5⟩ : ∃ s5, u5 = s5 := ⟨_, rfl⟩
          rw [hs5] at G ⊢
          have HXY : Hid (k % N = X ∧ k / N = Y) := ⟨hX, hY⟩
          clear hs5 hX hY hpr
          obtain ⟨B0, hB0, hB1⟩ : ∃ B0 : Bool, decide (lv ≤ Fk) = B0 ∧ (B0 = true ↔ lv ≤ Fk) := ⟨_, rfl, decide_eq_true_iff⟩
          have H1 : Hid (HiS N len f lv k ((Y : Int) - 1) ((X : Int) - 1) (.bool B0)) := ⟨B0, rfl, hst B0 hB1⟩
          have HR : Hid (∀ (Yc Xc : Int) (b : Bool), Hi N len f lv k Yc Xc b → (X : Int) + 1 < Xc → Hi N len f lv k (Yc + 1) ((X : Int) - 1) b) := hrw
          have HF : Hid (∀ (Yc Xc : Int) (b : Bool), Hi N len f lv k Yc Xc b → (Y : Int) + 1 < Yc → b = sp N len f lv k) := hfi
          have HN : Hid (∀ (xn yn J : Nat), xn < N → J = yn * N + xn → J < len → pr N (X : Int) (Y : Int) 1 J = true → bad f k J → Hi N len f lv k (yn : Int) ((xn : Int) + 1) false) := hno
          clear hst hrw hfi hno hB1
          go_upto_region 9 with (fail)
          have r1 : HiS N len f lv k ((Y : Int) - 1) ((X : Int) - 1) (.bool B0) ∧ Gat w wr w.heap.size 37 3 s5 (fil (sp N len f lv) k).length (spL N f (fil (sp N len f lv) k)) ∧ At 26 wr w.heap.size #[.int .i64 N, .int .i64 M, .slice (some ⟨b, off, none⟩) len c] := ⟨H1.out, G, b0⟩
          clear H1 G b0 bW c0 c1 c2 g0 hB0
          go_wp2_with fail
          go_loopw [7, 8] (fun s7 s8 wr => ∃ Yc : Int, s8 = .int .i64 Yc ∧ (Y : Int) - 1 ≤ Yc ∧ Yc ≤ (Y : Int) + 2 ∧ HiS N len f lv k Yc ((X : Int) - 1) s7 ∧ Gat w wr w.heap.size 37 3 s5 (fil (sp N len f lv) k).length (spL N f (fil (sp N len f lv) k)) ∧ At 26 wr w.heap.size #[.int .i64 N, .int .i64 M, .slice (some ⟨b, off, none⟩) len c]) (fun _ s8 _ => ((Y : Int) + 2 - intOf s8).toNat)
          case atStart => exact ⟨_, rfl, by omega, by omega, r1⟩
          case round =>
            clear r1
            obtain ⟨Yc, rfl, hy1, hy2, hH, G, b0⟩ := hrel
            obtain ⟨c0, c1, c2, -⟩ := b0.open3
            by_cases hyl : Yc ≤ (Y : Int) + 1
            · have p1 : -64 ≤ Yc * (N : Int) ∧ Yc * (N : Int) ≤ 6400 := by
                have a1 : -1 * (N : Int) ≤ Yc * (N : Int) := Int.mul_le_mul_of_nonneg_right (by omega) (by omega)
                have a2 : Yc * (N : Int) ≤ 66 * (N : Int) := Int.mul_le_mul_of_nonneg_right (by omega) (by omega)
                omega
              go_upto_region 12 with (fail)
              have r2 : HiS N len f lv k Yc ((X : Int) - 1) u7 ∧ Gat w wr w.heap.size 37 3 s5 (fil (sp N len f lv) k).length (spL N f (fil (sp N len f lv) k)) ∧ At 26 wr w.heap.size #[.int .i64 N, .int .i64 M, .slice (some ⟨b, off, none⟩) len c] := ⟨hH, G, b0⟩
              clear hH G b0 c0 c1 c2
              go_wp2_with fail
              go_loopw [7, 9] (fun s7 s9 wr => ∃ Xc : Int, s9 = .int .i64 Xc ∧ (X : Int) - 1 ≤ Xc ∧ Xc ≤ (X : Int) + 2 ∧ HiS N len f lv k Yc Xc s7 ∧ Gat w wr w.heap.size 37 3 s5 (fil (sp N len f lv) k).length (spL N f (fil (sp N len f lv) k)) ∧ At 26 wr w.heap.size #[.int .i64 N, .int .i64 M, .slice (some ⟨b, off, none⟩) len c]) (fun _ s9 _ => ((X : Int) + 2 - intOf s9).toNat)
              case atStart => exact ⟨_, rfl, by omega, by omega, r2⟩
              case round =>
                clear r2
                obtain ⟨Xc, rfl, hx1, hx2, ⟨hb9, rfl, hH⟩, G, b0⟩ := hrel
                obtain ⟨c0, c1, c2, -⟩ := b0.open3
                by_cases hxl : Xc ≤ (X : Int) + 1
                · by_cases o1 : Xc < 0
                  · have hH' := hH.out (M := M) (by omega) HMN.out (.inl o1)
                    go_wp2
                    exact ⟨⟨Xc + 1, rfl, by omega, by omega, ⟨_, rfl, hH'⟩, G, b0⟩, by simp [intOf]; omega⟩
                  by_cases o2 : Yc < 0
                  · have hH' := hH.out (M := M) (by omega) HMN.out (.inr (.inl o2))
                    go_wp2
                    exact ⟨⟨Xc + 1, rfl, by omega, by omega, ⟨_, rfl, hH'⟩, G, b0⟩, by simp [intOf]; omega⟩
                  by_cases o3 : (N : Int) ≤ Xc
                  · have hH' := hH.out (M := M) (by omega) HMN.out (.inr (.inr (.inl o3)))
                    go_wp2
                    exact ⟨⟨Xc + 1, rfl, by omega, by omega, ⟨_, rfl, hH'⟩, G, b0⟩, by simp [intOf]; omega⟩
                  by_cases o4 : (M : Int) ≤ Yc
                  · have hH' := hH.out (M := M) (by omega) HMN.out (.inr (.inr (.inr o4)))
                    go_wp2
                    exact ⟨⟨Xc + 1, rfl, by omega, by omega, ⟨_, rfl, hH'⟩, G, b0⟩, by simp [intOf]; omega⟩
                  obtain ⟨xn, rfl⟩ : ∃ xn : Nat, Xc = (xn : Int) := ⟨Xc.toNat, by omega⟩
                  obtain ⟨yn, rfl⟩ : ∃ yn : Nat, Yc = (yn : Int) := ⟨Yc.toNat, by omega⟩
                  have hxN : xn < N := by omega
                  have hyM : yn < M := by omega
                  obtain ⟨J, hJe⟩ : ∃ J, J = yn * N + xn := ⟨_, rfl⟩
                  have hJI : (yn : Int) * (N : Int) + (xn : Int) = (J : Int) := by rw [hJe]; simp
                  have wrJ : IntKind.i64.wrap ((yn : Int) * (N : Int) + (xn : Int)) = (J : Int) := (IntWalk.i64_in _ (by omega)).trans hJI
                  clear hJI
                  have hJl : J < len := by
                    have a1 := Nat.mul_le_mul_right N (show yn + 1 ≤ M by omega)
                    have a2 := HMN.out
                    rw [Nat.succ_mul] at a1
                    omega
                  have hpJ : pr N (X : Int) (Y : Int) 1 J = true := by rw [hJe]; exact pr_at hxN (by omega) (by omega) (by omega) (by omega)
                  have HJE : Hid (J = yn * N + xn) := hJe
                  clear hJe
                  by_cases hJk : J = k
                  · have hJk' : ((J : Int) == (k : Int)) = true := by simp [hJk]
                    have hH' := hH.good hxN HJE.out (by rw [hJk]; exact not_bad_self f k)
                    clear hJk
                    go_wp2
                    exact ⟨⟨(xn : Int) + 1, rfl, by omega, by omega, ⟨_, rfl, hH'⟩, G, b0⟩, by simp [intOf]; omega⟩
                  · have hJk' : ((J : Int) == (k : Int)) = false := by simp; omega
                    have hbr : b < wr.heap.size := Nat.lt_of_lt_of_le hb G.b.size
                    have g1 := (G.b.cell (p := ⟨b, off + J, none⟩) hb).trans (hr J hJl)
                    have g2 := (G.b.cell (p := ⟨b, off + k, none⟩) hb).trans (hr k hlt)
                    have hbd : bad f k J ↔ (f k < f J ∨ (f J = f k ∧ J < k)) := Iff.rfl
                    rw [hF] at g2 hbd
                    obtain ⟨Fj, hFj⟩ : ∃ F, f J = F := ⟨_, rfl⟩
                    rw [hFj] at g1 hbd
                    have HBD : Hid (bad f k J ↔ (Fk < Fj ∨ (Fj = Fk ∧ J < k))) := hbd
                    clear hbd
                    obtain ⟨j, hj⟩ : ∃ j, J = j := ⟨_, rfl⟩
                    have hjl' : (J : Int) < (len : Int) := by omega
                    have hj0 : (0 : Int) ≤ (J : Int) := by omega
                    have hk0 : (0 : Int) ≤ (k : Int) := by omega
                    subst hj
                    go_upto_region 16 with (fail)
                    clear c0 c1 c2
                    by_cases q1 : Fk < Fj
                    · have hbJ : bad f k J := HBD.out.2 (.inl q1)
                      obtain ⟨u0, hu0, bb⟩ : ∃ uu, wr.drew = uu ∧ Below wr.heap.size wr uu := ⟨_, rfl, (Below.refl _ _).drew⟩
                      replace b0 := b0.below bb
                      replace G := G.below bb
                      replace g1 := (bb.cell (p := ⟨b, off + J, none⟩) hbr).trans g1
                      replace g2 := (bb.cell (p := ⟨b, off + k, none⟩) hbr).trans g2
                      have hbu : b < u0.heap.size := Nat.lt_of_lt_of_le hbr bb.size
                      clear bb
                      refine wp_region_held_drew (S := Kb u0) (by kernel_rfl) (by rw [hu0]; exact Below.refl _ _) (fun hHeld => ?_)
                      rw [hu0] at hHeld ⊢
                      clear hu0
                      have bu : Kb u0 u0 := Below.refl _ _
                      change wpAnyH _ _ _ _ _ 29 #[false, false, false, false, false, false, false, false, false, false, false, false, false, false, false, false, false, false, false, false, false, false, false, false, false, false, false, false, false] _ _
                      refine wpAnyH_take (i := 0) (v := .pointer (some ⟨w.heap.size, 2, none⟩)) rfl (by kernel_rfl) (by kernel_rfl) (by kernel_rfl) (fun _ _ _ h => h) (Or.inl ⟨by kernel_rfl, ?_⟩) hHeld ?_
                      · intro w' hSw; go_simp
                      try simp only [Act.put, List.setIfInBounds_toArray, List.set_cons_zero, List.set_cons_succ, List.getElem_toArray, List.getElem_cons_zero]
                      refine wpAnyH_take (i := 1) (v := .slice ((some ⟨b, off, none⟩)) len c) rfl (by kernel_rfl) (by kernel_rfl) (by kernel_rfl) (fun _ _ _ h => h) (Or.inl ⟨by kernel_rfl, ?_⟩) hHeld ?_
                      · intro w' hSw; obtain ⟨z0, z1, z2, -⟩ := (b0.below hSw).open3; go_simp
                      try simp only [Act.put, List.setIfInBounds_toArray, List.set_cons_zero, List.set_cons_succ, List.getElem_toArray, List.getElem_cons_succ, List.getElem_cons_zero]
                      refine wpAnyH_take (i := 2) (v := .int .i64 ((J : Int))) rfl (by kernel_rfl) (by kernel_rfl) (by kernel_rfl) (fun _ _ _ h => h) (Or.inl ⟨by kernel_rfl, ?_⟩) hHeld ?_
                      · intro w' hSw; go_simp
                      try simp only [Act.put, List.setIfInBounds_toArray, List.set_cons_zero, List.set_cons_succ, List.getElem_toArray, List.getElem_cons_succ, List.getElem_cons_zero]
                      refine wpAnyH_take (i := 3) (v := .pointer (some ⟨b, off + J, none⟩)) rfl (by kernel_rfl) (by kernel_rfl) (by kernel_rfl) (fun _ _ _ h => h) (Or.inl ⟨by kernel_rfl, ?_⟩) hHeld ?_
                      · intro w' hSw; go_simp
                      try simp only [Act.put, List.setIfInBounds_toArray, List.set_cons_zero, List.set_cons_succ, List.getElem_toArray, List.getElem_cons_succ, List.getElem_cons_zero]
                      refine wpAnyH_take (i := 4) (v := .int .i64 (Fj)) rfl (by kernel_rfl) (by kernel_rfl) (by kernel_rfl) (fun _ _ _ h => h) (Or.inl ⟨by kernel_rfl, ?_⟩) hHeld ?_
                      · intro w' hSw; have z0 := (fun {w' : World} (hSw : Kb u0 w') => (Below.cell (p := ⟨b, off + J, none⟩) hSw hbu).trans g1) hSw; go_simp
                      try simp only [Act.put, List.setIfInBounds_toArray, List.set_cons_zero, List.set_cons_succ, List.getElem_toArray, List.getElem_cons_succ, List.getElem_cons_zero]
                      refine wpAnyH_take (i := 5) (v := .pointer (some ⟨w.heap.size, 2, none⟩)) rfl (by kernel_rfl) (by kernel_rfl) (by kernel_rfl) (fun _ _ _ h => h) (Or.inl ⟨by kernel_rfl, ?_⟩) hHeld ?_
                      · intro w' hSw; go_simp
                      try simp only [Act.put, List.setIfInBounds_toArray, List.set_cons_zero, List.set_cons_succ, List.getElem_toArray, List.getElem_cons_succ, List.getElem_cons_zero]
                      refine wpAnyH_take (i := 6) (v := .slice ((some ⟨b, off, none⟩)) len c) rfl (by kernel_rfl) (by kernel_rfl) (by kernel_rfl) (fun _ _ _ h => h) (Or.inl ⟨by kernel_rfl, ?_⟩) hHeld ?_
                      · intro w' hSw; obtain ⟨z0, z1, z2, -⟩ := (b0.below hSw).open3; go_simp
                      try simp only [Act.put, List.setIfInBounds_toArray, List.set_cons_zero, List.set_cons_succ, List.getElem_toArray, List.getElem_cons_succ, List.getElem_cons_zero]
                      refine wpAnyH_take (i := 7) (v := .int .i64 ((k : Int))) rfl (by kernel_rfl) (by kernel_rfl) (by kernel_rfl) (fun _ _ _ h => h) (Or.inl ⟨by kernel_rfl, ?_⟩) hHeld ?_
                      · intro w' hSw; go_simp
                      try simp only [Act.put, List.setIfInBounds_toArray, List.set_cons_zero, List.set_cons_succ, List.getElem_toArray, List.getElem_cons_succ, List.getElem_cons_zero]
                      refine wpAnyH_take (i := 8) (v := .pointer (some ⟨b, off + k, none⟩)) rfl (by kernel_rfl) (by kernel_rfl) (by kernel_rfl) (fun _ _ _ h => h) (Or.inl ⟨by kernel_rfl, ?_⟩) hHeld ?_
                      · intro w' hSw; go_simp
                      try simp only [Act.put, List.setIfInBounds_toArray, List.set_cons_zero, List.set_cons_succ, List.getElem_toArray, List.getElem_cons_succ, List.getElem_cons_zero]
                      refine wpAnyH_take (i := 9) (v := .int .i64 (Fk)) rfl (by kernel_rfl) (by kernel_rfl) (by kernel_rfl) (fun _ _ _ h => h) (Or.inl ⟨by kernel_rfl, ?_⟩) hHeld ?_
                      · intro w' hSw; have z0 := (fun {w' : World} (hSw : Kb u0 w') => (Below.cell (p := ⟨b, off + k, none⟩) hSw hbu).trans g2) hSw; go_simp
                      try simp only [Act.put, List.setIfInBounds_toArray, List.set_cons_zero, List.set_cons_succ, List.getElem_toArray, List.getElem_cons_succ, List.getElem_cons_zero]
                      refine wpAnyH_take (i := 10) (v := .bool true) rfl (by kernel_rfl) (by kernel_rfl) (by kernel_rfl) (fun _ _ _ h => h) (Or.inl ⟨by kernel_rfl, ?_⟩) hHeld ?_
                      · intro w' hSw; go_simp
                      try simp only [Act.put, List.setIfInBounds_toArray, List.set_cons_zero, List.set_cons_succ, List.getElem_toArray, List.getElem_cons_succ, List.getElem_cons_zero]
                      refine wpAnyH_take (i := 11) (v := .bool true) rfl (by kernel_rfl) (by kernel_rfl) (by kernel_rfl) (fun _ _ _ h => h) (Or.inl ⟨by kernel_rfl, ?_⟩) hHeld ?_
                      · intro w' hSw; go_simp
                      try simp only [Act.put, List.setIfInBounds_toArray, List.set_cons_zero, List.set_cons_succ, List.getElem_toArray, List.getElem_cons_succ, List.getElem_cons_zero]
                      refine wpAnyH_take (i := 12) (v := undef) rfl (by kernel_rfl) (by kernel_rfl) (by kernel_rfl) (fun _ _ _ h => h) (Or.inr ⟨by kernel_rfl, rfl⟩) hHeld ?_
                      try simp only [Act.put, List.setIfInBounds_toArray, List.set_cons_zero, List.set_cons_succ, List.getElem_toArray, List.getElem_cons_succ, List.getElem_cons_zero]
                      refine wpAnyH_take (i := 13) (v := undef) rfl (by kernel_rfl) (by kernel_rfl) (by kernel_rfl) (fun _ _ _ h => h) (Or.inr ⟨by kernel_rfl, rfl⟩) hHeld ?_
                      try simp only [Act.put, List.setIfInBounds_toArray, List.set_cons_zero, List.set_cons_succ, List.getElem_toArray, List.getElem_cons_succ, List.getElem_cons_zero]
                      refine wpAnyH_take (i := 14) (v := undef) rfl (by kernel_rfl) (by kernel_rfl) (by kernel_rfl) (fun _ _ _ h => h) (Or.inr ⟨by kernel_rfl, rfl⟩) hHeld ?_
                      try simp only [Act.put, List.setIfInBounds_toArray, List.set_cons_zero, List.set_cons_succ, List.getElem_toArray, List.getElem_cons_succ, List.getElem_cons_zero]
                      refine wpAnyH_take (i := 15) (v := undef) rfl (by kernel_rfl) (by kernel_rfl) (by kernel_rfl) (fun _ _ _ h => h) (Or.inr ⟨by kernel_rfl, rfl⟩) hHeld ?_
                      try simp only [Act.put, List.setIfInBounds_toArray, List.set_cons_zero, List.set_cons_succ, List.getElem_toArray, List.getElem_cons_succ, List.getElem_cons_zero]
                      refine wpAnyH_take (i := 16) (v := undef) rfl (by kernel_rfl) (by kernel_rfl) (by kernel_rfl) (fun _ _ _ h => h) (Or.inr ⟨by kernel_rfl, rfl⟩) hHeld ?_
                      try simp only [Act.put, List.setIfInBounds_toArray, List.set_cons_zero, List.set_cons_succ, List.getElem_toArray, List.getElem_cons_succ, List.getElem_cons_zero]
                      refine wpAnyH_take (i := 17) (v := undef) rfl (by kernel_rfl) (by kernel_rfl) (by kernel_rfl) (fun _ _ _ h => h) (Or.inr ⟨by kernel_rfl, rfl⟩) hHeld ?_
                      try simp only [Act.put, List.setIfInBounds_toArray, List.set_cons_zero, List.set_cons_succ, List.getElem_toArray, List.getElem_cons_succ, List.getElem_cons_zero]
                      refine wpAnyH_take (i := 18) (v := undef) rfl (by kernel_rfl) (by kernel_rfl) (by kernel_rfl) (fun _ _ _ h => h) (Or.inr ⟨by kernel_rfl, rfl⟩) hHeld ?_
                      try simp only [Act.put, List.setIfInBounds_toArray, List.set_cons_zero, List.set_cons_succ, List.getElem_toArray, List.getElem_cons_succ, List.getElem_cons_zero]
                      refine wpAnyH_take (i := 19) (v := undef) rfl (by kernel_rfl) (by kernel_rfl) (by kernel_rfl) (fun _ _ _ h => h) (Or.inr ⟨by kernel_rfl, rfl⟩) hHeld ?_
                      try simp only [Act.put, List.setIfInBounds_toArray, List.set_cons_zero, List.set_cons_succ, List.getElem_toArray, List.getElem_cons_succ, List.getElem_cons_zero]
                      refine wpAnyH_take (i := 20) (v := undef) rfl (by kernel_rfl) (by kernel_rfl) (by kernel_rfl) (fun _ _ _ h => h) (Or.inr ⟨by kernel_rfl, rfl⟩) hHeld ?_
                      try simp only [Act.put, List.setIfInBounds_toArray, List.set_cons_zero, List.set_cons_succ, List.getElem_toArray, List.getElem_cons_succ, List.getElem_cons_zero]
                      refine wpAnyH_take (i := 21) (v := undef) rfl (by kernel_rfl) (by kernel_rfl) (by kernel_rfl) (fun _ _ _ h => h) (Or.inr ⟨by kernel_rfl, rfl⟩) hHeld ?_
                      try simp only [Act.put, List.setIfInBounds_toArray, List.set_cons_zero, List.set_cons_succ, List.getElem_toArray, List.getElem_cons_succ, List.getElem_cons_zero]
                      refine wpAnyH_take (i := 22) (v := undef) rfl (by kernel_rfl) (by kernel_rfl) (by kernel_rfl) (fun _ _ _ h => h) (Or.inr ⟨by kernel_rfl, rfl⟩) hHeld ?_
                      try simp only [Act.put, List.setIfInBounds_toArray, List.set_cons_zero, List.set_cons_succ, List.getElem_toArray, List.getElem_cons_succ, List.getElem_cons_zero]
                      refine wpAnyH_take (i := 23) (v := undef) rfl (by kernel_rfl) (by kernel_rfl) (by kernel_rfl) (fun _ _ _ h => h) (Or.inr ⟨by kernel_rfl, rfl⟩) hHeld ?_
                      try simp only [Act.put, List.setIfInBounds_toArray, List.set_cons_zero, List.set_cons_succ, List.getElem_toArray, List.getElem_cons_succ, List.getElem_cons_zero]
                      refine wpAnyH_take (i := 24) (v := undef) rfl (by kernel_rfl) (by kernel_rfl) (by kernel_rfl) (fun _ _ _ h => h) (Or.inr ⟨by kernel_rfl, rfl⟩) hHeld ?_
                      try simp only [Act.put, List.setIfInBounds_toArray, List.set_cons_zero, List.set_cons_succ, List.getElem_toArray, List.getElem_cons_succ, List.getElem_cons_zero]
                      refine wpAnyH_take (i := 25) (v := undef) rfl (by kernel_rfl) (by kernel_rfl) (by kernel_rfl) (fun _ _ _ h => h) (Or.inr ⟨by kernel_rfl, rfl⟩) hHeld ?_
                      try simp only [Act.put, List.setIfInBounds_toArray, List.set_cons_zero, List.set_cons_succ, List.getElem_toArray, List.getElem_cons_succ, List.getElem_cons_zero]
                      refine wpAnyH_take (i := 26) (v := undef) rfl (by kernel_rfl) (by kernel_rfl) (by kernel_rfl) (fun _ _ _ h => h) (Or.inr ⟨by kernel_rfl, rfl⟩) hHeld ?_
                      try simp only [Act.put, List.setIfInBounds_toArray, List.set_cons_zero, List.set_cons_succ, List.getElem_toArray, List.getElem_cons_succ, List.getElem_cons_zero]
                      refine wpAnyH_take (i := 27) (v := undef) rfl (by kernel_rfl) (by kernel_rfl) (by kernel_rfl) (fun _ _ _ h => h) (Or.inr ⟨by kernel_rfl, rfl⟩) hHeld ?_
                      try simp only [Act.put, List.setIfInBounds_toArray, List.set_cons_zero, List.set_cons_succ, List.getElem_toArray, List.getElem_cons_succ, List.getElem_cons_zero]
                      refine wpAnyH_take (i := 28) (v := .bool true) rfl (by kernel_rfl) (by kernel_rfl) (by kernel_rfl) (fun _ _ _ h => h) (Or.inl ⟨by kernel_rfl, ?_⟩) hHeld ?_
                      · intro w' hSw; go_simp
                      try simp only [Act.put, List.setIfInBounds_toArray, List.set_cons_zero, List.set_cons_succ, List.getElem_toArray, List.getElem_cons_succ, List.getElem_cons_zero]
                      refine wpAnyH_done (by kernel_rfl) ?_ _
                      clear hHeld
                      clear bu g1 g2
                      have hH' := HN.out xn yn J hxN HJE.out hJl hpJ hbJ
                      go_wp2
                      exact ⟨⟨(xn : Int) + 1, rfl, by omega, by omega, ⟨_, rfl, hH'⟩, G, b0⟩, by simp [intOf]; omega⟩
                    · by_cases q2 : Fj = Fk
                      · have q2' : (Fj == Fk) = true := by simpa using q2
                        by_cases q3 : (J : Int) < (k : Int)
                        · have hbJ : bad f k J := HBD.out.2 (.inr ⟨q2, by omega⟩)
                          clear q2
                          obtain ⟨u0, hu0, bb⟩ : ∃ uu, wr.drew = uu ∧ Below wr.heap.size wr uu := ⟨_, rfl, (Below.refl _ _).drew⟩
                          replace b0 := b0.below bb
                          replace G := G.below bb
                          replace g1 := (bb.cell (p := ⟨b, off + J, none⟩) hbr).trans g1
                          replace g2 := (bb.cell (p := ⟨b, off + k, none⟩) hbr).trans g2
                          have hbu : b < u0.heap.size := Nat.lt_of_lt_of_le hbr bb.size
                          clear bb
                          refine wp_region_held_drew (S := Kb u0) (by kernel_rfl) (by rw [hu0]; exact Below.refl _ _) (fun hHeld => ?_)
                          rw [hu0] at hHeld ⊢
                          clear hu0
                          have bu : Kb u0 u0 := Below.refl _ _
                          change wpAnyH _ _ _ _ _ 29 #[false, false, false, false, false, false, false, false, false, false, false, false, false, false, false, false, false, false, false, false, false, false, false, false, false, false, false, false, false] _ _
                          refine wpAnyH_take (i := 0) (v := .pointer (some ⟨w.heap.size, 2, none⟩)) rfl (by kernel_rfl) (by kernel_rfl) (by kernel_rfl) (fun _ _ _ h => h) (Or.inl ⟨by kernel_rfl, ?_⟩) hHeld ?_
                          · intro w' hSw; go_simp
                          try simp only [Act.put, List.setIfInBounds_toArray, List.set_cons_zero, List.set_cons_succ, List.getElem_toArray, List.getElem_cons_zero]
                          refine wpAnyH_take (i := 1) (v := .slice ((some ⟨b, off, none⟩)) len c) rfl (by kernel_rfl) (by kernel_rfl) (by kernel_rfl) (fun _ _ _ h => h) (Or.inl ⟨by kernel_rfl, ?_⟩) hHeld ?_
                          · intro w' hSw; obtain ⟨z0, z1, z2, -⟩ := (b0.below hSw).open3; go_simp
                          try simp only [Act.put, List.setIfInBounds_toArray, List.set_cons_zero, List.set_cons_succ, List.getElem_toArray, List.getElem_cons_succ, List.getElem_cons_zero]
                          refine wpAnyH_take (i := 2) (v := .int .i64 ((J : Int))) rfl (by kernel_rfl) (by kernel_rfl) (by kernel_rfl) (fun _ _ _ h => h) (Or.inl ⟨by kernel_rfl, ?_⟩) hHeld ?_
                          · intro w' hSw; go_simp
                          try simp only [Act.put, List.setIfInBounds_toArray, List.set_cons_zero, List.set_cons_succ, List.getElem_toArray, List.getElem_cons_succ, List.getElem_cons_zero]
                          refine wpAnyH_take (i := 3) (v := .pointer (some ⟨b, off + J, none⟩)) rfl (by kernel_rfl) (by kernel_rfl) (by kernel_rfl) (fun _ _ _ h => h) (Or.inl ⟨by kernel_rfl, ?_⟩) hHeld ?_
                          · intro w' hSw; go_simp
                          try simp only [Act.put, List.setIfInBounds_toArray, List.set_cons_zero, List.set_cons_succ, List.getElem_toArray, List.getElem_cons_succ, List.getElem_cons_zero]
                          refine wpAnyH_take (i := 4) (v := .int .i64 (Fj)) rfl (by kernel_rfl) (by kernel_rfl) (by kernel_rfl) (fun _ _ _ h => h) (Or.inl ⟨by kernel_rfl, ?_⟩) hHeld ?_
                          · intro w' hSw; have z0 := (fun {w' : World} (hSw : Kb u0 w') => (Below.cell (p := ⟨b, off + J, none⟩) hSw hbu).trans g1) hSw; go_simp
                          try simp only [Act.put, List.setIfInBounds_toArray, List.set_cons_zero, List.set_cons_succ, List.getElem_toArray, List.getElem_cons_succ, List.getElem_cons_zero]
                          refine wpAnyH_take (i := 5) (v := .pointer (some ⟨w.heap.size, 2, none⟩)) rfl (by kernel_rfl) (by kernel_rfl) (by kernel_rfl) (fun _ _ _ h => h) (Or.inl ⟨by kernel_rfl, ?_⟩) hHeld ?_
                          · intro w' hSw; go_simp
                          try simp only [Act.put, List.setIfInBounds_toArray, List.set_cons_zero, List.set_cons_succ, List.getElem_toArray, List.getElem_cons_succ, List.getElem_cons_zero]
                          refine wpAnyH_take (i := 6) (v := .slice ((some ⟨b, off, none⟩)) len c) rfl (by kernel_rfl) (by kernel_rfl) (by kernel_rfl) (fun _ _ _ h => h) (Or.inl ⟨by kernel_rfl, ?_⟩) hHeld ?_
                          · intro w' hSw; obtain ⟨z0, z1, z2, -⟩ := (b0.below hSw).open3; go_simp
                          try simp only [Act.put, List.setIfInBounds_toArray, List.set_cons_zero, List.set_cons_succ, List.getElem_toArray, List.getElem_cons_succ, List.getElem_cons_zero]
                          refine wpAnyH_take (i := 7) (v := .int .i64 ((k : Int))) rfl (by kernel_rfl) (by kernel_rfl) (by kernel_rfl) (fun _ _ _ h => h) (Or.inl ⟨by kernel_rfl, ?_⟩) hHeld ?_
                          · intro w' hSw; go_simp
                          try simp only [Act.put, List.setIfInBounds_toArray, List.set_cons_zero, List.set_cons_succ, List.getElem_toArray, List.getElem_cons_succ, List.getElem_cons_zero]
                          refine wpAnyH_take (i := 8) (v := .pointer (some ⟨b, off + k, none⟩)) rfl (by kernel_rfl) (by kernel_rfl) (by kernel_rfl) (fun _ _ _ h => h) (Or.inl ⟨by kernel_rfl, ?_⟩) hHeld ?_
                          · intro w' hSw; go_simp
                          try simp only [Act.put, List.setIfInBounds_toArray, List.set_cons_zero, List.set_cons_succ, List.getElem_toArray, List.getElem_cons_succ, List.getElem_cons_zero]
                          refine wpAnyH_take (i := 9) (v := .int .i64 (Fk)) rfl (by kernel_rfl) (by kernel_rfl) (by kernel_rfl) (fun _ _ _ h => h) (Or.inl ⟨by kernel_rfl, ?_⟩) hHeld ?_
                          · intro w' hSw; have z0 := (fun {w' : World} (hSw : Kb u0 w') => (Below.cell (p := ⟨b, off + k, none⟩) hSw hbu).trans g2) hSw; go_simp
                          try simp only [Act.put, List.setIfInBounds_toArray, List.set_cons_zero, List.set_cons_succ, List.getElem_toArray, List.getElem_cons_succ, List.getElem_cons_zero]
                          refine wpAnyH_take (i := 10) (v := .bool false) rfl (by kernel_rfl) (by kernel_rfl) (by kernel_rfl) (fun _ _ _ h => h) (Or.inl ⟨by kernel_rfl, ?_⟩) hHeld ?_
                          · intro w' hSw; go_simp
                          try simp only [Act.put, List.setIfInBounds_toArray, List.set_cons_zero, List.set_cons_succ, List.getElem_toArray, List.getElem_cons_succ, List.getElem_cons_zero]
                          refine wpAnyH_take (i := 11) (v := .bool false) rfl (by kernel_rfl) (by kernel_rfl) (by kernel_rfl) (fun _ _ _ h => h) (Or.inl ⟨by kernel_rfl, ?_⟩) hHeld ?_
                          · intro w' hSw; go_simp
                          try simp only [Act.put, List.setIfInBounds_toArray, List.set_cons_zero, List.set_cons_succ, List.getElem_toArray, List.getElem_cons_succ, List.getElem_cons_zero]
                          refine wpAnyH_take (i := 12) (v := .pointer (some ⟨w.heap.size, 2, none⟩)) rfl (by kernel_rfl) (by kernel_rfl) (by kernel_rfl) (fun _ _ _ h => h) (Or.inl ⟨by kernel_rfl, ?_⟩) hHeld ?_
                          · intro w' hSw; go_simp
                          try simp only [Act.put, List.setIfInBounds_toArray, List.set_cons_zero, List.set_cons_succ, List.getElem_toArray, List.getElem_cons_succ, List.getElem_cons_zero]
                          refine wpAnyH_take (i := 13) (v := .slice ((some ⟨b, off, none⟩)) len c) rfl (by kernel_rfl) (by kernel_rfl) (by kernel_rfl) (fun _ _ _ h => h) (Or.inl ⟨by kernel_rfl, ?_⟩) hHeld ?_
                          · intro w' hSw; obtain ⟨z0, z1, z2, -⟩ := (b0.below hSw).open3; go_simp
                          try simp only [Act.put, List.setIfInBounds_toArray, List.set_cons_zero, List.set_cons_succ, List.getElem_toArray, List.getElem_cons_succ, List.getElem_cons_zero]
                          refine wpAnyH_take (i := 14) (v := .int .i64 ((J : Int))) rfl (by kernel_rfl) (by kernel_rfl) (by kernel_rfl) (fun _ _ _ h => h) (Or.inl ⟨by kernel_rfl, ?_⟩) hHeld ?_
                          · intro w' hSw; go_simp
                          try simp only [Act.put, List.setIfInBounds_toArray, List.set_cons_zero, List.set_cons_succ, List.getElem_toArray, List.getElem_cons_succ, List.getElem_cons_zero]
                          refine wpAnyH_take (i := 15) (v := .pointer (some ⟨b, off + J, none⟩)) rfl (by kernel_rfl) (by kernel_rfl) (by kernel_rfl) (fun _ _ _ h => h) (Or.inl ⟨by kernel_rfl, ?_⟩) hHeld ?_
                          · intro w' hSw; go_simp
                          try simp only [Act.put, List.setIfInBounds_toArray, List.set_cons_zero, List.set_cons_succ, List.getElem_toArray, List.getElem_cons_succ, List.getElem_cons_zero]
                          refine wpAnyH_take (i := 16) (v := .int .i64 (Fj)) rfl (by kernel_rfl) (by kernel_rfl) (by kernel_rfl) (fun _ _ _ h => h) (Or.inl ⟨by kernel_rfl, ?_⟩) hHeld ?_
                          · intro w' hSw; have z0 := (fun {w' : World} (hSw : Kb u0 w') => (Below.cell (p := ⟨b, off + J, none⟩) hSw hbu).trans g1) hSw; go_simp
                          try simp only [Act.put, List.setIfInBounds_toArray, List.set_cons_zero, List.set_cons_succ, List.getElem_toArray, List.getElem_cons_succ, List.getElem_cons_zero]
                          refine wpAnyH_take (i := 17) (v := .pointer (some ⟨w.heap.size, 2, none⟩)) rfl (by kernel_rfl) (by kernel_rfl) (by kernel_rfl) (fun _ _ _ h => h) (Or.inl ⟨by kernel_rfl, ?_⟩) hHeld ?_
                          · intro w' hSw; go_simp
                          try simp only [Act.put, List.setIfInBounds_toArray, List.set_cons_zero, List.set_cons_succ, List.getElem_toArray, List.getElem_cons_succ, List.getElem_cons_zero]
                          refine wpAnyH_take (i := 18) (v := .slice ((some ⟨b, off, none⟩)) len c) rfl (by kernel_rfl) (by kernel_rfl) (by kernel_rfl) (fun _ _ _ h => h) (Or.inl ⟨by kernel_rfl, ?_⟩) hHeld ?_
                          · intro w' hSw; obtain ⟨z0, z1, z2, -⟩ := (b0.below hSw).open3; go_simp
                          try simp only [Act.put, List.setIfInBounds_toArray, List.set_cons_zero, List.set_cons_succ, List.getElem_toArray, List.getElem_cons_succ, List.getElem_cons_zero]
                          refine wpAnyH_take (i := 19) (v := .int .i64 ((k : Int))) rfl (by kernel_rfl) (by kernel_rfl) (by kernel_rfl) (fun _ _ _ h => h) (Or.inl ⟨by kernel_rfl, ?_⟩) hHeld ?_
                          · intro w' hSw; go_simp
                          try simp only [Act.put, List.setIfInBounds_toArray, List.set_cons_zero, List.set_cons_succ, List.getElem_toArray, List.getElem_cons_succ, List.getElem_cons_zero]
                          refine wpAnyH_take (i := 20) (v := .pointer (some ⟨b, off + k, none⟩)) rfl (by kernel_rfl) (by kernel_rfl) (by kernel_rfl) (fun _ _ _ h => h) (Or.inl ⟨by kernel_rfl, ?_⟩) hHeld ?_
                          · intro w' hSw; go_simp
                          try simp only [Act.put, List.setIfInBounds_toArray, List.set_cons_zero, List.set_cons_succ, List.getElem_toArray, List.getElem_cons_succ, List.getElem_cons_zero]
                          refine wpAnyH_take (i := 21) (v := .int .i64 (Fk)) rfl (by kernel_rfl) (by kernel_rfl) (by kernel_rfl) (fun _ _ _ h => h) (Or.inl ⟨by kernel_rfl, ?_⟩) hHeld ?_
                          · intro w' hSw; have z0 := (fun {w' : World} (hSw : Kb u0 w') => (Below.cell (p := ⟨b, off + k, none⟩) hSw hbu).trans g2) hSw; go_simp
                          try simp only [Act.put, List.setIfInBounds_toArray, List.set_cons_zero, List.set_cons_succ, List.getElem_toArray, List.getElem_cons_succ, List.getElem_cons_zero]
                          refine wpAnyH_take (i := 22) (v := .bool true) rfl (by kernel_rfl) (by kernel_rfl) (by kernel_rfl) (fun _ _ _ h => h) (Or.inl ⟨by kernel_rfl, ?_⟩) hHeld ?_
                          · intro w' hSw; go_simp
                          try simp only [Act.put, List.setIfInBounds_toArray, List.set_cons_zero, List.set_cons_succ, List.getElem_toArray, List.getElem_cons_succ, List.getElem_cons_zero]
                          refine wpAnyH_take (i := 23) (v := .bool true) rfl (by kernel_rfl) (by kernel_rfl) (by kernel_rfl) (fun _ _ _ h => h) (Or.inl ⟨by kernel_rfl, ?_⟩) hHeld ?_
                          · intro w' hSw; go_simp
                          try simp only [Act.put, List.setIfInBounds_toArray, List.set_cons_zero, List.set_cons_succ, List.getElem_toArray, List.getElem_cons_succ, List.getElem_cons_zero]
                          refine wpAnyH_take (i := 24) (v := .int .i64 ((J : Int))) rfl (by kernel_rfl) (by kernel_rfl) (by kernel_rfl) (fun _ _ _ h => h) (Or.inl ⟨by kernel_rfl, ?_⟩) hHeld ?_
                          · intro w' hSw; go_simp
                          try simp only [Act.put, List.setIfInBounds_toArray, List.set_cons_zero, List.set_cons_succ, List.getElem_toArray, List.getElem_cons_succ, List.getElem_cons_zero]
                          refine wpAnyH_take (i := 25) (v := .int .i64 ((k : Int))) rfl (by kernel_rfl) (by kernel_rfl) (by kernel_rfl) (fun _ _ _ h => h) (Or.inl ⟨by kernel_rfl, ?_⟩) hHeld ?_
                          · intro w' hSw; go_simp
                          try simp only [Act.put, List.setIfInBounds_toArray, List.set_cons_zero, List.set_cons_succ, List.getElem_toArray, List.getElem_cons_succ, List.getElem_cons_zero]
                          refine wpAnyH_take (i := 26) (v := .bool true) rfl (by kernel_rfl) (by kernel_rfl) (by kernel_rfl) (fun _ _ _ h => h) (Or.inl ⟨by kernel_rfl, ?_⟩) hHeld ?_
                          · intro w' hSw; go_simp
                          try simp only [Act.put, List.setIfInBounds_toArray, List.set_cons_zero, List.set_cons_succ, List.getElem_toArray, List.getElem_cons_succ, List.getElem_cons_zero]
                          refine wpAnyH_take (i := 27) (v := .bool true) rfl (by kernel_rfl) (by kernel_rfl) (by kernel_rfl) (fun _ _ _ h => h) (Or.inl ⟨by kernel_rfl, ?_⟩) hHeld ?_
                          · intro w' hSw; go_simp
                          try simp only [Act.put, List.setIfInBounds_toArray, List.set_cons_zero, List.set_cons_succ, List.getElem_toArray, List.getElem_cons_succ, List.getElem_cons_zero]
                          refine wpAnyH_take (i := 28) (v := .bool true) rfl (by kernel_rfl) (by kernel_rfl) (by kernel_rfl) (fun _ _ _ h => h) (Or.inl ⟨by kernel_rfl, ?_⟩) hHeld ?_
                          · intro w' hSw; go_simp
                          try simp only [Act.put, List.setIfInBounds_toArray, List.set_cons_zero, List.set_cons_succ, List.getElem_toArray, List.getElem_cons_succ, List.getElem_cons_zero]
                          refine wpAnyH_done (by kernel_rfl) ?_ _
                          clear hHeld
                          clear bu g1 g2
                          have hH' := HN.out xn yn J hxN HJE.out hJl hpJ hbJ
                          go_wp2
                          exact ⟨⟨(xn : Int) + 1, rfl, by omega, by omega, ⟨_, rfl, hH'⟩, G, b0⟩, by simp [intOf]; omega⟩
                        · have hgJ : ¬ bad f k J := fun h => by have := HBD.out.1 h; omega
                          clear q2
                          obtain ⟨u0, hu0, bb⟩ : ∃ uu, wr.drew = uu ∧ Below wr.heap.size wr uu := ⟨_, rfl, (Below.refl _ _).drew⟩
                          replace b0 := b0.below bb
                          replace G := G.below bb
                          replace g1 := (bb.cell (p := ⟨b, off + J, none⟩) hbr).trans g1
                          replace g2 := (bb.cell (p := ⟨b, off + k, none⟩) hbr).trans g2
                          have hbu : b < u0.heap.size := Nat.lt_of_lt_of_le hbr bb.size
                          clear bb
                          refine wp_region_held_drew (S := Kb u0) (by kernel_rfl) (by rw [hu0]; exact Below.refl _ _) (fun hHeld => ?_)
                          rw [hu0] at hHeld ⊢
                          clear hu0
                          have bu : Kb u0 u0 := Below.refl _ _
                          change wpAnyH _ _ _ _ _ 29 #[false, false, false, false, false, false, false, false, false, false, false, false, false, false, false, false, false, false, false, false, false, false, false, false, false, false, false, false, false] _ _
                          refine wpAnyH_take (i := 0) (v := .pointer (some ⟨w.heap.size, 2, none⟩)) rfl (by kernel_rfl) (by kernel_rfl) (by kernel_rfl) (fun _ _ _ h => h) (Or.inl ⟨by kernel_rfl, ?_⟩) hHeld ?_
                          · intro w' hSw; go_simp
                          try simp only [Act.put, List.setIfInBounds_toArray, List.set_cons_zero, List.set_cons_succ, List.getElem_toArray, List.getElem_cons_zero]
                          refine wpAnyH_take (i := 1) (v := .slice ((some ⟨b, off, none⟩)) len c) rfl (by kernel_rfl) (by kernel_rfl) (by kernel_rfl) (fun _ _ _ h => h) (Or.inl ⟨by kernel_rfl, ?_⟩) hHeld ?_
                          · intro w' hSw; obtain ⟨z0, z1, z2, -⟩ := (b0.below hSw).open3; go_simp
                          try simp only [Act.put, List.setIfInBounds_toArray, List.set_cons_zero, List.set_cons_succ, List.getElem_toArray, List.getElem_cons_succ, List.getElem_cons_zero]
                          refine wpAnyH_take (i := 2) (v := .int .i64 ((J : Int))) rfl (by kernel_rfl) (by kernel_rfl) (by kernel_rfl) (fun _ _ _ h => h) (Or.inl ⟨by kernel_rfl, ?_⟩) hHeld ?_
                          · intro w' hSw; go_simp
                          try simp only [Act.put, List.setIfInBounds_toArray, List.set_cons_zero, List.set_cons_succ, List.getElem_toArray, List.getElem_cons_succ, List.getElem_cons_zero]
                          refine wpAnyH_take (i := 3) (v := .pointer (some ⟨b, off + J, none⟩)) rfl (by kernel_rfl) (by kernel_rfl) (by kernel_rfl) (fun _ _ _ h => h) (Or.inl ⟨by kernel_rfl, ?_⟩) hHeld ?_
                          · intro w' hSw; go_simp
                          try simp only [Act.put, List.setIfInBounds_toArray, List.set_cons_zero, List.set_cons_succ, List.getElem_toArray, List.getElem_cons_succ, List.getElem_cons_zero]
                          refine wpAnyH_take (i := 4) (v := .int .i64 (Fj)) rfl (by kernel_rfl) (by kernel_rfl) (by kernel_rfl) (fun _ _ _ h => h) (Or.inl ⟨by kernel_rfl, ?_⟩) hHeld ?_
                          · intro w' hSw; have z0 := (fun {w' : World} (hSw : Kb u0 w') => (Below.cell (p := ⟨b, off + J, none⟩) hSw hbu).trans g1) hSw; go_simp
                          try simp only [Act.put, List.setIfInBounds_toArray, List.set_cons_zero, List.set_cons_succ, List.getElem_toArray, List.getElem_cons_succ, List.getElem_cons_zero]
                          refine wpAnyH_take (i := 5) (v := .pointer (some ⟨w.heap.size, 2, none⟩)) rfl (by kernel_rfl) (by kernel_rfl) (by kernel_rfl) (fun _ _ _ h => h) (Or.inl ⟨by kernel_rfl, ?_⟩) hHeld ?_
                          · intro w' hSw; go_simp
                          try simp only [Act.put, List.setIfInBounds_toArray, List.set_cons_zero, List.set_cons_succ, List.getElem_toArray, List.getElem_cons_succ, List.getElem_cons_zero]
                          refine wpAnyH_take (i := 6) (v := .slice ((some ⟨b, off, none⟩)) len c) rfl (by kernel_rfl) (by kernel_rfl) (by kernel_rfl) (fun _ _ _ h => h) (Or.inl ⟨by kernel_rfl, ?_⟩) hHeld ?_
                          · intro w' hSw; obtain ⟨z0, z1, z2, -⟩ := (b0.below hSw).open3; go_simp
                          try simp only [Act.put, List.setIfInBounds_toArray, List.set_cons_zero, List.set_cons_succ, List.getElem_toArray, List.getElem_cons_succ, List.getElem_cons_zero]
                          refine wpAnyH_take (i := 7) (v := .int .i64 ((k : Int))) rfl (by kernel_rfl) (by kernel_rfl) (by kernel_rfl) (fun _ _ _ h => h) (Or.inl ⟨by kernel_rfl, ?_⟩) hHeld ?_
                          · intro w' hSw; go_simp
                          try simp only [Act.put, List.setIfInBounds_toArray, List.set_cons_zero, List.set_cons_succ, List.getElem_toArray, List.getElem_cons_succ, List.getElem_cons_zero]
                          refine wpAnyH_take (i := 8) (v := .pointer (some ⟨b, off + k, none⟩)) rfl (by kernel_rfl) (by kernel_rfl) (by kernel_rfl) (fun _ _ _ h => h) (Or.inl ⟨by kernel_rfl, ?_⟩) hHeld ?_
                          · intro w' hSw; go_simp
                          try simp only [Act.put, List.setIfInBounds_toArray, List.set_cons_zero, List.set_cons_succ, List.getElem_toArray, List.getElem_cons_succ, List.getElem_cons_zero]
                          refine wpAnyH_take (i := 9) (v := .int .i64 (Fk)) rfl (by kernel_rfl) (by kernel_rfl) (by kernel_rfl) (fun _ _ _ h => h) (Or.inl ⟨by kernel_rfl, ?_⟩) hHeld ?_
                          · intro w' hSw; have z0 := (fun {w' : World} (hSw : Kb u0 w') => (Below.cell (p := ⟨b, off + k, none⟩) hSw hbu).trans g2) hSw; go_simp
                          try simp only [Act.put, List.setIfInBounds_toArray, List.set_cons_zero, List.set_cons_succ, List.getElem_toArray, List.getElem_cons_succ, List.getElem_cons_zero]
                          refine wpAnyH_take (i := 10) (v := .bool false) rfl (by kernel_rfl) (by kernel_rfl) (by kernel_rfl) (fun _ _ _ h => h) (Or.inl ⟨by kernel_rfl, ?_⟩) hHeld ?_
                          · intro w' hSw; go_simp
                          try simp only [Act.put, List.setIfInBounds_toArray, List.set_cons_zero, List.set_cons_succ, List.getElem_toArray, List.getElem_cons_succ, List.getElem_cons_zero]
                          refine wpAnyH_take (i := 11) (v := .bool false) rfl (by kernel_rfl) (by kernel_rfl) (by kernel_rfl) (fun _ _ _ h => h) (Or.inl ⟨by kernel_rfl, ?_⟩) hHeld ?_
                          · intro w' hSw; go_simp
                          try simp only [Act.put, List.setIfInBounds_toArray, List.set_cons_zero, List.set_cons_succ, List.getElem_toArray, List.getElem_cons_succ, List.getElem_cons_zero]
                          refine wpAnyH_take (i := 12) (v := .pointer (some ⟨w.heap.size, 2, none⟩)) rfl (by kernel_rfl) (by kernel_rfl) (by kernel_rfl) (fun _ _ _ h => h) (Or.inl ⟨by kernel_rfl, ?_⟩) hHeld ?_
                          · intro w' hSw; go_simp
                          try simp only [Act.put, List.setIfInBounds_toArray, List.set_cons_zero, List.set_cons_succ, List.getElem_toArray, List.getElem_cons_succ, List.getElem_cons_zero]
                          refine wpAnyH_take (i := 13) (v := .slice ((some ⟨b, off, none⟩)) len c) rfl (by kernel_rfl) (by kernel_rfl) (by kernel_rfl) (fun _ _ _ h => h) (Or.inl ⟨by kernel_rfl, ?_⟩) hHeld ?_
                          · intro w' hSw; obtain ⟨z0, z1, z2, -⟩ := (b0.below hSw).open3; go_simp
                          try simp only [Act.put, List.setIfInBounds_toArray, List.set_cons_zero, List.set_cons_succ, List.getElem_toArray, List.getElem_cons_succ, List.getElem_cons_zero]
                          refine wpAnyH_take (i := 14) (v := .int .i64 ((J : Int))) rfl (by kernel_rfl) (by kernel_rfl) (by kernel_rfl) (fun _ _ _ h => h) (Or.inl ⟨by kernel_rfl, ?_⟩) hHeld ?_
                          · intro w' hSw; go_simp
                          try simp only [Act.put, List.setIfInBounds_toArray, List.set_cons_zero, List.set_cons_succ, List.getElem_toArray, List.getElem_cons_succ, List.getElem_cons_zero]
                          refine wpAnyH_take (i := 15) (v := .pointer (some ⟨b, off + J, none⟩)) rfl (by kernel_rfl) (by kernel_rfl) (by kernel_rfl) (fun _ _ _ h => h) (Or.inl ⟨by kernel_rfl, ?_⟩) hHeld ?_
                          · intro w' hSw; go_simp
                          try simp only [Act.put, List.setIfInBounds_toArray, List.set_cons_zero, List.set_cons_succ, List.getElem_toArray, List.getElem_cons_succ, List.getElem_cons_zero]
                          refine wpAnyH_take (i := 16) (v := .int .i64 (Fj)) rfl (by kernel_rfl) (by kernel_rfl) (by kernel_rfl) (fun _ _ _ h => h) (Or.inl ⟨by kernel_rfl, ?_⟩) hHeld ?_
                          · intro w' hSw; have z0 := (fun {w' : World} (hSw : Kb u0 w') => (Below.cell (p := ⟨b, off + J, none⟩) hSw hbu).trans g1) hSw; go_simp
                          try simp only [Act.put, List.setIfInBounds_toArray, List.set_cons_zero, List.set_cons_succ, List.getElem_toArray, List.getElem_cons_succ, List.getElem_cons_zero]
                          refine wpAnyH_take (i := 17) (v := .pointer (some ⟨w.heap.size, 2, none⟩)) rfl (by kernel_rfl) (by kernel_rfl) (by kernel_rfl) (fun _ _ _ h => h) (Or.inl ⟨by kernel_rfl, ?_⟩) hHeld ?_
                          · intro w' hSw; go_simp
                          try simp only [Act.put, List.setIfInBounds_toArray, List.set_cons_zero, List.set_cons_succ, List.getElem_toArray, List.getElem_cons_succ, List.getElem_cons_zero]
                          refine wpAnyH_take (i := 18) (v := .slice ((some ⟨b, off, none⟩)) len c) rfl (by kernel_rfl) (by kernel_rfl) (by kernel_rfl) (fun _ _ _ h => h) (Or.inl ⟨by kernel_rfl, ?_⟩) hHeld ?_
                          · intro w' hSw; obtain ⟨z0, z1, z2, -⟩ := (b0.below hSw).open3; go_simp
                          try simp only [Act.put, List.setIfInBounds_toArray, List.set_cons_zero, List.set_cons_succ, List.getElem_toArray, List.getElem_cons_succ, List.getElem_cons_zero]
                          refine wpAnyH_take (i := 19) (v := .int .i64 ((k : Int))) rfl (by kernel_rfl) (by kernel_rfl) (by kernel_rfl) (fun _ _ _ h => h) (Or.inl ⟨by kernel_rfl, ?_⟩) hHeld ?_
                          · intro w' hSw; go_simp
                          try simp only [Act.put, List.setIfInBounds_toArray, List.set_cons_zero, List.set_cons_succ, List.getElem_toArray, List.getElem_cons_succ, List.getElem_cons_zero]
                          refine wpAnyH_take (i := 20) (v := .pointer (some ⟨b, off + k, none⟩)) rfl (by kernel_rfl) (by kernel_rfl) (by kernel_rfl) (fun _ _ _ h => h) (Or.inl ⟨by kernel_rfl, ?_⟩) hHeld ?_
                          · intro w' hSw; go_simp
                          try simp only [Act.put, List.setIfInBounds_toArray, List.set_cons_zero, List.set_cons_succ, List.getElem_toArray, List.getElem_cons_succ, List.getElem_cons_zero]
                          refine wpAnyH_take (i := 21) (v := .int .i64 (Fk)) rfl (by kernel_rfl) (by kernel_rfl) (by kernel_rfl) (fun _ _ _ h => h) (Or.inl ⟨by kernel_rfl, ?_⟩) hHeld ?_
                          · intro w' hSw; have z0 := (fun {w' : World} (hSw : Kb u0 w') => (Below.cell (p := ⟨b, off + k, none⟩) hSw hbu).trans g2) hSw; go_simp
                          try simp only [Act.put, List.setIfInBounds_toArray, List.set_cons_zero, List.set_cons_succ, List.getElem_toArray, List.getElem_cons_succ, List.getElem_cons_zero]
                          refine wpAnyH_take (i := 22) (v := .bool true) rfl (by kernel_rfl) (by kernel_rfl) (by kernel_rfl) (fun _ _ _ h => h) (Or.inl ⟨by kernel_rfl, ?_⟩) hHeld ?_
                          · intro w' hSw; go_simp
                          try simp only [Act.put, List.setIfInBounds_toArray, List.set_cons_zero, List.set_cons_succ, List.getElem_toArray, List.getElem_cons_succ, List.getElem_cons_zero]
                          refine wpAnyH_take (i := 23) (v := .bool true) rfl (by kernel_rfl) (by kernel_rfl) (by kernel_rfl) (fun _ _ _ h => h) (Or.inl ⟨by kernel_rfl, ?_⟩) hHeld ?_
                          · intro w' hSw; go_simp
                          try simp only [Act.put, List.setIfInBounds_toArray, List.set_cons_zero, List.set_cons_succ, List.getElem_toArray, List.getElem_cons_succ, List.getElem_cons_zero]
                          refine wpAnyH_take (i := 24) (v := .int .i64 ((J : Int))) rfl (by kernel_rfl) (by kernel_rfl) (by kernel_rfl) (fun _ _ _ h => h) (Or.inl ⟨by kernel_rfl, ?_⟩) hHeld ?_
                          · intro w' hSw; go_simp
                          try simp only [Act.put, List.setIfInBounds_toArray, List.set_cons_zero, List.set_cons_succ, List.getElem_toArray, List.getElem_cons_succ, List.getElem_cons_zero]
                          refine wpAnyH_take (i := 25) (v := .int .i64 ((k : Int))) rfl (by kernel_rfl) (by kernel_rfl) (by kernel_rfl) (fun _ _ _ h => h) (Or.inl ⟨by kernel_rfl, ?_⟩) hHeld ?_
                          · intro w' hSw; go_simp
                          try simp only [Act.put, List.setIfInBounds_toArray, List.set_cons_zero, List.set_cons_succ, List.getElem_toArray, List.getElem_cons_succ, List.getElem_cons_zero]
                          refine wpAnyH_take (i := 26) (v := .bool false) rfl (by kernel_rfl) (by kernel_rfl) (by kernel_rfl) (fun _ _ _ h => h) (Or.inl ⟨by kernel_rfl, ?_⟩) hHeld ?_
                          · intro w' hSw; go_simp
                          try simp only [Act.put, List.setIfInBounds_toArray, List.set_cons_zero, List.set_cons_succ, List.getElem_toArray, List.getElem_cons_succ, List.getElem_cons_zero]
                          refine wpAnyH_take (i := 27) (v := .bool false) rfl (by kernel_rfl) (by kernel_rfl) (by kernel_rfl) (fun _ _ _ h => h) (Or.inl ⟨by kernel_rfl, ?_⟩) hHeld ?_
                          · intro w' hSw; go_simp
                          try simp only [Act.put, List.setIfInBounds_toArray, List.set_cons_zero, List.set_cons_succ, List.getElem_toArray, List.getElem_cons_succ, List.getElem_cons_zero]
                          refine wpAnyH_take (i := 28) (v := .bool false) rfl (by kernel_rfl) (by kernel_rfl) (by kernel_rfl) (fun _ _ _ h => h) (Or.inl ⟨by kernel_rfl, ?_⟩) hHeld ?_
                          · intro w' hSw; go_simp
                          try simp only [Act.put, List.setIfInBounds_toArray, List.set_cons_zero, List.set_cons_succ, List.getElem_toArray, List.getElem_cons_succ, List.getElem_cons_zero]
                          refine wpAnyH_done (by kernel_rfl) ?_ _
                          clear hHeld
                          clear bu g1 g2
                          have hH' := hH.good hxN HJE.out hgJ
                          go_wp2
                          exact ⟨⟨(xn : Int) + 1, rfl, by omega, by omega, ⟨_, rfl, hH'⟩, G, b0⟩, by simp [intOf]; omega⟩
                      · have q2' : (Fj == Fk) = false := by simpa using q2
                        have hgJ : ¬ bad f k J := fun h => by have := HBD.out.1 h; omega
                        obtain ⟨u0, hu0, bb⟩ : ∃ uu, wr.drew = uu ∧ Below wr.heap.size wr uu := ⟨_, rfl, (Below.refl _ _).drew⟩
                        replace b0 := b0.below bb
                        replace G := G.below bb
                        replace g1 := (bb.cell (p := ⟨b, off + J, none⟩) hbr).trans g1
                        replace g2 := (bb.cell (p := ⟨b, off + k, none⟩) hbr).trans g2
                        have hbu : b < u0.heap.size := Nat.lt_of_lt_of_le hbr bb.size
                        clear bb
                        refine wp_region_held_drew (S := Kb u0) (by kernel_rfl) (by rw [hu0]; exact Below.refl _ _) (fun hHeld => ?_)
                        rw [hu0] at hHeld ⊢
                        clear hu0
                        have bu : Kb u0 u0 := Below.refl _ _
                        change wpAnyH _ _ _ _ _ 29 #[false, false, false, false, false, false, false, false, false, false, false, false, false, false, false, false, false, false, false, false, false, false, false, false, false, false, false, false, false] _ _
                        refine wpAnyH_take (i := 0) (v := .pointer (some ⟨w.heap.size, 2, none⟩)) rfl (by kernel_rfl) (by kernel_rfl) (by kernel_rfl) (fun _ _ _ h => h) (Or.inl ⟨by kernel_rfl, ?_⟩) hHeld ?_
                        · intro w' hSw; go_simp
                        try simp only [Act.put, List.setIfInBounds_toArray, List.set_cons_zero, List.set_cons_succ, List.getElem_toArray, List.getElem_cons_zero]
                        refine wpAnyH_take (i := 1) (v := .slice ((some ⟨b, off, none⟩)) len c) rfl (by kernel_rfl) (by kernel_rfl) (by kernel_rfl) (fun _ _ _ h => h) (Or.inl ⟨by kernel_rfl, ?_⟩) hHeld ?_
                        · intro w' hSw; obtain ⟨z0, z1, z2, -⟩ := (b0.below hSw).open3; go_simp
                        try simp only [Act.put, List.setIfInBounds_toArray, List.set_cons_zero, List.set_cons_succ, List.getElem_toArray, List.getElem_cons_succ, List.getElem_cons_zero]
                        refine wpAnyH_take (i := 2) (v := .int .i64 ((J : Int))) rfl (by kernel_rfl) (by kernel_rfl) (by kernel_rfl) (fun _ _ _ h => h) (Or.inl ⟨by kernel_rfl, ?_⟩) hHeld ?_
                        · intro w' hSw; go_simp
                        try simp only [Act.put, List.setIfInBounds_toArray, List.set_cons_zero, List.set_cons_succ, List.getElem_toArray, List.getElem_cons_succ, List.getElem_cons_zero]
                        refine wpAnyH_take (i := 3) (v := .pointer (some ⟨b, off + J, none⟩)) rfl (by kernel_rfl) (by kernel_rfl) (by kernel_rfl) (fun _ _ _ h => h) (Or.inl ⟨by kernel_rfl, ?_⟩) hHeld ?_
                        · intro w' hSw; go_simp
                        try simp only [Act.put, List.setIfInBounds_toArray, List.set_cons_zero, List.set_cons_succ, List.getElem_toArray, List.getElem_cons_succ, List.getElem_cons_zero]
                        refine wpAnyH_take (i := 4) (v := .int .i64 (Fj)) rfl (by kernel_rfl) (by kernel_rfl) (by kernel_rfl) (fun _ _ _ h => h) (Or.inl ⟨by kernel_rfl, ?_⟩) hHeld ?_
                        · intro w' hSw; have z0 := (fun {w' : World} (hSw : Kb u0 w') => (Below.cell (p := ⟨b, off + J, none⟩) hSw hbu).trans g1) hSw; go_simp
                        try simp only [Act.put, List.setIfInBounds_toArray, List.set_cons_zero, List.set_cons_succ, List.getElem_toArray, List.getElem_cons_succ, List.getElem_cons_zero]
                        refine wpAnyH_take (i := 5) (v := .pointer (some ⟨w.heap.size, 2, none⟩)) rfl (by kernel_rfl) (by kernel_rfl) (by kernel_rfl) (fun _ _ _ h => h) (Or.inl ⟨by kernel_rfl, ?_⟩) hHeld ?_
                        · intro w' hSw; go_simp
                        try simp only [Act.put, List.setIfInBounds_toArray, List.set_cons_zero, List.set_cons_succ, List.getElem_toArray, List.getElem_cons_succ, List.getElem_cons_zero]
                        refine wpAnyH_take (i := 6) (v := .slice ((some ⟨b, off, none⟩)) len c) rfl (by kernel_rfl) (by kernel_rfl) (by kernel_rfl) (fun _ _ _ h => h) (Or.inl ⟨by kernel_rfl, ?_⟩) hHeld ?_
                        · intro w' hSw; obtain ⟨z0, z1, z2, -⟩ := (b0.below hSw).open3; go_simp
                        try simp only [Act.put, List.setIfInBounds_toArray, List.set_cons_zero, List.set_cons_succ, List.getElem_toArray, List.getElem_cons_succ, List.getElem_cons_zero]
                        refine wpAnyH_take (i := 7) (v := .int .i64 ((k : Int))) rfl (by kernel_rfl) (by kernel_rfl) (by kernel_rfl) (fun _ _ _ h => h) (Or.inl ⟨by kernel_rfl, ?_⟩) hHeld ?_
                        · intro w' hSw; go_simp
                        try simp only [Act.put, List.setIfInBounds_toArray, List.set_cons_zero, List.set_cons_succ, List.getElem_toArray, List.getElem_cons_succ, List.getElem_cons_zero]
                        refine wpAnyH_take (i := 8) (v := .pointer (some ⟨b, off + k, none⟩)) rfl (by kernel_rfl) (by kernel_rfl) (by kernel_rfl) (fun _ _ _ h => h) (Or.inl ⟨by kernel_rfl, ?_⟩) hHeld ?_
                        · intro w' hSw; go_simp
                        try simp only [Act.put, List.setIfInBounds_toArray, List.set_cons_zero, List.set_cons_succ, List.getElem_toArray, List.getElem_cons_succ, List.getElem_cons_zero]
                        refine wpAnyH_take (i := 9) (v := .int .i64 (Fk)) rfl (by kernel_rfl) (by kernel_rfl) (by kernel_rfl) (fun _ _ _ h => h) (Or.inl ⟨by kernel_rfl, ?_⟩) hHeld ?_
                        · intro w' hSw; have z0 := (fun {w' : World} (hSw : Kb u0 w') => (Below.cell (p := ⟨b, off + k, none⟩) hSw hbu).trans g2) hSw; go_simp
                        try simp only [Act.put, List.setIfInBounds_toArray, List.set_cons_zero, List.set_cons_succ, List.getElem_toArray, List.getElem_cons_succ, List.getElem_cons_zero]
                        refine wpAnyH_take (i := 10) (v := .bool false) rfl (by kernel_rfl) (by kernel_rfl) (by kernel_rfl) (fun _ _ _ h => h) (Or.inl ⟨by kernel_rfl, ?_⟩) hHeld ?_
                        · intro w' hSw; go_simp
                        try simp only [Act.put, List.setIfInBounds_toArray, List.set_cons_zero, List.set_cons_succ, List.getElem_toArray, List.getElem_cons_succ, List.getElem_cons_zero]
                        refine wpAnyH_take (i := 11) (v := .bool false) rfl (by kernel_rfl) (by kernel_rfl) (by kernel_rfl) (fun _ _ _ h => h) (Or.inl ⟨by kernel_rfl, ?_⟩) hHeld ?_
                        · intro w' hSw; go_simp
                        try simp only [Act.put, List.setIfInBounds_toArray, List.set_cons_zero, List.set_cons_succ, List.getElem_toArray, List.getElem_cons_succ, List.getElem_cons_zero]
                        refine wpAnyH_take (i := 12) (v := .pointer (some ⟨w.heap.size, 2, none⟩)) rfl (by kernel_rfl) (by kernel_rfl) (by kernel_rfl) (fun _ _ _ h => h) (Or.inl ⟨by kernel_rfl, ?_⟩) hHeld ?_
                        · intro w' hSw; go_simp
                        try simp only [Act.put, List.setIfInBounds_toArray, List.set_cons_zero, List.set_cons_succ, List.getElem_toArray, List.getElem_cons_succ, List.getElem_cons_zero]
                        refine wpAnyH_take (i := 13) (v := .slice ((some ⟨b, off, none⟩)) len c) rfl (by kernel_rfl) (by kernel_rfl) (by kernel_rfl) (fun _ _ _ h => h) (Or.inl ⟨by kernel_rfl, ?_⟩) hHeld ?_
                        · intro w' hSw; obtain ⟨z0, z1, z2, -⟩ := (b0.below hSw).open3; go_simp
                        try simp only [Act.put, List.setIfInBounds_toArray, List.set_cons_zero, List.set_cons_succ, List.getElem_toArray, List.getElem_cons_succ, List.getElem_cons_zero]
                        refine wpAnyH_take (i := 14) (v := .int .i64 ((J : Int))) rfl (by kernel_rfl) (by kernel_rfl) (by kernel_rfl) (fun _ _ _ h => h) (Or.inl ⟨by kernel_rfl, ?_⟩) hHeld ?_
                        · intro w' hSw; go_simp
                        try simp only [Act.put, List.setIfInBounds_toArray, List.set_cons_zero, List.set_cons_succ, List.getElem_toArray, List.getElem_cons_succ, List.getElem_cons_zero]
                        refine wpAnyH_take (i := 15) (v := .pointer (some ⟨b, off + J, none⟩)) rfl (by kernel_rfl) (by kernel_rfl) (by kernel_rfl) (fun _ _ _ h => h) (Or.inl ⟨by kernel_rfl, ?_⟩) hHeld ?_
                        · intro w' hSw; go_simp
                        try simp only [Act.put, List.setIfInBounds_toArray, List.set_cons_zero, List.set_cons_succ, List.getElem_toArray, List.getElem_cons_succ, List.getElem_cons_zero]
                        refine wpAnyH_take (i := 16) (v := .int .i64 (Fj)) rfl (by kernel_rfl) (by kernel_rfl) (by kernel_rfl) (fun _ _ _ h => h) (Or.inl ⟨by kernel_rfl, ?_⟩) hHeld ?_
                        · intro w' hSw; have z0 := (fun {w' : World} (hSw : Kb u0 w') => (Below.cell (p := ⟨b, off + J, none⟩) hSw hbu).trans g1) hSw; go_simp
                        try simp only [Act.put, List.setIfInBounds_toArray, List.set_cons_zero, List.set_cons_succ, List.getElem_toArray, List.getElem_cons_succ, List.getElem_cons_zero]
                        refine wpAnyH_take (i := 17) (v := .pointer (some ⟨w.heap.size, 2, none⟩)) rfl (by kernel_rfl) (by kernel_rfl) (by kernel_rfl) (fun _ _ _ h => h) (Or.inl ⟨by kernel_rfl, ?_⟩) hHeld ?_
                        · intro w' hSw; go_simp
                        try simp only [Act.put, List.setIfInBounds_toArray, List.set_cons_zero, List.set_cons_succ, List.getElem_toArray, List.getElem_cons_succ, List.getElem_cons_zero]
                        refine wpAnyH_take (i := 18) (v := .slice ((some ⟨b, off, none⟩)) len c) rfl (by kernel_rfl) (by kernel_rfl) (by kernel_rfl) (fun _ _ _ h => h) (Or.inl ⟨by kernel_rfl, ?_⟩) hHeld ?_
                        · intro w' hSw; obtain ⟨z0, z1, z2, -⟩ := (b0.below hSw).open3; go_simp
                        try simp only [Act.put, List.setIfInBounds_toArray, List.set_cons_zero, List.set_cons_succ, List.getElem_toArray, List.getElem_cons_succ, List.getElem_cons_zero]
                        refine wpAnyH_take (i := 19) (v := .int .i64 ((k : Int))) rfl (by kernel_rfl) (by kernel_rfl) (by kernel_rfl) (fun _ _ _ h => h) (Or.inl ⟨by kernel_rfl, ?_⟩) hHeld ?_
                        · intro w' hSw; go_simp
                        try simp only [Act.put, List.setIfInBounds_toArray, List.set_cons_zero, List.set_cons_succ, List.getElem_toArray, List.getElem_cons_succ, List.getElem_cons_zero]
                        refine wpAnyH_take (i := 20) (v := .pointer (some ⟨b, off + k, none⟩)) rfl (by kernel_rfl) (by kernel_rfl) (by kernel_rfl) (fun _ _ _ h => h) (Or.inl ⟨by kernel_rfl, ?_⟩) hHeld ?_
                        · intro w' hSw; go_simp
                        try simp only [Act.put, List.setIfInBounds_toArray, List.set_cons_zero, List.set_cons_succ, List.getElem_toArray, List.getElem_cons_succ, List.getElem_cons_zero]
                        refine wpAnyH_take (i := 21) (v := .int .i64 (Fk)) rfl (by kernel_rfl) (by kernel_rfl) (by kernel_rfl) (fun _ _ _ h => h) (Or.inl ⟨by kernel_rfl, ?_⟩) hHeld ?_
                        · intro w' hSw; have z0 := (fun {w' : World} (hSw : Kb u0 w') => (Below.cell (p := ⟨b, off + k, none⟩) hSw hbu).trans g2) hSw; go_simp
                        try simp only [Act.put, List.setIfInBounds_toArray, List.set_cons_zero, List.set_cons_succ, List.getElem_toArray, List.getElem_cons_succ, List.getElem_cons_zero]
                        refine wpAnyH_take (i := 22) (v := .bool false) rfl (by kernel_rfl) (by kernel_rfl) (by kernel_rfl) (fun _ _ _ h => h) (Or.inl ⟨by kernel_rfl, ?_⟩) hHeld ?_
                        · intro w' hSw; go_simp
                        try simp only [Act.put, List.setIfInBounds_toArray, List.set_cons_zero, List.set_cons_succ, List.getElem_toArray, List.getElem_cons_succ, List.getElem_cons_zero]
                        refine wpAnyH_take (i := 23) (v := .bool false) rfl (by kernel_rfl) (by kernel_rfl) (by kernel_rfl) (fun _ _ _ h => h) (Or.inl ⟨by kernel_rfl, ?_⟩) hHeld ?_
                        · intro w' hSw; go_simp
                        try simp only [Act.put, List.setIfInBounds_toArray, List.set_cons_zero, List.set_cons_succ, List.getElem_toArray, List.getElem_cons_succ, List.getElem_cons_zero]
                        refine wpAnyH_take (i := 24) (v := undef) rfl (by kernel_rfl) (by kernel_rfl) (by kernel_rfl) (fun _ _ _ h => h) (Or.inr ⟨by kernel_rfl, rfl⟩) hHeld ?_
                        try simp only [Act.put, List.setIfInBounds_toArray, List.set_cons_zero, List.set_cons_succ, List.getElem_toArray, List.getElem_cons_succ, List.getElem_cons_zero]
                        refine wpAnyH_take (i := 25) (v := undef) rfl (by kernel_rfl) (by kernel_rfl) (by kernel_rfl) (fun _ _ _ h => h) (Or.inr ⟨by kernel_rfl, rfl⟩) hHeld ?_
                        try simp only [Act.put, List.setIfInBounds_toArray, List.set_cons_zero, List.set_cons_succ, List.getElem_toArray, List.getElem_cons_succ, List.getElem_cons_zero]
                        refine wpAnyH_take (i := 26) (v := undef) rfl (by kernel_rfl) (by kernel_rfl) (by kernel_rfl) (fun _ _ _ h => h) (Or.inr ⟨by kernel_rfl, rfl⟩) hHeld ?_
                        try simp only [Act.put, List.setIfInBounds_toArray, List.set_cons_zero, List.set_cons_succ, List.getElem_toArray, List.getElem_cons_succ, List.getElem_cons_zero]
                        refine wpAnyH_take (i := 27) (v := .bool false) rfl (by kernel_rfl) (by kernel_rfl) (by kernel_rfl) (fun _ _ _ h => h) (Or.inl ⟨by kernel_rfl, ?_⟩) hHeld ?_
                        · intro w' hSw; go_simp
                        try simp only [Act.put, List.setIfInBounds_toArray, List.set_cons_zero, List.set_cons_succ, List.getElem_toArray, List.getElem_cons_succ, List.getElem_cons_zero]
                        refine wpAnyH_take (i := 28) (v := .bool false) rfl (by kernel_rfl) (by kernel_rfl) (by kernel_rfl) (fun _ _ _ h => h) (Or.inl ⟨by kernel_rfl, ?_⟩) hHeld ?_
                        · intro w' hSw; go_simp
                        try simp only [Act.put, List.setIfInBounds_toArray, List.set_cons_zero, List.set_cons_succ, List.getElem_toArray, List.getElem_cons_succ, List.getElem_cons_zero]
                        refine wpAnyH_done (by kernel_rfl) ?_ _
                        clear hHeld
                        clear bu g1 g2
                        have hH' := hH.good hxN HJE.out hgJ
                        go_wp2
                        exact ⟨⟨(xn : Int) + 1, rfl, by omega, by omega, ⟨_, rfl, hH'⟩, G, b0⟩, by simp [intOf]; omega⟩
                · obtain ⟨hb8, hb8e, hH⟩ : ∃ b8, b8 = hb9 ∧ Hi N len f lv k (Yc + 1) ((X : Int) - 1) b8 := ⟨hb9, rfl, HR.out _ _ _ hH (by omega)⟩
                  rw [← hb8e]
                  clear hb8e
                  go_wp2
                  exact ⟨⟨Yc + 1, rfl, by omega, by omega, ⟨_, rfl, hH⟩, G, b0⟩, by simp [intOf]; omega⟩
            · obtain ⟨hb9, rfl, hH⟩ := hH
              have hsp := HF.out _ _ _ hH (by omega)
              clear hH HR HF HN
              cases hb9
              · have hno := fil_no (k := k) hsp.symm
                rw [← hno] at G
                clear hsp hno
                go_wp2
                exact ⟨⟨k + 1, by omega, by go_num, G, b0⟩, by simp [intOf]; omega⟩
              · have hyes := fil_yes (k := k) hsp.symm
                have hLl := fil_len (sp N len f lv) k
                have hbr : b < wr.heap.size := Nat.lt_of_lt_of_le hb G.b.size
                have g2 := (G.b.cell (p := ⟨b, off + k, none⟩) hb).trans (hr k hlt)
                rw [hF] at g2
                have hsn := spL_snoc N f (fil (sp N len f lv) k) k
                rw [HXY.out.1, HXY.out.2, hF, ← hyes] at hsn
                have hln : (fil (sp N len f lv) (k + 1)).length = (fil (sp N len f lv) k).length + 1 := by rw [hyes]; simp
                generalize fil (sp N len f lv) k = L at G hLl hsn hln
                have hb1 : ∀ w, (Instr.buildSlice 34 1 #[(0, .agg #[.int .i64 (X : Int), .int .i64 (Y : Int), .int .i64 Fk])]).run Try.prog w = .ok (.slice (some ⟨w.heap.size, 0, none⟩) 1 1) (w.alloc (.cells #[.int .i64 (X : Int), .int .i64 (Y : Int), .int .i64 Fk] 37)) := fun _ => by kernel_rfl
                clear hyes hsp
                have hk0 : (0 : Int) ≤ (k : Int) := by omega
                go_wp2_with fail
                clear c0 c1 c2
                obtain ⟨u0, hu0, bb⟩ : ∃ uu, wr.drew = uu ∧ Below wr.heap.size wr uu := ⟨_, rfl, (Below.refl _ _).drew⟩
                replace b0 := b0.below bb
                replace G := G.below bb
                replace g2 := (bb.cell (p := ⟨b, off + k, none⟩) hbr).trans g2
                have hbu : b < u0.heap.size := Nat.lt_of_lt_of_le hbr bb.size
                clear bb
                refine wp_region_held_drew (S := fun w' => At 26 w' w.heap.size #[.int .i64 N, .int .i64 M, .slice (some ⟨b, off, none⟩) len c] ∧ w'.cell? ⟨b, off + k, none⟩ = some (.int .i64 Fk)) (by kernel_rfl) (by rw [hu0]; exact ⟨b0, g2⟩) (fun hHeld => ?_)
                rw [hu0] at hHeld ⊢
                clear hu0
                change wpAnyH _ _ _ _ _ 18 #[false, false, false, false, false, false, false, false, false, false, false, false, false, false, false, false, false, false] _ _
                refine wpAnyH_take (i := 0) (v := s5) rfl (by kernel_rfl) (by kernel_rfl) (by kernel_rfl) (fun _ _ _ h => h) (Or.inl ⟨by kernel_rfl, ?_⟩) hHeld ?_
                · intro w' hSw; go_simp
                try simp only [Act.put, List.setIfInBounds_toArray, List.set_cons_zero, List.set_cons_succ, List.getElem_toArray, List.getElem_cons_zero]
                refine wpAnyH_take (i := 1) (v := .int .i64 ((k : Int))) rfl (by kernel_rfl) (by kernel_rfl) (by kernel_rfl) (fun _ _ _ h => h) (Or.inl ⟨by kernel_rfl, ?_⟩) hHeld ?_
                · intro w' hSw; go_simp
                try simp only [Act.put, List.setIfInBounds_toArray, List.set_cons_zero, List.set_cons_succ, List.getElem_toArray, List.getElem_cons_succ, List.getElem_cons_zero]
                refine wpAnyH_take (i := 2) (v := .pointer (some ⟨w.heap.size, 0, none⟩)) rfl (by kernel_rfl) (by kernel_rfl) (by kernel_rfl) (fun _ _ _ h => h) (Or.inl ⟨by kernel_rfl, ?_⟩) hHeld ?_
                · intro w' hSw; go_simp
                try simp only [Act.put, List.setIfInBounds_toArray, List.set_cons_zero, List.set_cons_succ, List.getElem_toArray, List.getElem_cons_succ, List.getElem_cons_zero]
                refine wpAnyH_take (i := 3) (v := .int .i64 (N)) rfl (by kernel_rfl) (by kernel_rfl) (by kernel_rfl) (fun _ _ _ h => h) (Or.inl ⟨by kernel_rfl, ?_⟩) hHeld ?_
                · intro w' hSw; obtain ⟨h1, z9⟩ := hSw; obtain ⟨z0, z1, z2, -⟩ := h1.open3; go_simp
                try simp only [Act.put, List.setIfInBounds_toArray, List.set_cons_zero, List.set_cons_succ, List.getElem_toArray, List.getElem_cons_succ, List.getElem_cons_zero]
                refine wpAnyH_take (i := 4) (v := .int .i64 ((X : Int))) rfl (by kernel_rfl) (by kernel_rfl) (by kernel_rfl) (fun _ _ _ h => h) (Or.inl ⟨by kernel_rfl, ?_⟩) hHeld ?_
                · intro w' hSw; go_simp
                try simp only [Act.put, List.setIfInBounds_toArray, List.set_cons_zero, List.set_cons_succ, List.getElem_toArray, List.getElem_cons_succ, List.getElem_cons_zero]
                refine wpAnyH_take (i := 5) (v := .int .i64 ((k : Int))) rfl (by kernel_rfl) (by kernel_rfl) (by kernel_rfl) (fun _ _ _ h => h) (Or.inl ⟨by kernel_rfl, ?_⟩) hHeld ?_
                · intro w' hSw; go_simp
                try simp only [Act.put, List.setIfInBounds_toArray, List.set_cons_zero, List.set_cons_succ, List.getElem_toArray, List.getElem_cons_succ, List.getElem_cons_zero]
                refine wpAnyH_take (i := 6) (v := .pointer (some ⟨w.heap.size, 0, none⟩)) rfl (by kernel_rfl) (by kernel_rfl) (by kernel_rfl) (fun _ _ _ h => h) (Or.inl ⟨by kernel_rfl, ?_⟩) hHeld ?_
                · intro w' hSw; go_simp
                try simp only [Act.put, List.setIfInBounds_toArray, List.set_cons_zero, List.set_cons_succ, List.getElem_toArray, List.getElem_cons_succ, List.getElem_cons_zero]
                refine wpAnyH_take (i := 7) (v := .int .i64 (N)) rfl (by kernel_rfl) (by kernel_rfl) (by kernel_rfl) (fun _ _ _ h => h) (Or.inl ⟨by kernel_rfl, ?_⟩) hHeld ?_
                · intro w' hSw; obtain ⟨h1, z9⟩ := hSw; obtain ⟨z0, z1, z2, -⟩ := h1.open3; go_simp
                try simp only [Act.put, List.setIfInBounds_toArray, List.set_cons_zero, List.set_cons_succ, List.getElem_toArray, List.getElem_cons_succ, List.getElem_cons_zero]
                refine wpAnyH_take (i := 8) (v := .int .i64 ((Y : Int))) rfl (by kernel_rfl) (by kernel_rfl) (by kernel_rfl) (fun _ _ _ h => h) (Or.inl ⟨by kernel_rfl, ?_⟩) hHeld ?_
                · intro w' hSw; go_simp
                try simp only [Act.put, List.setIfInBounds_toArray, List.set_cons_zero, List.set_cons_succ, List.getElem_toArray, List.getElem_cons_succ, List.getElem_cons_zero]
                refine wpAnyH_take (i := 9) (v := .pointer (some ⟨w.heap.size, 2, none⟩)) rfl (by kernel_rfl) (by kernel_rfl) (by kernel_rfl) (fun _ _ _ h => h) (Or.inl ⟨by kernel_rfl, ?_⟩) hHeld ?_
                · intro w' hSw; go_simp
                try simp only [Act.put, List.setIfInBounds_toArray, List.set_cons_zero, List.set_cons_succ, List.getElem_toArray, List.getElem_cons_succ, List.getElem_cons_zero]
                refine wpAnyH_take (i := 10) (v := .slice ((some ⟨b, off, none⟩)) len c) rfl (by kernel_rfl) (by kernel_rfl) (by kernel_rfl) (fun _ _ _ h => h) (Or.inl ⟨by kernel_rfl, ?_⟩) hHeld ?_
                · intro w' hSw; obtain ⟨h1, z9⟩ := hSw; obtain ⟨z0, z1, z2, -⟩ := h1.open3; go_simp
                try simp only [Act.put, List.setIfInBounds_toArray, List.set_cons_zero, List.set_cons_succ, List.getElem_toArray, List.getElem_cons_succ, List.getElem_cons_zero]
                refine wpAnyH_take (i := 11) (v := .int .i64 ((k : Int))) rfl (by kernel_rfl) (by kernel_rfl) (by kernel_rfl) (fun _ _ _ h => h) (Or.inl ⟨by kernel_rfl, ?_⟩) hHeld ?_
                · intro w' hSw; go_simp
                try simp only [Act.put, List.setIfInBounds_toArray, List.set_cons_zero, List.set_cons_succ, List.getElem_toArray, List.getElem_cons_succ, List.getElem_cons_zero]
                refine wpAnyH_take (i := 12) (v := .pointer (some ⟨b, off + k, none⟩)) rfl (by kernel_rfl) (by kernel_rfl) (by kernel_rfl) (fun _ _ _ h => h) (Or.inl ⟨by kernel_rfl, ?_⟩) hHeld ?_
                · intro w' hSw; go_simp
                try simp only [Act.put, List.setIfInBounds_toArray, List.set_cons_zero, List.set_cons_succ, List.getElem_toArray, List.getElem_cons_succ, List.getElem_cons_zero]
                refine wpAnyH_take (i := 13) (v := .int .i64 (Fk)) rfl (by kernel_rfl) (by kernel_rfl) (by kernel_rfl) (fun _ _ _ h => h) (Or.inl ⟨by kernel_rfl, ?_⟩) hHeld ?_
                · intro w' hSw; obtain ⟨h1, z9⟩ := hSw; obtain ⟨z0, z1, z2, -⟩ := h1.open3; go_simp
                try simp only [Act.put, List.setIfInBounds_toArray, List.set_cons_zero, List.set_cons_succ, List.getElem_toArray, List.getElem_cons_succ, List.getElem_cons_zero]
                refine wpAnyH_take (i := 14) (v := .agg #[.int .i64 ((X : Int)), .int .i64 ((Y : Int)), .int .i64 (Fk)]) rfl (by kernel_rfl) (by kernel_rfl) (by kernel_rfl) (fun _ _ _ h => h) (Or.inl ⟨by kernel_rfl, ?_⟩) hHeld ?_
                · intro w' hSw; go_simp
                try simp only [Act.put, List.setIfInBounds_toArray, List.set_cons_zero, List.set_cons_succ, List.getElem_toArray, List.getElem_cons_succ, List.getElem_cons_zero]
                refine wpAnyH_ready (rs := [15]) (by kernel_rfl) (by simp) ?_
                refine AllReadyH.cons rfl (fun KK hK' => ?_) AllReadyH.nil
                go_simp
                obtain ⟨u1, hV9, A9, bb, -⟩ := boxed u0 37 #[.int .i64 (X : Int), .int .i64 (Y : Int), .int .i64 Fk]
                rw [hV9]
                clear hV9
                replace b0 := b0.below bb
                replace G := G.below bb
                replace g2 := (bb.cell (p := ⟨b, off + k, none⟩) hbu).trans g2
                clear bb
                clear hHeld
                refine hK'.out _ _ (⟨b0, g2⟩) (fun hHeld => ?_)
                clear hK' KK
                try simp only [List.setIfInBounds_toArray, List.set_cons_zero, List.set_cons_succ]
                refine wpAnyH_ready (rs := [16]) (by kernel_rfl) (by simp) ?_
                refine AllReadyH.cons rfl (fun KK hK' => ?_) AllReadyH.nil
                refine step_append_at _ (by rfl) _ _ _ (by rfl) w.heap.size 37 i0 _ 3 24 Try.underlying34 hi0 hz0 hz1 hz2 rfl (by omega) s5 L.length (lCells (spL N f L)) (by rfl) G.own ⟨u0.heap.size, 0, none⟩ 1 1 (lCells [(X : Int), (Y : Int), Fk]) (by rfl) (by rfl) (news3 A9) (lCells_one _) (by unfold maxLen; omega) (by omega) G.o3 ?_
                intro v2 u2 hown2 hgrow2 hne2 _hat
                have G9 := G.grow hown2 hgrow2 (fun e => by have := (hne2.1 e).2; omega)
                replace b0 := G.keepT hgrow2 b0 (by decide)
                replace g2 := (G9.b.cell (p := ⟨b, off + k, none⟩) hb).trans ((G.b.cell (p := ⟨b, off + k, none⟩) hb).symm.trans g2)
                clear hown2 hgrow2 hne2 A9 G
                clear hHeld
                refine hK'.out _ _ (⟨b0, g2⟩) (fun hHeld => ?_)
                clear hK' KK
                try simp only [List.setIfInBounds_toArray, List.set_cons_zero, List.set_cons_succ]
                refine wpAnyH_take (i := 17) (v := v2) rfl (by kernel_rfl) (by kernel_rfl) (by kernel_rfl) (fun _ _ _ h => h) (Or.inl ⟨by kernel_rfl, ?_⟩) hHeld ?_
                · intro w' hSw; go_simp
                try simp only [Act.put, List.setIfInBounds_toArray, List.set_cons_zero, List.set_cons_succ, List.getElem_toArray, List.getElem_cons_succ, List.getElem_cons_zero]
                refine wpAnyH_done (by kernel_rfl) ?_ _
                clear hHeld
                go_wp2
                rw [← hln, ← hsn] at G9
                exact ⟨⟨k + 1, by omega, by go_num, G9, b0⟩, by simp [intOf]; omega⟩
        · have hlt' : ¬ (k : Int) < (len : Int) := by omega
          obtain rfl : k = len := by omega
          go_wp2
          go_ret
          exact HEnd _ _ G
    · rw [decide_eq_false hl1]
      have hno : ¬ spOk W H len f lv := fun h => hl1 h.2
      go_wp2
      go_ret
      exact ⟨_, rfl, by rw [spO_no hno]; exact G⟩
end Go.Proofs.Ythfhpnfcodcjlaa
