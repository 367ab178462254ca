/-
  The numbers of the pixels near a place and their sums, by the program, walked.
-/
import Derived.Test.YtfgehmcloeebkaaWa
import Derived.Deep.AppendLies
import Derived.Deep.CutRange
import Derived.Test.YtfgehmcloeebkaaLa
namespace Go.Proofs.Ytfgehmcloeebkaa
open Go.RowKit

theorem number_any (N : Nat) (H : Int) (col row : Nat) (w : World) (hN : N ≤ 64) (hc : col ≤ 64) (hr : row ≤ 64) : Calls Try.prog 70 #[gV N H, .int .i64 (col : Int), .int .i64 (row : Int)] w fun e w' => e = .returned (.int .i64 ((row * N + col : Nat) : Int)) ∧ Below w.heap.size w w' := by
  have p1 := mul_in (a := (row : Int)) (b := (N : Int)) (x := 64) (y := 64) (by omega) (by omega)
  obtain ⟨V, hV, b0, bV, -⟩ := boxed w 56 #[.int .i64 N, .int .i64 H]
  obtain ⟨c0, c1, -⟩ := b0.open2
  go_enter Try.func70, Try.ntmps70
  go_wp2
  go_ret
  refine ⟨congrArg (fun z => Ending.returned (Value.int .i64 z)) ?_, bV⟩
  simp
theorem has_any (W H x y : Int) (w : World) : Calls Try.prog 54 #[gV W H, .int .i64 x, .int .i64 y] w fun e w' => e = .returned (.bool (decide ((0 ≤ x ∧ x < W) ∧ 0 ≤ y ∧ y < H))) ∧ Below w.heap.size w w' := by
  obtain ⟨V, hV, b0, bV, -⟩ := boxed w 56 #[.int .i64 W, .int .i64 H]
  obtain ⟨c0, c1, -⟩ := b0.open2
  go_enter Try.func54, Try.ntmps54
  go_wp2
  all_goals
    go_ret
    refine ⟨congrArg (fun b => Ending.returned (Value.bool b)) ?_, bV⟩
    rw [Bool.eq_iff_iff]
    simp
    try omega
theorem sumAt_any {w : World} {a : Option Addr} {len c : Nat} {f : Nat → Int} (W H : Int) (hs : Src w a len f) (hf : ∀ i, i < len → 0 ≤ f i ∧ f i ≤ 65535) {base : Nat} {v : Value} {L : List Nat} (hv : NmR w base v L) (hL : ∀ j ∈ L, j < len) (hLl : L.length ≤ 4096) :
    Calls Try.prog 56 #[fV W H (.slice a len c), v] w fun e w' => e = .returned (.int .i64 (fs f L)) ∧ Below w.heap.size w w' := by
  obtain ⟨V, hV, b0, bV, -⟩ := boxed w 58 #[.int .i64 W, .int .i64 H, .slice a len c]
  replace hv := hv.below bV
  replace hs := hs.below bV
  obtain ⟨g, cc, rfl, hg, hgl, hcell⟩ := hv.open
  have HC : Hid (∀ i (hi : i < L.length), V.cell? ⟨g, i, none⟩ = some (.int .i64 (L[i] : Int))) := hcell
  clear hcell
  obtain ⟨c0, c1, c2, -⟩ := b0.open3
  go_enter Try.func56, Try.ntmps56
  go_wp2
  go_loopw [5, 10] (fun s5 s10 wr => ∃ k : Nat, k ≤ L.length ∧ s10 = .int .i64 k ∧ s5 = .int .i64 (fs f (L.take k)) ∧ V = wr) (fun _ s10 _ => L.length - (intOf s10).toNat)
  case atStart => exact ⟨0, Nat.zero_le _, rfl, rfl, rfl⟩
  case round =>
    obtain ⟨k, hk, rfl, rfl, rfl⟩ := hrel
    by_cases hlt : k < L.length
    · have hlt' : (k : Int) < (L.length : Int) := by omega
      have g0 := HC.out k hlt
      have hj := hL _ (List.getElem_mem hlt)
      have hst := fs_take f L hlt
      have hS := fs_in hf (L.take k) (fun j hj => hL j (List.mem_of_mem_take hj))
      have hSl : (L.take k).length = k := by simp; omega
      have hfj := hf _ hj
      rw [hSl] at hS
      generalize L[k] = j at g0 hj hst hfj
      generalize fs f (L.take k) = SS at hS hst
      rcases hs with h0 | ⟨b, off, rfl, hb, hr⟩
      · omega
      have g1 := hr j hj
      have hj' : (j : Int) < (len : Int) := by omega
      have hLk : (k : Int) ≤ 4096 := by omega
      obtain ⟨F, hF⟩ : ∃ F, f j = F := ⟨_, rfl⟩
      rw [hF] at g1 hst hfj
      go_wp2
      refine ⟨⟨k + 1, by omega, by go_num, ?_, trivial⟩, by simp [intOf]; omega⟩
      rw [hst]
    · have hlt' : ¬ (k : Int) < (L.length : Int) := by omega
      obtain rfl : k = L.length := by omega
      go_wp2
      go_ret
      refine ⟨?_, bV⟩
      simp
/-- What stands while the numbers are gathered. -/
structure NearW (w0 : World) (q N : Nat) (H : Int) (v : Value) (L : List Nat) (w : World) : Prop where
  nm : NmR w w0.heap.size v L
  bx : At 56 w q #[.int .i64 N, .int .i64 H]
  b : Below w0.heap.size w0 w
  o : w0.heap.size = q
theorem NearW.below {w0 : World} {q N : Nat} {H : Int} {v : Value} {L : List Nat} {w w' : World} (h : NearW w0 q N H v L w) (hb : Below w.heap.size w w') : NearW w0 q N H v L w' := ⟨h.nm.below hb, h.bx.below hb, h.b.trans (hb.mono h.b.size), h.o⟩
theorem NearW.cong {w0 : World} {q N : Nat} {H : Int} {v : Value} {L L' : List Nat} {w : World} (h : NearW w0 q N H v L w) (e : L' = L) : NearW w0 q N H v L' w := e ▸ h
/-- One more number. -/
theorem NearW.add {w0 : World} {q N : Nat} {H : Int} {v v' : Value} {L : List Nat} {w w' : World} (h : NearW w0 q N H v L w) (j : Nat) (ho : w'.ownsRow w0.heap.size 2 1 v' (L.length + 1) (nC L ++ [.int .i64 (j : Int)])) (hg : w.grownBy w' v.ownBlock) (hn : v' = .slice none 0 0 ↔ v = .slice none 0 0 ∧ (1 : Nat) = 0) : NearW w0 q N H v' (L ++ [j]) w' := by
  have h0 := h.o
  have hl := h.bx.lt
  have hne : v.ownBlock ≠ some q := by
    intro e
    rcases h.nm.2.2 with ⟨e1, -⟩ | ⟨g, c, cur, rfl, hb, hh, -⟩
    · exact h.nm.1 e1
    · cases e
      have h1 := h.bx
      unfold At at h1
      rw [hh] at h1
      cases h1
  refine ⟨⟨fun e => by have := (hn.1 e).2; omega, by rw [← nC_add]; simpa using ho⟩, (hg.block q hl (fun e => hne e.symm)).trans h.bx, ?_, h0⟩
  refine h.b.trans ⟨hg.os, hg.tape, hg.output, hg.size, fun k hk => hg.block k (by have := h.b.size; omega) (fun e => ?_)⟩
  rcases h.nm.2.2 with ⟨e1, -⟩ | ⟨g, c, cur, rfl, hb, -⟩
  · exact h.nm.1 e1
  · simp only [Value.ownBlock, Option.some.injEq] at e
    omega
set_option maxRecDepth 100000 in
set_option maxHeartbeats 8000000 in
theorem near_any (N M : Nat) (x y r : Int) (w : World) (hN : 1 ≤ N ∧ N ≤ 64) (hM : 1 ≤ M ∧ M ≤ 64) (hx : 0 ≤ x ∧ x < N) (hy : 0 ≤ y ∧ y < M) (hr : 0 ≤ r ∧ r ≤ 6) :
    Calls Try.prog 55 #[gV N M, .int .i64 x, .int .i64 y, .int .i64 r] w fun e w' => ∃ v, e = .returned v ∧ NmR w' w.heap.size v (fil (pr N x y r) (M * N)) ∧ Below w.heap.size w w' := by
  have hbs : ∀ w, (Instr.buildSlice 24 0 #[]).run Try.prog w = .ok (.slice (some ⟨w.heap.size, 0, none⟩) 0 0) (w.alloc (.cells #[] 2)) := fun _ => by kernel_rfl
  obtain ⟨i0, hi0, hz0, hz1, hz2⟩ := info_parts infoI
  obtain ⟨q, hq⟩ : ∃ q, w.heap.size = q := ⟨_, rfl⟩
  obtain ⟨V, hV, b0, bV, -⟩ := boxed w 56 #[.int .i64 N, .int .i64 M]
  obtain ⟨V2, hV2, a2, bV2, -⟩ := boxed V 2 #[]
  have s0 := b0.lt
  have R0 : NearW w q N M (.slice (some ⟨V.heap.size, 0, none⟩) 0 0) [] V2 := by
    refine ⟨⟨(by intro h; cases h), rfl, .inr ⟨V.heap.size, 0, #[], rfl, by omega, a2, Nat.le_refl _, Nat.zero_le _, rfl, rfl⟩⟩, hq ▸ b0.below bV2, bV.trans (bV2.mono bV.size), hq⟩
  clear b0 a2 bV bV2
  obtain ⟨c0, c1, -⟩ := R0.bx.open2
  go_enter Try.func55, Try.ntmps55
  go_upto_region 2 with (fail)
  clear hV hV2 c0 c1 hbs
  go_cut [10] from 13 to 16 (fun s10 wc => ∃ Y : Nat, s10 = .int .i64 (Y : Int) ∧ ((Y : Int) ≤ y - r ∨ Y = 0) ∧ y - r ≤ (Y : Int) ∧ (Y : Int) ≤ y ∧ V2 = wc)
  case first =>
    by_cases hyr : y - r < 0
    · go_wp2
      go_meet
      case rel => exact ⟨0, rfl, .inr rfl, by omega, by omega, rfl⟩
    · obtain ⟨Y, hY⟩ : ∃ Y : Nat, y - r = (Y : Int) := ⟨(y - r).toNat, by omega⟩
      have hYz : ¬ (Y : Int) < 0 := by omega
      go_wp2
      all_goals
        go_meet
        case rel => exact ⟨Y, rfl, .inl (by omega), by omega, by omega, rfl⟩
  case rest =>
    obtain ⟨Y, rfl, hY1, hY2, hY3, rfl⟩ := hcut
    replace R0 := R0.cong (gap_head (N := N) (x := x) (y := y) (r := r) (row := Y) (by omega) hY1)
    go_wp2_with fail
    go_loopw [9, 10] (fun s9 s10 wr => ∃ row : Nat, s10 = .int .i64 (row : Int) ∧ y - r ≤ (row : Int) ∧ (row : Int) ≤ y + r + 1 ∧ row ≤ M ∧ NearW w q N M s9 (fil (pr N x y r) (row * N)) wr) (fun _ s10 _ => M - (intOf s10).toNat)
    case atStart => exact ⟨Y, rfl, hY2, by omega, by omega, R0⟩
    case round =>
      clear R0 hY1 hY2 hY3
      obtain ⟨row, rfl, hr1, hr2, hr3, R⟩ := hrel
      obtain ⟨c0, c1, -⟩ := R.bx.open2
      by_cases hgo : (row : Int) ≤ y + r ∧ row < M
      · obtain ⟨g1, g2⟩ := hgo
        have g3 : (row : Int) ≤ (M : Int) - 1 := by omega
        go_upto_region 3 with (fail)
        go_cut [25] from 17 to 24 (fun s25 wc => s25 = .bool true ∧ wr = wc)
        case first =>
          go_wp2
          all_goals
            go_meet
            case rel => exact ⟨rfl, rfl⟩
        case rest =>
          obtain ⟨rfl, rfl⟩ := hcut
          go_upto_region 5 with (fail)
          clear g3
          go_cut [11] from 28 to 31 (fun s11 wc => ∃ X : Nat, s11 = .int .i64 (X : Int) ∧ ((X : Int) ≤ x - r ∨ X = 0) ∧ x - r ≤ (X : Int) ∧ (X : Int) ≤ x ∧ wr = wc)
          case first =>
            by_cases hyr : x - r < 0
            · go_wp2
              go_meet
              case rel => exact ⟨0, rfl, .inr rfl, by omega, by omega, rfl⟩
            · obtain ⟨Y, hY⟩ : ∃ Y : Nat, x - r = (Y : Int) := ⟨(x - r).toNat, by omega⟩
              have hYz : ¬ (Y : Int) < 0 := by omega
              go_wp2
              all_goals
                go_meet
                case rel => exact ⟨Y, rfl, .inl (by omega), by omega, by omega, rfl⟩
          case rest =>
            obtain ⟨X, rfl, hX1, hX2, hX3, rfl⟩ := hcut
            replace R := R.cong (gap_left (N := N) (x := x) (y := y) (r := r) (row := row) (col := X) (by omega) hX1)
            clear c0 c1
            go_wp2_with fail
            go_loopw [9, 11] (fun s9 s11 wr => ∃ col : Nat, s11 = .int .i64 (col : Int) ∧ x - r ≤ (col : Int) ∧ (col : Int) ≤ x + r + 1 ∧ col ≤ N ∧ NearW w q N M s9 (fil (pr N x y r) (row * N + col)) wr) (fun _ s11 _ => N - (intOf s11).toNat)
            case atStart => exact ⟨X, rfl, hX2, by omega, by omega, R⟩
            case round =>
              clear R hX1 hX2 hX3
              obtain ⟨col, rfl, hc1, hc2, hc3, R⟩ := hrel
              obtain ⟨c0, c1, -⟩ := R.bx.open2
              by_cases hgo : (col : Int) ≤ x + r ∧ col < N
              · obtain ⟨g3, g4⟩ := hgo
                have g5 : (col : Int) ≤ (N : Int) - 1 := by omega
                go_upto_region 6 with (fail)
                go_cut [40] from 32 to 39 (fun s40 wc => s40 = .bool true ∧ wr = wc)
                case first =>
                  go_wp2
                  all_goals
                    go_meet
                    case rel => exact ⟨rfl, rfl⟩
                case rest =>
                  obtain ⟨rfl, rfl⟩ := hcut
                  go_wp2_with fail
                  refine (number_any N M col row wr (by omega) (by omega) (by omega)).mono ?_
                  rintro e w5 ⟨rfl, b5⟩
                  replace R := R.below b5
                  clear c0 c1 g5 b5
                  have hyes := fil_yes (pr_at (N := N) (x := x) (y := y) (r := r) (row := row) (col := col) g4 hc1 g3 hr1 g1)
                  have hlen := fil_len (pr N x y r) (row * N + col)
                  have hJ : row * N + col ≤ 64 * 64 + 64 := by
                    have := Nat.mul_le_mul (show row ≤ 64 by omega) hN.2
                    omega
                  generalize fil (pr N x y r) (row * N + col) = L at R hyes hlen
                  obtain ⟨J, hJe⟩ : ∃ J, row * N + col = J := ⟨_, rfl⟩
                  rw [hJe] at hyes hlen hJ ⊢
                  have hb1 : ∀ w, (Instr.buildSlice 24 1 #[(0, .int .i64 (J : Int))]).run Try.prog w = .ok (.slice (some ⟨w.heap.size, 0, none⟩) 1 1) (w.alloc (.cells #[.int .i64 (J : Int)] 2)) := fun _ => by kernel_rfl
                  obtain ⟨V6, hV6, A6, b6, -⟩ := boxed w5 2 #[.int .i64 (J : Int)]
                  replace R := R.below b6
                  have hbase : w.heap.size ≤ V6.heap.size := R.b.size
                  have news := World.news_of_block (cs := #[.int .i64 (J : Int)]) (t := 2) (fr := (0, 0)) A6
                  go_wp2_with (at_builtin; refine wpList_append_own _ rfl _ _ _ rfl w.heap.size 2 i0 _ 1 8 Try.underlying24 hi0 hz0 hz1 hz2 rfl (by omega) u9 L.length (nC L) rfl R.nm.2 ⟨w5.heap.size, 0, none⟩ 1 1 [.int .i64 (J : Int)] rfl rfl news (by simp [Value.oneCell']) (by unfold maxLen; omega) (by omega) hbase ?_; intro v2 w7 hown2 hgrow2 hne2)
                  refine ⟨⟨col + 1, by go_num, by omega, by omega, by omega, ?_⟩, by simp [intOf]; omega⟩
                  refine (R.add J hown2 hgrow2 hne2).cong ?_
                  rw [show row * N + (col + 1) = J + 1 by omega]
                  exact hyes
              · have hend : x + r < (col : Int) ∨ col = N := by omega
                replace R := R.cong (gap_right (N := N) (x := x) (y := y) (r := r) (row := row) (col := col) hc3 hend)
                go_upto_region 6 with (fail)
                go_cut [40] from 32 to 39 (fun s40 wc => s40 = .bool false ∧ wr = wc)
                case first =>
                  rcases hend with h9 | h9
                  · by_cases h8 : (N : Int) - 1 < x + r
                    · exfalso; omega
                    · have h7 : ¬ (col : Int) ≤ x + r := by omega
                      go_wp2
                      all_goals
                        first
                        | (exfalso; omega)
                        | (go_meet
                           case rel => exact ⟨by simp; try omega, rfl⟩)
                  · have h7 : ¬ (col : Int) ≤ (N : Int) - 1 := by omega
                    clear h9
                    go_wp2
                    all_goals
                      first
                      | (exfalso; omega)
                      | (go_meet
                         case rel => exact ⟨by simp; try omega, rfl⟩)
                case rest =>
                  obtain ⟨rfl, rfl⟩ := hcut
                  go_wp2
                  exact ⟨⟨row + 1, by go_num, by omega, by omega, by omega, R⟩, by simp [intOf]; omega⟩
      · have hend : y + r < (row : Int) ∨ row = M := by omega
        replace R := R.cong (gap_tail (N := N) (M := M) (x := x) (y := y) (r := r) (row := row) (by omega) hr3 hend)
        go_upto_region 3 with (fail)
        go_cut [25] from 17 to 24 (fun s25 wc => s25 = .bool false ∧ wr = wc)
        case first =>
          rcases hend with h9 | h9
          · have h7 : ¬ (row : Int) ≤ y + r := by omega
            go_wp2
            all_goals
              first
              | (exfalso; omega)
              | (go_meet
                 case rel => exact ⟨by simp; try omega, rfl⟩)
          · have h7 : ¬ (row : Int) ≤ (M : Int) - 1 := by omega
            clear h9
            go_wp2
            all_goals
              first
              | (exfalso; omega)
              | (go_meet
                 case rel => exact ⟨by simp; try omega, rfl⟩)
        case rest =>
          obtain ⟨rfl, rfl⟩ := hcut
          go_wp2
          go_ret
          exact ⟨_, rfl, R.nm, R.b⟩
end Go.Proofs.Ytfgehmcloeebkaa
