/-
  The draws of rows: walked.
-/
import Derived.Test.YtninblhahjldcaaTe
import Derived.Test.YtninblhahjldcaaTw
import Derived.Test.YtninblhahjldcaaDx
import Derived.Laws.Concat
import Derived.Deep.CutRange
namespace Go.Proofs.Ytninblhahjldcaa
open Go.RowKit

theorem At.kept9 {t : TypeId} {w w' : World} {q p : Nat} {vs : Array Value} (h : At t w q vs) (k : Kept p w w') (hq : q ≠ p) : At t w' q vs := (k.block q h.lt hq).trans h
theorem gr_len (t : Nat) : ∀ (L M : List UInt8), L.length ≤ 20000 → gr t L = some M → M.length ≤ 20000 := by
  induction t with
  | zero => intro L M h e; rw [gr] at e; cases e; exact h
  | succ t ih =>
    intro L M h e
    rw [gr] at e
    by_cases hb : (infl L).length ≤ 20000
    · rw [if_pos hb] at e; exact ih _ _ hb e
    · rw [if_neg hb] at e; cases e
theorem specInfl_some (s : ByteArray) (t : Int) : ∃ (r : ByteArray) (b : Bool), r.size ≤ 100000 ∧ ∀ w : World, Calls Try.prog 11 #[.string s, .int .i64 t] w fun e w' => e = .returned (.tuple #[.string r, .bool b]) ∧ Below w.heap.size w w' := by
  by_cases h : infOk s t
  · obtain ⟨hr, h1, h2⟩ := h
    obtain ⟨L, rfl⟩ : ∃ L, s = tx L := ⟨s.data.toList, by simp [tx]⟩
    obtain ⟨m, rfl⟩ : ∃ m : Nat, t = m := ⟨t.toNat, by omega⟩
    refine ⟨_, _, ?_, fun w => specInfl_yes L m w hr (by omega)⟩
    rw [tx_size]
    have hL : L.length ≤ 20000 := by have := (rowOk_iff.1 hr).1; rw [tx_size] at this; omega
    cases hg : gr m L with
    | none => simp
    | some M => have := gr_len m L M hL hg; simp; omega
  · exact ⟨⟨#[]⟩, false, by decide, fun w => specInfl_no s t w h⟩
set_option maxRecDepth 100000 in
set_option maxHeartbeats 4000000 in
theorem l9Draw_any {w0 w : World} {p : Nat} {a : Option Addr} {len cap : Nat} (hc : Dr w0 p a len cap w) : Calls Try.prog 29 #[.pointer (some ⟨p, 0, none⟩)] w fun e w' => ∃ s, e = .returned (.string s) ∧ Dr w0 p a len cap w' := by
  go_enter Try.func29, Try.ntmps29
  go_wp2_with fail
  refine (below_dr hc 200 (by decide) (by decide)).mono ?_
  clear hc
  rintro e w1 ⟨x, rfl, x0, x1, hc⟩
  go_wp2_with fail
  refine (below_dr hc 30 (by decide) (by decide)).mono ?_
  clear hc
  rintro e w2 ⟨y, rfl, y0, y1, hc⟩
  obtain ⟨m, rfl⟩ : ∃ m : Nat, y = m := ⟨y.toNat, by omega⟩
  go_wp2_with fail
  refine (specCut_yes x m _ x0 (by omega) (by omega)).mono ?_
  rintro e w3 ⟨rfl, b3⟩
  replace hc := hc.below b3
  clear b3
  obtain ⟨s, hs, hsz⟩ : ∃ s : ByteArray, (⟨(cutR x m).toArray⟩ : ByteArray) = s ∧ s.size ≤ 100000 := ⟨_, rfl, by show (tx (cutR x m)).size ≤ 100000; rw [tx_size, cutR_len]; omega⟩
  rw [hs]
  clear hs
  go_wp2_with fail
  refine (below_dr hc 5 (by decide) (by decide)).mono ?_
  clear hc
  rintro e w4 ⟨z, rfl, z0, z1, hc⟩
  by_cases h0 : z = 0
  · subst h0
    go_wp2_with fail
    refine (below_dr hc 20 (by decide) (by decide)).mono ?_
    clear hc
    rintro e w5 ⟨n, rfl, n0, n1, hc⟩
    go_wp2_with fail
    go_loopw [3, 4] (fun v t wr => ∃ (S : ByteArray) (k : Nat), v = .string S ∧ t = .int .i64 k ∧ S.size + 2 * k ≤ 100 ∧ k ≤ 20 ∧ Dr w0 p a len cap wr) (fun _ t _ => (intOf t).toNat)
    case atStart => exact ⟨⟨#[]⟩, n.toNat, rfl, by rw [Int.toNat_of_nonneg n0], by show 0 + 2 * n.toNat ≤ 100; omega, by omega, hc⟩
    case round =>
      clear hc
      obtain ⟨S, k, rfl, rfl, hS, hk, hc⟩ := hrel
      by_cases hz : k = 0
      · subst hz
        have hS2 : S.size ≤ 100000 := by omega
        clear hS hsz
        go_wp2_with fail
        refine (once_dr hc 20 (by decide) (by decide)).mono ?_
        clear hc
        rintro e w7 ⟨b, rfl, hc⟩
        cases b with
        | false =>
          go_wp2
          go_ret
          exact ⟨_, rfl, hc⟩
        | true =>
          go_wp2_with fail
          obtain ⟨V, hV, bx, bV, -⟩ := boxed w7 9 #[.string ⟨#[108]⟩, .string ⟨#[84]⟩, .string ⟨#[32]⟩, .string ⟨#[0]⟩]
          rw [hV]
          have lp : p < w7.heap.size := hc.2.lt
          obtain ⟨q, hqq⟩ : ∃ q, w7.heap.size = q := ⟨_, rfl⟩
          rw [hqq] at bx lp ⊢
          have hk0 := (hc.below bV).1
          replace hc := Dr.start (hc.below bV).2
          clear hV bV hqq
          refine (below_dr hc 4 (by decide) (by decide)).mono ?_
          clear hc
          rintro e w8 ⟨u, rfl, u0, u1, hc⟩
          replace bx := bx.kept9 hc.1 (by omega)
          replace hc := hc.from hk0
          clear hk0
          obtain ⟨i, rfl⟩ : ∃ i : Nat, u = i := ⟨u.toNat, by omega⟩
          have hi : i < 4 := by omega
          obtain ⟨sx, hsx, hcell⟩ : ∃ sx : ByteArray, sx.size ≤ 2 ∧ w8.cell? ⟨q, i, none⟩ = some (.string sx) := by
            match i, hi with
            | 0, _ => exact ⟨⟨#[108]⟩, by decide, bx.cell 0 rfl⟩
            | 1, _ => exact ⟨⟨#[84]⟩, by decide, bx.cell 1 rfl⟩
            | 2, _ => exact ⟨⟨#[32]⟩, by decide, bx.cell 2 rfl⟩
            | 3, _ => exact ⟨⟨#[0]⟩, by decide, bx.cell 3 rfl⟩
          have hadd := run_string_add_sum (P := Try.prog) w8 S sx (by omega)
          have hi' : (i : Int) < 4 := by omega
          clear bx
          go_wp2
          go_ret
          exact ⟨_, rfl, hc⟩
      · have hkn : 0 < k := by omega
        have hkd := decide_eq_true hkn
        have hk0 : (0 : Int) < k := by omega
        have hk30 : (k : Int) ≤ 20 := by omega
        go_wp2_with fail
        obtain ⟨V, hV, bx, bV, -⟩ := boxed wr 9 #[.string ⟨#[76]⟩, .string ⟨#[83]⟩]
        rw [hV]
        have lp : p < wr.heap.size := hc.2.lt
        obtain ⟨q, hqq⟩ : ∃ q, wr.heap.size = q := ⟨_, rfl⟩
        rw [hqq] at bx lp ⊢
        have hk0 := (hc.below bV).1
        replace hc := Dr.start (hc.below bV).2
        clear hV bV hqq
        refine (below_dr hc 2 (by decide) (by decide)).mono ?_
        clear hc
        rintro e w8 ⟨u, rfl, u0, u1, hc⟩
        replace bx := bx.kept9 hc.1 (by omega)
        replace hc := hc.from hk0
        clear hk0
        obtain ⟨i, rfl⟩ : ∃ i : Nat, u = i := ⟨u.toNat, by omega⟩
        have hi : i < 2 := by omega
        obtain ⟨sx, hsx, hcell⟩ : ∃ sx : ByteArray, sx.size ≤ 2 ∧ w8.cell? ⟨q, i, none⟩ = some (.string sx) := by
          match i, hi with
          | 0, _ => exact ⟨⟨#[76]⟩, by decide, bx.cell 0 rfl⟩
          | 1, _ => exact ⟨⟨#[83]⟩, by decide, bx.cell 1 rfl⟩
        have hadd := run_string_add_sum (P := Try.prog) w8 S sx (by omega)
        have hi' : (i : Int) < 2 := by omega
        clear bx
        go_wp2
        refine ⟨⟨S ++ sx, k - 1, rfl, by go_num, ?_, by omega, hc⟩, by simp [intOf]; omega⟩
        rw [ByteArray.size_append]; omega
  · have h0' : (z == 0) = false := by simp [h0]
    by_cases h1 : z = 1
    · subst h1
      go_wp2_with fail
      go_cut [5, 6] from 31 to 42 (fun s5 s6 wc => ∃ (r : ByteArray) (bb : Bool), s5 = .string r ∧ s6 = .bool bb ∧ r.size ≤ 100000 ∧ Dr w0 p a len cap wc)
      case first =>
        obtain ⟨v0, hv0⟩ : ∃ v0, w4.drew = v0 := ⟨_, rfl⟩
        replace hc : Dr w0 p a len cap v0 := by rw [← hv0]; exact hc.below (Below.refl _ _).drew
        refine wp_region_held_drew (S := fun _ => True) (by kernel_rfl) trivial (fun hHeld => ?_)
        rw [hv0]
        clear hv0
        change wpAnyH _ _ _ _ _ 13 #[false, false, false, false, false, false, false, false, false, false, false, false, false] _ _
        refine wpAnyH_take (i := 1) (v := .pointer (some ⟨p, 0, none⟩)) rfl (by kernel_rfl) (by kernel_rfl) (by kernel_rfl) (fun _ _ _ h => h) (Or.inl ⟨by kernel_rfl, ?_⟩) hHeld ?_
        · intro w' hSw; go_simp
        try simp only [Act.put, List.setIfInBounds_toArray, List.set_cons_zero, List.set_cons_succ, List.getElem_toArray, List.getElem_cons_succ, List.getElem_cons_zero]
        refine wpAnyH_take (i := 5) (v := .pointer (some ⟨p, 0, none⟩)) rfl (by kernel_rfl) (by kernel_rfl) (by kernel_rfl) (fun _ _ _ h => h) (Or.inl ⟨by kernel_rfl, ?_⟩) hHeld ?_
        · intro w' hSw; go_simp
        try simp only [Act.put, List.setIfInBounds_toArray, List.set_cons_zero, List.set_cons_succ, List.getElem_toArray, List.getElem_cons_succ, List.getElem_cons_zero]
        refine wpAnyH_ready (rs := [0, 2]) (by kernel_rfl) (by simp) ?_
        refine AllReadyH.cons rfl (fun KK hK' => ?_) (AllReadyH.cons rfl (fun KK hK' => ?_) AllReadyH.nil)
        · go_simp
          obtain ⟨v1, hV, bx, bV, -⟩ := boxed v0 9 #[.string ⟨#[76]⟩, .string ⟨#[83]⟩, .string ⟨#[76, 83]⟩, .string ⟨#[76, 76]⟩, .string ⟨#[83, 83]⟩, .string ⟨#[]⟩]
          rw [hV]
          have lp : p < v0.heap.size := hc.2.lt
          obtain ⟨q, hqq⟩ : ∃ q, v0.heap.size = q := ⟨_, rfl⟩
          rw [hqq] at bx lp ⊢
          replace hc := hc.below bV
          clear hV bV hqq
          clear hHeld
          refine hK'.out _ _ trivial (fun hHeld => ?_)
          clear hK' KK
          try simp only [List.setIfInBounds_toArray, List.set_cons_zero]
          refine wpAnyH_ready (rs := [2]) (by kernel_rfl) (by simp) ?_
          refine AllReadyH.cons rfl (fun KK hK' => ?_) AllReadyH.nil
          go_simp
          have hk0 := hc.1
          replace hc := Dr.start hc.2
          refine (below_dr hc 6 (by decide) (by decide)).mono ?_
          clear hc
          rintro e v2 ⟨u, rfl, u0, u1, hc⟩
          replace bx := bx.kept9 hc.1 (by omega)
          replace hc := hc.from hk0
          clear hk0
          obtain ⟨i, rfl⟩ : ∃ i : Nat, u = i := ⟨u.toNat, by omega⟩
          have hi : i < 6 := by omega
          try go_wp2_with fail
          clear hHeld
          refine hK'.out _ _ trivial (fun hHeld => ?_)
          clear hK' KK
          try simp only [List.setIfInBounds_toArray, List.set_cons_zero, List.set_cons_succ]
          have hi6 : (i : Int) < 6 := by omega
          refine wpAnyH_take (i := 3) (v := .pointer (some ⟨q, i, none⟩)) rfl (by kernel_rfl) (by kernel_rfl) (by kernel_rfl) (fun _ _ _ h => h) (Or.inl ⟨by kernel_rfl, ?_⟩) hHeld ?_
          · intro w' hSw; go_simp
          try simp only [Act.put, List.setIfInBounds_toArray, List.set_cons_zero, List.set_cons_succ, List.getElem_toArray, List.getElem_cons_succ, List.getElem_cons_zero]
          refine wpAnyH_ready (rs := [4, 6]) (by kernel_rfl) (by simp) ?_
          refine AllReadyH.cons rfl (fun KK hK' => ?_) (AllReadyH.cons rfl (fun KK hK' => ?_) AllReadyH.nil)
          · obtain ⟨sx, hcell⟩ : ∃ sx : ByteArray, v2.cell? ⟨q, i, none⟩ = some (.string sx) := by
              match i, hi with
              | 0, _ => exact ⟨⟨#[76]⟩, bx.cell 0 rfl⟩
              | 1, _ => exact ⟨⟨#[83]⟩, bx.cell 1 rfl⟩
              | 2, _ => exact ⟨⟨#[76, 83]⟩, bx.cell 2 rfl⟩
              | 3, _ => exact ⟨⟨#[76, 76]⟩, bx.cell 3 rfl⟩
              | 4, _ => exact ⟨⟨#[83, 83]⟩, bx.cell 4 rfl⟩
              | 5, _ => exact ⟨⟨#[]⟩, bx.cell 5 rfl⟩
            go_simp
            clear hcell
            clear hHeld
            refine hK'.out _ _ trivial (fun hHeld => ?_)
            clear hK' KK
            try simp only [List.setIfInBounds_toArray, List.set_cons_zero, List.set_cons_succ]
            refine wpAnyH_ready (rs := [6]) (by kernel_rfl) (by simp) ?_
            refine AllReadyH.cons rfl (fun KK hK' => ?_) AllReadyH.nil
            go_simp
            have hk0 := hc.1
            replace hc := Dr.start hc.2
            refine (below_dr hc 7 (by decide) (by decide)).mono ?_
            clear hc
            rintro e v3 ⟨t, rfl, t0, t1, hc⟩
            replace bx := bx.kept9 hc.1 (by omega)
            replace hc := hc.from hk0
            clear hk0
            try go_wp2_with fail
            clear hHeld
            refine hK'.out _ _ trivial (fun hHeld => ?_)
            clear hK' KK
            try simp only [List.setIfInBounds_toArray, List.set_cons_zero, List.set_cons_succ]
            refine wpAnyH_ready (rs := [7]) (by kernel_rfl) (by simp) ?_
            refine AllReadyH.cons rfl (fun KK hK' => ?_) AllReadyH.nil
            go_simp
            obtain ⟨r, bb, hr, hI⟩ := specInfl_some sx t
            refine (hI _).mono ?_
            rintro e v4 ⟨rfl, b5⟩
            replace hc := hc.below b5
            clear b5 hI
            try go_wp2_with fail
            clear hHeld
            refine hK'.out _ _ trivial (fun hHeld => ?_)
            clear hK' KK
            try simp only [List.setIfInBounds_toArray, List.set_cons_zero, List.set_cons_succ]
            refine wpAnyH_take (i := 8) (v := .tuple #[.string r, .bool bb]) rfl (by kernel_rfl) (by kernel_rfl) (by kernel_rfl) (fun _ _ _ h => h) (Or.inl ⟨by kernel_rfl, ?_⟩) hHeld ?_
            · intro w' hSw; go_simp
            try simp only [Act.put, List.setIfInBounds_toArray, List.set_cons_zero, List.set_cons_succ, List.getElem_toArray, List.getElem_cons_succ, List.getElem_cons_zero]
            refine wpAnyH_take (i := 9) (v := .string r) rfl (by kernel_rfl) (by kernel_rfl) (by kernel_rfl) (fun _ _ _ h => h) (Or.inl ⟨by kernel_rfl, ?_⟩) hHeld ?_
            · intro w' hSw; go_simp
            try simp only [Act.put, List.setIfInBounds_toArray, List.set_cons_zero, List.set_cons_succ, List.getElem_toArray, List.getElem_cons_succ, List.getElem_cons_zero]
            refine wpAnyH_take (i := 10) (v := .bool bb) rfl (by kernel_rfl) (by kernel_rfl) (by kernel_rfl) (fun _ _ _ h => h) (Or.inl ⟨by kernel_rfl, ?_⟩) hHeld ?_
            · intro w' hSw; go_simp
            try simp only [Act.put, List.setIfInBounds_toArray, List.set_cons_zero, List.set_cons_succ, List.getElem_toArray, List.getElem_cons_succ, List.getElem_cons_zero]
            refine wpAnyH_take (i := 11) (v := .string r) rfl (by kernel_rfl) (by kernel_rfl) (by kernel_rfl) (fun _ _ _ h => h) (Or.inl ⟨by kernel_rfl, ?_⟩) hHeld ?_
            · intro w' hSw; go_simp
            try simp only [Act.put, List.setIfInBounds_toArray, List.set_cons_zero, List.set_cons_succ, List.getElem_toArray, List.getElem_cons_succ, List.getElem_cons_zero]
            refine wpAnyH_take (i := 12) (v := .bool bb) rfl (by kernel_rfl) (by kernel_rfl) (by kernel_rfl) (fun _ _ _ h => h) (Or.inl ⟨by kernel_rfl, ?_⟩) hHeld ?_
            · intro w' hSw; go_simp
            try simp only [Act.put, List.setIfInBounds_toArray, List.set_cons_zero, List.set_cons_succ, List.getElem_toArray, List.getElem_cons_succ, List.getElem_cons_zero]
            refine wpAnyH_done (by kernel_rfl) ?_ _
            go_wp2_with fail
            go_meet
            case rel => exact ⟨r, bb, rfl, rfl, hr, hc⟩
          · go_simp
            have hk0 := hc.1
            replace hc := Dr.start hc.2
            refine (below_dr hc 7 (by decide) (by decide)).mono ?_
            clear hc
            rintro e v3 ⟨t, rfl, t0, t1, hc⟩
            replace bx := bx.kept9 hc.1 (by omega)
            replace hc := hc.from hk0
            clear hk0
            try go_wp2_with fail
            clear hHeld
            refine hK'.out _ _ trivial (fun hHeld => ?_)
            clear hK' KK
            try simp only [List.setIfInBounds_toArray, List.set_cons_zero, List.set_cons_succ]
            refine wpAnyH_ready (rs := [4]) (by kernel_rfl) (by simp) ?_
            refine AllReadyH.cons rfl (fun KK hK' => ?_) AllReadyH.nil
            obtain ⟨sx, hcell⟩ : ∃ sx : ByteArray, v3.cell? ⟨q, i, none⟩ = some (.string sx) := by
              match i, hi with
              | 0, _ => exact ⟨⟨#[76]⟩, bx.cell 0 rfl⟩
              | 1, _ => exact ⟨⟨#[83]⟩, bx.cell 1 rfl⟩
              | 2, _ => exact ⟨⟨#[76, 83]⟩, bx.cell 2 rfl⟩
              | 3, _ => exact ⟨⟨#[76, 76]⟩, bx.cell 3 rfl⟩
              | 4, _ => exact ⟨⟨#[83, 83]⟩, bx.cell 4 rfl⟩
              | 5, _ => exact ⟨⟨#[]⟩, bx.cell 5 rfl⟩
            go_simp
            clear hcell
            clear hHeld
            refine hK'.out _ _ trivial (fun hHeld => ?_)
            clear hK' KK
            try simp only [List.setIfInBounds_toArray, List.set_cons_zero, List.set_cons_succ]
            refine wpAnyH_ready (rs := [7]) (by kernel_rfl) (by simp) ?_
            refine AllReadyH.cons rfl (fun KK hK' => ?_) AllReadyH.nil
            go_simp
            obtain ⟨r, bb, hr, hI⟩ := specInfl_some sx t
            refine (hI _).mono ?_
            rintro e v4 ⟨rfl, b5⟩
            replace hc := hc.below b5
            clear b5 hI
            try go_wp2_with fail
            clear hHeld
            refine hK'.out _ _ trivial (fun hHeld => ?_)
            clear hK' KK
            try simp only [List.setIfInBounds_toArray, List.set_cons_zero, List.set_cons_succ]
            refine wpAnyH_take (i := 8) (v := .tuple #[.string r, .bool bb]) rfl (by kernel_rfl) (by kernel_rfl) (by kernel_rfl) (fun _ _ _ h => h) (Or.inl ⟨by kernel_rfl, ?_⟩) hHeld ?_
            · intro w' hSw; go_simp
            try simp only [Act.put, List.setIfInBounds_toArray, List.set_cons_zero, List.set_cons_succ, List.getElem_toArray, List.getElem_cons_succ, List.getElem_cons_zero]
            refine wpAnyH_take (i := 9) (v := .string r) rfl (by kernel_rfl) (by kernel_rfl) (by kernel_rfl) (fun _ _ _ h => h) (Or.inl ⟨by kernel_rfl, ?_⟩) hHeld ?_
            · intro w' hSw; go_simp
            try simp only [Act.put, List.setIfInBounds_toArray, List.set_cons_zero, List.set_cons_succ, List.getElem_toArray, List.getElem_cons_succ, List.getElem_cons_zero]
            refine wpAnyH_take (i := 10) (v := .bool bb) rfl (by kernel_rfl) (by kernel_rfl) (by kernel_rfl) (fun _ _ _ h => h) (Or.inl ⟨by kernel_rfl, ?_⟩) hHeld ?_
            · intro w' hSw; go_simp
            try simp only [Act.put, List.setIfInBounds_toArray, List.set_cons_zero, List.set_cons_succ, List.getElem_toArray, List.getElem_cons_succ, List.getElem_cons_zero]
            refine wpAnyH_take (i := 11) (v := .string r) rfl (by kernel_rfl) (by kernel_rfl) (by kernel_rfl) (fun _ _ _ h => h) (Or.inl ⟨by kernel_rfl, ?_⟩) hHeld ?_
            · intro w' hSw; go_simp
            try simp only [Act.put, List.setIfInBounds_toArray, List.set_cons_zero, List.set_cons_succ, List.getElem_toArray, List.getElem_cons_succ, List.getElem_cons_zero]
            refine wpAnyH_take (i := 12) (v := .bool bb) rfl (by kernel_rfl) (by kernel_rfl) (by kernel_rfl) (fun _ _ _ h => h) (Or.inl ⟨by kernel_rfl, ?_⟩) hHeld ?_
            · intro w' hSw; go_simp
            try simp only [Act.put, List.setIfInBounds_toArray, List.set_cons_zero, List.set_cons_succ, List.getElem_toArray, List.getElem_cons_succ, List.getElem_cons_zero]
            refine wpAnyH_done (by kernel_rfl) ?_ _
            go_wp2_with fail
            go_meet
            case rel => exact ⟨r, bb, rfl, rfl, hr, hc⟩
        · go_simp
          refine (below_dr hc 6 (by decide) (by decide)).mono ?_
          clear hc
          rintro e v1 ⟨u, rfl, u0, u1, hc⟩
          obtain ⟨i, rfl⟩ : ∃ i : Nat, u = i := ⟨u.toNat, by omega⟩
          have hi : i < 6 := by omega
          try go_wp2_with fail
          clear hHeld
          refine hK'.out _ _ trivial (fun hHeld => ?_)
          clear hK' KK
          try simp only [List.setIfInBounds_toArray, List.set_cons_zero, List.set_cons_succ]
          refine wpAnyH_ready (rs := [0, 6]) (by kernel_rfl) (by simp) ?_
          refine AllReadyH.cons rfl (fun KK hK' => ?_) (AllReadyH.cons rfl (fun KK hK' => ?_) AllReadyH.nil)
          · go_simp
            obtain ⟨v2, hV, bx, bV, -⟩ := boxed v1 9 #[.string ⟨#[76]⟩, .string ⟨#[83]⟩, .string ⟨#[76, 83]⟩, .string ⟨#[76, 76]⟩, .string ⟨#[83, 83]⟩, .string ⟨#[]⟩]
            rw [hV]
            have lp : p < v1.heap.size := hc.2.lt
            obtain ⟨q, hqq⟩ : ∃ q, v1.heap.size = q := ⟨_, rfl⟩
            rw [hqq] at bx lp ⊢
            replace hc := hc.below bV
            clear hV bV hqq
            clear hHeld
            refine hK'.out _ _ trivial (fun hHeld => ?_)
            clear hK' KK
            try simp only [List.setIfInBounds_toArray, List.set_cons_zero]
            have hi6 : (i : Int) < 6 := by omega
            refine wpAnyH_take (i := 3) (v := .pointer (some ⟨q, i, none⟩)) rfl (by kernel_rfl) (by kernel_rfl) (by kernel_rfl) (fun _ _ _ h => h) (Or.inl ⟨by kernel_rfl, ?_⟩) hHeld ?_
            · intro w' hSw; go_simp
            try simp only [Act.put, List.setIfInBounds_toArray, List.set_cons_zero, List.set_cons_succ, List.getElem_toArray, List.getElem_cons_succ, List.getElem_cons_zero]
            refine wpAnyH_ready (rs := [4, 6]) (by kernel_rfl) (by simp) ?_
            refine AllReadyH.cons rfl (fun KK hK' => ?_) (AllReadyH.cons rfl (fun KK hK' => ?_) AllReadyH.nil)
            · obtain ⟨sx, hcell⟩ : ∃ sx : ByteArray, v2.cell? ⟨q, i, none⟩ = some (.string sx) := by
                match i, hi with
                | 0, _ => exact ⟨⟨#[76]⟩, bx.cell 0 rfl⟩
                | 1, _ => exact ⟨⟨#[83]⟩, bx.cell 1 rfl⟩
                | 2, _ => exact ⟨⟨#[76, 83]⟩, bx.cell 2 rfl⟩
                | 3, _ => exact ⟨⟨#[76, 76]⟩, bx.cell 3 rfl⟩
                | 4, _ => exact ⟨⟨#[83, 83]⟩, bx.cell 4 rfl⟩
                | 5, _ => exact ⟨⟨#[]⟩, bx.cell 5 rfl⟩
              go_simp
              clear hcell
              clear hHeld
              refine hK'.out _ _ trivial (fun hHeld => ?_)
              clear hK' KK
              try simp only [List.setIfInBounds_toArray, List.set_cons_zero, List.set_cons_succ]
              refine wpAnyH_ready (rs := [6]) (by kernel_rfl) (by simp) ?_
              refine AllReadyH.cons rfl (fun KK hK' => ?_) AllReadyH.nil
              go_simp
              have hk0 := hc.1
              replace hc := Dr.start hc.2
              refine (below_dr hc 7 (by decide) (by decide)).mono ?_
              clear hc
              rintro e v3 ⟨t, rfl, t0, t1, hc⟩
              replace bx := bx.kept9 hc.1 (by omega)
              replace hc := hc.from hk0
              clear hk0
              try go_wp2_with fail
              clear hHeld
              refine hK'.out _ _ trivial (fun hHeld => ?_)
              clear hK' KK
              try simp only [List.setIfInBounds_toArray, List.set_cons_zero, List.set_cons_succ]
              refine wpAnyH_ready (rs := [7]) (by kernel_rfl) (by simp) ?_
              refine AllReadyH.cons rfl (fun KK hK' => ?_) AllReadyH.nil
              go_simp
              obtain ⟨r, bb, hr, hI⟩ := specInfl_some sx t
              refine (hI _).mono ?_
              rintro e v4 ⟨rfl, b5⟩
              replace hc := hc.below b5
              clear b5 hI
              try go_wp2_with fail
              clear hHeld
              refine hK'.out _ _ trivial (fun hHeld => ?_)
              clear hK' KK
              try simp only [List.setIfInBounds_toArray, List.set_cons_zero, List.set_cons_succ]
              refine wpAnyH_take (i := 8) (v := .tuple #[.string r, .bool bb]) rfl (by kernel_rfl) (by kernel_rfl) (by kernel_rfl) (fun _ _ _ h => h) (Or.inl ⟨by kernel_rfl, ?_⟩) hHeld ?_
              · intro w' hSw; go_simp
              try simp only [Act.put, List.setIfInBounds_toArray, List.set_cons_zero, List.set_cons_succ, List.getElem_toArray, List.getElem_cons_succ, List.getElem_cons_zero]
              refine wpAnyH_take (i := 9) (v := .string r) rfl (by kernel_rfl) (by kernel_rfl) (by kernel_rfl) (fun _ _ _ h => h) (Or.inl ⟨by kernel_rfl, ?_⟩) hHeld ?_
              · intro w' hSw; go_simp
              try simp only [Act.put, List.setIfInBounds_toArray, List.set_cons_zero, List.set_cons_succ, List.getElem_toArray, List.getElem_cons_succ, List.getElem_cons_zero]
              refine wpAnyH_take (i := 10) (v := .bool bb) rfl (by kernel_rfl) (by kernel_rfl) (by kernel_rfl) (fun _ _ _ h => h) (Or.inl ⟨by kernel_rfl, ?_⟩) hHeld ?_
              · intro w' hSw; go_simp
              try simp only [Act.put, List.setIfInBounds_toArray, List.set_cons_zero, List.set_cons_succ, List.getElem_toArray, List.getElem_cons_succ, List.getElem_cons_zero]
              refine wpAnyH_take (i := 11) (v := .string r) rfl (by kernel_rfl) (by kernel_rfl) (by kernel_rfl) (fun _ _ _ h => h) (Or.inl ⟨by kernel_rfl, ?_⟩) hHeld ?_
              · intro w' hSw; go_simp
              try simp only [Act.put, List.setIfInBounds_toArray, List.set_cons_zero, List.set_cons_succ, List.getElem_toArray, List.getElem_cons_succ, List.getElem_cons_zero]
              refine wpAnyH_take (i := 12) (v := .bool bb) rfl (by kernel_rfl) (by kernel_rfl) (by kernel_rfl) (fun _ _ _ h => h) (Or.inl ⟨by kernel_rfl, ?_⟩) hHeld ?_
              · intro w' hSw; go_simp
              try simp only [Act.put, List.setIfInBounds_toArray, List.set_cons_zero, List.set_cons_succ, List.getElem_toArray, List.getElem_cons_succ, List.getElem_cons_zero]
              refine wpAnyH_done (by kernel_rfl) ?_ _
              go_wp2_with fail
              go_meet
              case rel => exact ⟨r, bb, rfl, rfl, hr, hc⟩
            · go_simp
              have hk0 := hc.1
              replace hc := Dr.start hc.2
              refine (below_dr hc 7 (by decide) (by decide)).mono ?_
              clear hc
              rintro e v3 ⟨t, rfl, t0, t1, hc⟩
              replace bx := bx.kept9 hc.1 (by omega)
              replace hc := hc.from hk0
              clear hk0
              try go_wp2_with fail
              clear hHeld
              refine hK'.out _ _ trivial (fun hHeld => ?_)
              clear hK' KK
              try simp only [List.setIfInBounds_toArray, List.set_cons_zero, List.set_cons_succ]
              refine wpAnyH_ready (rs := [4]) (by kernel_rfl) (by simp) ?_
              refine AllReadyH.cons rfl (fun KK hK' => ?_) AllReadyH.nil
              obtain ⟨sx, hcell⟩ : ∃ sx : ByteArray, v3.cell? ⟨q, i, none⟩ = some (.string sx) := by
                match i, hi with
                | 0, _ => exact ⟨⟨#[76]⟩, bx.cell 0 rfl⟩
                | 1, _ => exact ⟨⟨#[83]⟩, bx.cell 1 rfl⟩
                | 2, _ => exact ⟨⟨#[76, 83]⟩, bx.cell 2 rfl⟩
                | 3, _ => exact ⟨⟨#[76, 76]⟩, bx.cell 3 rfl⟩
                | 4, _ => exact ⟨⟨#[83, 83]⟩, bx.cell 4 rfl⟩
                | 5, _ => exact ⟨⟨#[]⟩, bx.cell 5 rfl⟩
              go_simp
              clear hcell
              clear hHeld
              refine hK'.out _ _ trivial (fun hHeld => ?_)
              clear hK' KK
              try simp only [List.setIfInBounds_toArray, List.set_cons_zero, List.set_cons_succ]
              refine wpAnyH_ready (rs := [7]) (by kernel_rfl) (by simp) ?_
              refine AllReadyH.cons rfl (fun KK hK' => ?_) AllReadyH.nil
              go_simp
              obtain ⟨r, bb, hr, hI⟩ := specInfl_some sx t
              refine (hI _).mono ?_
              rintro e v4 ⟨rfl, b5⟩
              replace hc := hc.below b5
              clear b5 hI
              try go_wp2_with fail
              clear hHeld
              refine hK'.out _ _ trivial (fun hHeld => ?_)
              clear hK' KK
              try simp only [List.setIfInBounds_toArray, List.set_cons_zero, List.set_cons_succ]
              refine wpAnyH_take (i := 8) (v := .tuple #[.string r, .bool bb]) rfl (by kernel_rfl) (by kernel_rfl) (by kernel_rfl) (fun _ _ _ h => h) (Or.inl ⟨by kernel_rfl, ?_⟩) hHeld ?_
              · intro w' hSw; go_simp
              try simp only [Act.put, List.setIfInBounds_toArray, List.set_cons_zero, List.set_cons_succ, List.getElem_toArray, List.getElem_cons_succ, List.getElem_cons_zero]
              refine wpAnyH_take (i := 9) (v := .string r) rfl (by kernel_rfl) (by kernel_rfl) (by kernel_rfl) (fun _ _ _ h => h) (Or.inl ⟨by kernel_rfl, ?_⟩) hHeld ?_
              · intro w' hSw; go_simp
              try simp only [Act.put, List.setIfInBounds_toArray, List.set_cons_zero, List.set_cons_succ, List.getElem_toArray, List.getElem_cons_succ, List.getElem_cons_zero]
              refine wpAnyH_take (i := 10) (v := .bool bb) rfl (by kernel_rfl) (by kernel_rfl) (by kernel_rfl) (fun _ _ _ h => h) (Or.inl ⟨by kernel_rfl, ?_⟩) hHeld ?_
              · intro w' hSw; go_simp
              try simp only [Act.put, List.setIfInBounds_toArray, List.set_cons_zero, List.set_cons_succ, List.getElem_toArray, List.getElem_cons_succ, List.getElem_cons_zero]
              refine wpAnyH_take (i := 11) (v := .string r) rfl (by kernel_rfl) (by kernel_rfl) (by kernel_rfl) (fun _ _ _ h => h) (Or.inl ⟨by kernel_rfl, ?_⟩) hHeld ?_
              · intro w' hSw; go_simp
              try simp only [Act.put, List.setIfInBounds_toArray, List.set_cons_zero, List.set_cons_succ, List.getElem_toArray, List.getElem_cons_succ, List.getElem_cons_zero]
              refine wpAnyH_take (i := 12) (v := .bool bb) rfl (by kernel_rfl) (by kernel_rfl) (by kernel_rfl) (fun _ _ _ h => h) (Or.inl ⟨by kernel_rfl, ?_⟩) hHeld ?_
              · intro w' hSw; go_simp
              try simp only [Act.put, List.setIfInBounds_toArray, List.set_cons_zero, List.set_cons_succ, List.getElem_toArray, List.getElem_cons_succ, List.getElem_cons_zero]
              refine wpAnyH_done (by kernel_rfl) ?_ _
              go_wp2_with fail
              go_meet
              case rel => exact ⟨r, bb, rfl, rfl, hr, hc⟩
          · go_simp
            refine (below_dr hc 7 (by decide) (by decide)).mono ?_
            clear hc
            rintro e v2 ⟨t, rfl, t0, t1, hc⟩
            try go_wp2_with fail
            clear hHeld
            refine hK'.out _ _ trivial (fun hHeld => ?_)
            clear hK' KK
            try simp only [List.setIfInBounds_toArray, List.set_cons_zero, List.set_cons_succ]
            refine wpAnyH_ready (rs := [0]) (by kernel_rfl) (by simp) ?_
            refine AllReadyH.cons rfl (fun KK hK' => ?_) AllReadyH.nil
            go_simp
            obtain ⟨v3, hV, bx, bV, -⟩ := boxed v2 9 #[.string ⟨#[76]⟩, .string ⟨#[83]⟩, .string ⟨#[76, 83]⟩, .string ⟨#[76, 76]⟩, .string ⟨#[83, 83]⟩, .string ⟨#[]⟩]
            rw [hV]
            have lp : p < v2.heap.size := hc.2.lt
            obtain ⟨q, hqq⟩ : ∃ q, v2.heap.size = q := ⟨_, rfl⟩
            rw [hqq] at bx lp ⊢
            replace hc := hc.below bV
            clear hV bV hqq
            clear hHeld
            refine hK'.out _ _ trivial (fun hHeld => ?_)
            clear hK' KK
            try simp only [List.setIfInBounds_toArray, List.set_cons_zero]
            have hi6 : (i : Int) < 6 := by omega
            refine wpAnyH_take (i := 3) (v := .pointer (some ⟨q, i, none⟩)) rfl (by kernel_rfl) (by kernel_rfl) (by kernel_rfl) (fun _ _ _ h => h) (Or.inl ⟨by kernel_rfl, ?_⟩) hHeld ?_
            · intro w' hSw; go_simp
            try simp only [Act.put, List.setIfInBounds_toArray, List.set_cons_zero, List.set_cons_succ, List.getElem_toArray, List.getElem_cons_succ, List.getElem_cons_zero]
            refine wpAnyH_ready (rs := [4]) (by kernel_rfl) (by simp) ?_
            refine AllReadyH.cons rfl (fun KK hK' => ?_) AllReadyH.nil
            obtain ⟨sx, hcell⟩ : ∃ sx : ByteArray, v3.cell? ⟨q, i, none⟩ = some (.string sx) := by
              match i, hi with
              | 0, _ => exact ⟨⟨#[76]⟩, bx.cell 0 rfl⟩
              | 1, _ => exact ⟨⟨#[83]⟩, bx.cell 1 rfl⟩
              | 2, _ => exact ⟨⟨#[76, 83]⟩, bx.cell 2 rfl⟩
              | 3, _ => exact ⟨⟨#[76, 76]⟩, bx.cell 3 rfl⟩
              | 4, _ => exact ⟨⟨#[83, 83]⟩, bx.cell 4 rfl⟩
              | 5, _ => exact ⟨⟨#[]⟩, bx.cell 5 rfl⟩
            go_simp
            clear hcell
            clear hHeld
            refine hK'.out _ _ trivial (fun hHeld => ?_)
            clear hK' KK
            try simp only [List.setIfInBounds_toArray, List.set_cons_zero, List.set_cons_succ]
            refine wpAnyH_ready (rs := [7]) (by kernel_rfl) (by simp) ?_
            refine AllReadyH.cons rfl (fun KK hK' => ?_) AllReadyH.nil
            go_simp
            obtain ⟨r, bb, hr, hI⟩ := specInfl_some sx t
            refine (hI _).mono ?_
            rintro e v4 ⟨rfl, b5⟩
            replace hc := hc.below b5
            clear b5 hI
            try go_wp2_with fail
            clear hHeld
            refine hK'.out _ _ trivial (fun hHeld => ?_)
            clear hK' KK
            try simp only [List.setIfInBounds_toArray, List.set_cons_zero, List.set_cons_succ]
            refine wpAnyH_take (i := 8) (v := .tuple #[.string r, .bool bb]) rfl (by kernel_rfl) (by kernel_rfl) (by kernel_rfl) (fun _ _ _ h => h) (Or.inl ⟨by kernel_rfl, ?_⟩) hHeld ?_
            · intro w' hSw; go_simp
            try simp only [Act.put, List.setIfInBounds_toArray, List.set_cons_zero, List.set_cons_succ, List.getElem_toArray, List.getElem_cons_succ, List.getElem_cons_zero]
            refine wpAnyH_take (i := 9) (v := .string r) rfl (by kernel_rfl) (by kernel_rfl) (by kernel_rfl) (fun _ _ _ h => h) (Or.inl ⟨by kernel_rfl, ?_⟩) hHeld ?_
            · intro w' hSw; go_simp
            try simp only [Act.put, List.setIfInBounds_toArray, List.set_cons_zero, List.set_cons_succ, List.getElem_toArray, List.getElem_cons_succ, List.getElem_cons_zero]
            refine wpAnyH_take (i := 10) (v := .bool bb) rfl (by kernel_rfl) (by kernel_rfl) (by kernel_rfl) (fun _ _ _ h => h) (Or.inl ⟨by kernel_rfl, ?_⟩) hHeld ?_
            · intro w' hSw; go_simp
            try simp only [Act.put, List.setIfInBounds_toArray, List.set_cons_zero, List.set_cons_succ, List.getElem_toArray, List.getElem_cons_succ, List.getElem_cons_zero]
            refine wpAnyH_take (i := 11) (v := .string r) rfl (by kernel_rfl) (by kernel_rfl) (by kernel_rfl) (fun _ _ _ h => h) (Or.inl ⟨by kernel_rfl, ?_⟩) hHeld ?_
            · intro w' hSw; go_simp
            try simp only [Act.put, List.setIfInBounds_toArray, List.set_cons_zero, List.set_cons_succ, List.getElem_toArray, List.getElem_cons_succ, List.getElem_cons_zero]
            refine wpAnyH_take (i := 12) (v := .bool bb) rfl (by kernel_rfl) (by kernel_rfl) (by kernel_rfl) (fun _ _ _ h => h) (Or.inl ⟨by kernel_rfl, ?_⟩) hHeld ?_
            · intro w' hSw; go_simp
            try simp only [Act.put, List.setIfInBounds_toArray, List.set_cons_zero, List.set_cons_succ, List.getElem_toArray, List.getElem_cons_succ, List.getElem_cons_zero]
            refine wpAnyH_done (by kernel_rfl) ?_ _
            go_wp2_with fail
            go_meet
            case rel => exact ⟨r, bb, rfl, rfl, hr, hc⟩
      case rest =>
        obtain ⟨r, bb, rfl, rfl, hr, hc⟩ := hcut
        clear hsz
        go_wp2_with fail
        refine (once_dr hc 20 (by decide) (by decide)).mono ?_
        clear hc
        rintro e w7 ⟨b, rfl, hc⟩
        cases b with
        | false =>
          go_wp2
          go_ret
          exact ⟨_, rfl, hc⟩
        | true =>
          go_wp2_with fail
          obtain ⟨V, hV, bx, bV, -⟩ := boxed w7 9 #[.string ⟨#[108]⟩, .string ⟨#[84]⟩, .string ⟨#[32]⟩, .string ⟨#[0]⟩]
          rw [hV]
          have lp : p < w7.heap.size := hc.2.lt
          obtain ⟨q, hqq⟩ : ∃ q, w7.heap.size = q := ⟨_, rfl⟩
          rw [hqq] at bx lp ⊢
          have hk0 := (hc.below bV).1
          replace hc := Dr.start (hc.below bV).2
          clear hV bV hqq
          refine (below_dr hc 4 (by decide) (by decide)).mono ?_
          clear hc
          rintro e w8 ⟨u, rfl, u0, u1, hc⟩
          replace bx := bx.kept9 hc.1 (by omega)
          replace hc := hc.from hk0
          clear hk0
          obtain ⟨i, rfl⟩ : ∃ i : Nat, u = i := ⟨u.toNat, by omega⟩
          have hi : i < 4 := by omega
          obtain ⟨sx, hsx, hcell⟩ : ∃ sx : ByteArray, sx.size ≤ 2 ∧ w8.cell? ⟨q, i, none⟩ = some (.string sx) := by
            match i, hi with
            | 0, _ => exact ⟨⟨#[108]⟩, by decide, bx.cell 0 rfl⟩
            | 1, _ => exact ⟨⟨#[84]⟩, by decide, bx.cell 1 rfl⟩
            | 2, _ => exact ⟨⟨#[32]⟩, by decide, bx.cell 2 rfl⟩
            | 3, _ => exact ⟨⟨#[0]⟩, by decide, bx.cell 3 rfl⟩
          have hadd := run_string_add_sum (P := Try.prog) w8 r sx (by omega)
          have hi' : (i : Int) < 4 := by omega
          clear bx
          go_wp2
          go_ret
          exact ⟨_, rfl, hc⟩
    · have h1' : (z == 1) = false := by simp [h1]
      go_wp2_with fail
      refine (once_dr hc 20 (by decide) (by decide)).mono ?_
      clear hc
      rintro e w7 ⟨b, rfl, hc⟩
      cases b with
      | false =>
        go_wp2
        go_ret
        exact ⟨_, rfl, hc⟩
      | true =>
        go_wp2_with fail
        obtain ⟨V, hV, bx, bV, -⟩ := boxed w7 9 #[.string ⟨#[108]⟩, .string ⟨#[84]⟩, .string ⟨#[32]⟩, .string ⟨#[0]⟩]
        rw [hV]
        have lp : p < w7.heap.size := hc.2.lt
        obtain ⟨q, hqq⟩ : ∃ q, w7.heap.size = q := ⟨_, rfl⟩
        rw [hqq] at bx lp ⊢
        have hk0 := (hc.below bV).1
        replace hc := Dr.start (hc.below bV).2
        clear hV bV hqq
        refine (below_dr hc 4 (by decide) (by decide)).mono ?_
        clear hc
        rintro e w8 ⟨u, rfl, u0, u1, hc⟩
        replace bx := bx.kept9 hc.1 (by omega)
        replace hc := hc.from hk0
        clear hk0
        obtain ⟨i, rfl⟩ : ∃ i : Nat, u = i := ⟨u.toNat, by omega⟩
        have hi : i < 4 := by omega
        obtain ⟨sx, hsx, hcell⟩ : ∃ sx : ByteArray, sx.size ≤ 2 ∧ w8.cell? ⟨q, i, none⟩ = some (.string sx) := by
          match i, hi with
          | 0, _ => exact ⟨⟨#[108]⟩, by decide, bx.cell 0 rfl⟩
          | 1, _ => exact ⟨⟨#[84]⟩, by decide, bx.cell 1 rfl⟩
          | 2, _ => exact ⟨⟨#[32]⟩, by decide, bx.cell 2 rfl⟩
          | 3, _ => exact ⟨⟨#[0]⟩, by decide, bx.cell 3 rfl⟩
        have hadd := run_string_add_sum (P := Try.prog) w8 s sx (by omega)
        have hi' : (i : Int) < 4 := by omega
        clear bx
        go_wp2
        go_ret
        exact ⟨_, rfl, hc⟩
end Go.Proofs.Ytninblhahjldcaa
