/-
  The exact law of powers of structure factors: walked.
-/
import Derived.Test.YtmpakpdbkojkaaaDoorEh
import Derived.Test.YtmpakpdbkojkaaaDoorMr
import Derived.Test.YtmpakpdbkojkaaaDoorMt
namespace Go.Proofs.YtmpakpdbkojkaaaDoor
open Go.RowKit

/-- What both tell. -/
theorem pow_some {n : Nat} {f : Nat → Int} (h k l : Int) (hn : n ≤ 1048576) : ∃ (p q r s : Int) (v : Bool), (∀ (w : World) (g c : Nat), Quads w g n f → Calls Tryd.prog 10 #[.slice (some ⟨g, 0, none⟩) n c, hV h k l] w fun e w' => e = .returned (.tuple #[cV p q r s, .bool v]) ∧ Below w.heap.size w w') ∧
    (∀ (w : World) (g c : Nat), Quads w g n f → Tab w → Calls Tryd.prog 13 #[.slice (some ⟨g, 0, none⟩) n c, hV h k l] w fun e w' => e = .returned (.tuple #[cV p q r s, .bool v]) ∧ Below w.heap.size w w') := by
  obtain ⟨p, q, r, s, v, SP, IM⟩ := told_some (n := n) (f := f) h k l hn
  obtain ⟨p', q', r', s', hc⟩ := conjT_parts p q r s
  obtain ⟨m0, m1, m2, m3, mb, hm⟩ := mulR_parts p q r s p' q' r' s'
  have SC := fun w => specConj_any p q r s w
  have IC := fun w t => implConj_any p q r s w t
  have SM := fun w => specMul_any p q r s p' q' r' s' w
  have IM2 := fun w t => implMul_any p q r s p' q' r' s' w t
  rw [hc] at SC IC
  rw [hm] at SM IM2
  have A1 := fun w g c (L : Quads w g n f) => specPower_of h k l L (fun w L => SP w g c L) SC SM
  have A2 := fun w g c (L : Quads w g n f) (T : Tab w) => implPower_of h k l L T (fun w L T => IM w g c L T) IC IM2
  cases v
  · exact ⟨0, 0, 0, 0, false, A1, A2⟩
  · exact ⟨m0, m1, m2, m3, mb, by simpa using A1, by simpa using A2⟩
set_option maxRecDepth 100000 in
set_option maxHeartbeats 3200000 in
theorem exactPower_walk {w : World} {a : Option Addr} {n cap : Nat} {f : Nat → Int} (h k l : Int) (hS : Src w a (n * 4) f) (hn : n ≤ maxLen) (ht : Tab w) :
    Calls Tryd.prog 4 #[.slice a n cap, hV h k l] w fun e w' => e = .returned (.bool true) ∧ Below w.heap.size w w' := by
  obtain ⟨W, hW, b0, bW, -⟩ := boxed w 32 #[.int .i64 h, .int .i64 k, .int .i64 l]
  have G : Lw w a n f h k l W := ⟨b0, hS.below bW, ht.below bW, bW⟩
  clear b0 bW
  go_enter Tryd.func4, Tryd.ntmps4
  go_wp2_with fail
  refine (sz_any _ hn).mono ?_
  rintro e w1 ⟨⟨r, rfl, hr⟩, rfl⟩
  rcases hr with rfl | ⟨h0, hsh⟩
  · go_wp2
    go_ret
    exact ⟨rfl, G.2.2.2⟩
  · have h1 : ¬ r < 0 := by omega
    obtain ⟨p0, q0, r0, s0, v0, SP, IM⟩ := pow_some (n := n) (f := f) h k l hsh
    clear hW
    go_wp2_with fail
    go_cut [6, 7] from 11 (fun s6 s7 wc => ∃ g, s6 = .pointer (some ⟨g, 0, none⟩) ∧ s7 = .bool v0 ∧ At 24 wc g #[.int .i64 p0, .int .i64 q0, .int .i64 r0, .int .i64 s0] ∧ Lw w a n f h k l wc)
    case first =>
      have F : Lv w a n f h k l W W := ⟨G, Below.refl _ _⟩
      clear G
      obtain ⟨u0, hu0, bb⟩ : ∃ u0, W.drew = u0 ∧ Below W.heap.size W u0 := ⟨_, rfl, (Below.refl _ _).drew⟩
      replace F := F.below bb
      clear bb
      refine wp_region_held_drew (S := Rh w.heap.size h k l) (by kernel_rfl) (by rw [hu0]; exact rh_of F) (fun hHeld => ?_)
      rw [hu0] at hHeld ⊢
      clear hu0
      change wpAnyH _ _ _ _ _ 11 #[false, false, false, false, false, false, false, false, false, false, false] _ _
      refine wpAnyH_take (i := 0) (v := .slice a n cap) rfl (by kernel_rfl) (by kernel_rfl) (by kernel_rfl) (fun _ _ _ h => h) (Or.inl ⟨by kernel_rfl, ?_⟩) hHeld ?_
      · intro w' hSw; go_simp
      try simp only [Act.put, List.setIfInBounds_toArray, List.set_cons_zero, List.set_cons_succ, List.getElem_toArray, List.getElem_cons_zero]
      refine wpAnyH_take (i := 2) (v := hV h k l) rfl (by kernel_rfl) (by kernel_rfl) (by kernel_rfl) (fun _ _ _ h => h) (Or.inl ⟨by kernel_rfl, ?_⟩) hHeld ?_
      · intro w' hSw; obtain ⟨z0, z1, z2⟩ := hSw; go_simp
      try simp only [Act.put, List.setIfInBounds_toArray, List.set_cons_zero, List.set_cons_succ, List.getElem_toArray, List.getElem_cons_succ, List.getElem_cons_zero]
      refine wpAnyH_ready (rs := [1, 8]) (by kernel_rfl) (by simp) ?_
      refine AllReadyH.cons rfl (fun KK hK' => ?_) (AllReadyH.cons rfl (fun KK hK' => ?_) AllReadyH.nil)
      · go_simp
        refine (toAtomS_any F.lw.2.1 hsh).mono ?_
        rintro e u1 ⟨gl, rfl, L, bb⟩
        replace F := F.below bb
        clear bb
        try go_wp2_with fail
        clear hHeld
        refine hK'.out _ _ (rh_of F) (fun hHeld => ?_)
        clear hK' KK
        try simp only [List.setIfInBounds_toArray, List.set_cons_zero, List.set_cons_succ]
        refine wpAnyH_ready (rs := [3, 8]) (by kernel_rfl) (by simp) ?_
        refine AllReadyH.cons rfl (fun KK hK' => ?_) (AllReadyH.cons rfl (fun KK hK' => ?_) AllReadyH.nil)
        · go_simp
          refine (toHkl_any _ _ _ _).mono ?_
          rintro e u2 ⟨rfl, bb⟩
          replace F := F.below bb
          replace L := L.below bb
          clear bb
          try go_wp2_with fail
          clear hHeld
          refine hK'.out _ _ (rh_of F) (fun hHeld => ?_)
          clear hK' KK
          try simp only [List.setIfInBounds_toArray, List.set_cons_zero, List.set_cons_succ]
          refine wpAnyH_ready (rs := [4, 8]) (by kernel_rfl) (by simp) ?_
          refine AllReadyH.cons rfl (fun KK hK' => ?_) (AllReadyH.cons rfl (fun KK hK' => ?_) AllReadyH.nil)
          · go_simp
            refine (SP _ _ _ L).mono ?_
            rintro e u3 ⟨rfl, bb⟩
            replace F := F.below bb
            replace L := L.below bb
            clear bb
            try go_wp2_with fail
            clear hHeld
            refine hK'.out _ _ (rh_of F) (fun hHeld => ?_)
            clear hK' KK
            try simp only [List.setIfInBounds_toArray, List.set_cons_zero, List.set_cons_succ]
            refine wpAnyH_take (i := 5) (v := .tuple #[cV p0 q0 r0 s0, .bool v0]) rfl (by kernel_rfl) (by kernel_rfl) (by kernel_rfl) (fun _ _ _ h => h) (Or.inl ⟨by kernel_rfl, ?_⟩) hHeld ?_
            · intro w' hSw; go_simp
            try simp only [Act.put, List.setIfInBounds_toArray, List.set_cons_zero, List.set_cons_succ, List.getElem_toArray, List.getElem_cons_succ, List.getElem_cons_zero]
            refine wpAnyH_take (i := 6) (v := cV p0 q0 r0 s0) rfl (by kernel_rfl) (by kernel_rfl) (by kernel_rfl) (fun _ _ _ h => h) (Or.inl ⟨by kernel_rfl, ?_⟩) hHeld ?_
            · intro w' hSw; go_simp
            try simp only [Act.put, List.setIfInBounds_toArray, List.set_cons_zero, List.set_cons_succ, List.getElem_toArray, List.getElem_cons_succ, List.getElem_cons_zero]
            refine wpAnyH_take (i := 7) (v := .bool v0) rfl (by kernel_rfl) (by kernel_rfl) (by kernel_rfl) (fun _ _ _ h => h) (Or.inl ⟨by kernel_rfl, ?_⟩) hHeld ?_
            · intro w' hSw; go_simp
            try simp only [Act.put, List.setIfInBounds_toArray, List.set_cons_zero, List.set_cons_succ, List.getElem_toArray, List.getElem_cons_succ, List.getElem_cons_zero]
            refine wpAnyH_ready (rs := [8]) (by kernel_rfl) (by simp) ?_
            refine AllReadyH.cons rfl (fun KK hK' => ?_) AllReadyH.nil
            go_simp
            obtain ⟨V3, hV, rb, bb, -⟩ := boxed u3 24 #[.int .i64 0, .int .i64 0, .int .i64 0, .int .i64 0]
            rw [hV]
            have hp := s_lt F
            obtain ⟨p, hpp⟩ : ∃ p, u3.heap.size = p := ⟨_, rfl⟩
            rw [hpp] at hp rb ⊢
            clear hV hpp
            replace F := F.below bb
            replace L := L.below bb
            clear bb
            clear hHeld
            refine hK'.out _ _ (rh_of F) (fun hHeld => ?_)
            clear hK' KK
            try simp only [List.setIfInBounds_toArray, List.set_cons_zero, List.set_cons_succ]
            refine wpAnyH_ready (rs := [9]) (by kernel_rfl) (by simp) ?_
            refine AllReadyH.cons rfl (fun KK hK' => ?_) AllReadyH.nil
            obtain ⟨y0, y1, y2, y3, g0, g1, g2, g3⟩ := rb.open4
            go_simp
            obtain ⟨u9, hu9, rb9, F9⟩ := s_fill F hp rb (.int .i64 p0) (.int .i64 q0) (.int .i64 r0) (.int .i64 s0)
            rw [hu9]
            clear hu9 rb y0 y1 y2 y3 g0 g1 g2 g3 F
            have F := F9
            have rb := rb9
            clear F9 rb9
            clear hHeld
            refine hK'.out _ _ (rh_of F) (fun hHeld => ?_)
            clear hK' KK
            try simp only [List.setIfInBounds_toArray, List.set_cons_zero, List.set_cons_succ]
            refine wpAnyH_take (i := 10) (v := .bool v0) rfl (by kernel_rfl) (by kernel_rfl) (by kernel_rfl) (fun _ _ _ h => h) (Or.inl ⟨by kernel_rfl, ?_⟩) hHeld ?_
            · intro w' hSw; go_simp
            try simp only [Act.put, List.setIfInBounds_toArray, List.set_cons_zero, List.set_cons_succ, List.getElem_toArray, List.getElem_cons_succ, List.getElem_cons_zero]
            refine wpAnyH_done (by kernel_rfl) ?_ _
            go_wp2_with fail
            go_meet
            case rel => exact ⟨p, rfl, rfl, rb, F.lw⟩
          · go_simp
            obtain ⟨V2, hV, rb, bb, -⟩ := boxed u2 24 #[.int .i64 0, .int .i64 0, .int .i64 0, .int .i64 0]
            rw [hV]
            have hp := s_lt F
            obtain ⟨p, hpp⟩ : ∃ p, u2.heap.size = p := ⟨_, rfl⟩
            rw [hpp] at hp rb ⊢
            clear hV hpp
            replace F := F.below bb
            replace L := L.below bb
            clear bb
            clear hHeld
            refine hK'.out _ _ (rh_of F) (fun hHeld => ?_)
            clear hK' KK
            try simp only [List.setIfInBounds_toArray, List.set_cons_zero, List.set_cons_succ]
            refine wpAnyH_ready (rs := [4]) (by kernel_rfl) (by simp) ?_
            refine AllReadyH.cons rfl (fun KK hK' => ?_) AllReadyH.nil
            go_simp
            refine (SP _ _ _ L).mono ?_
            rintro e u3 ⟨rfl, bb⟩
            replace F := F.below bb
            replace L := L.below bb
            replace rb := rb.below bb
            clear bb
            try go_wp2_with fail
            clear hHeld
            refine hK'.out _ _ (rh_of F) (fun hHeld => ?_)
            clear hK' KK
            try simp only [List.setIfInBounds_toArray, List.set_cons_zero, List.set_cons_succ]
            refine wpAnyH_take (i := 5) (v := .tuple #[cV p0 q0 r0 s0, .bool v0]) rfl (by kernel_rfl) (by kernel_rfl) (by kernel_rfl) (fun _ _ _ h => h) (Or.inl ⟨by kernel_rfl, ?_⟩) hHeld ?_
            · intro w' hSw; go_simp
            try simp only [Act.put, List.setIfInBounds_toArray, List.set_cons_zero, List.set_cons_succ, List.getElem_toArray, List.getElem_cons_succ, List.getElem_cons_zero]
            refine wpAnyH_take (i := 6) (v := cV p0 q0 r0 s0) rfl (by kernel_rfl) (by kernel_rfl) (by kernel_rfl) (fun _ _ _ h => h) (Or.inl ⟨by kernel_rfl, ?_⟩) hHeld ?_
            · intro w' hSw; go_simp
            try simp only [Act.put, List.setIfInBounds_toArray, List.set_cons_zero, List.set_cons_succ, List.getElem_toArray, List.getElem_cons_succ, List.getElem_cons_zero]
            refine wpAnyH_take (i := 7) (v := .bool v0) rfl (by kernel_rfl) (by kernel_rfl) (by kernel_rfl) (fun _ _ _ h => h) (Or.inl ⟨by kernel_rfl, ?_⟩) hHeld ?_
            · intro w' hSw; go_simp
            try simp only [Act.put, List.setIfInBounds_toArray, List.set_cons_zero, List.set_cons_succ, List.getElem_toArray, List.getElem_cons_succ, List.getElem_cons_zero]
            refine wpAnyH_ready (rs := [9]) (by kernel_rfl) (by simp) ?_
            refine AllReadyH.cons rfl (fun KK hK' => ?_) AllReadyH.nil
            obtain ⟨y0, y1, y2, y3, g0, g1, g2, g3⟩ := rb.open4
            go_simp
            obtain ⟨u9, hu9, rb9, F9⟩ := s_fill F hp rb (.int .i64 p0) (.int .i64 q0) (.int .i64 r0) (.int .i64 s0)
            rw [hu9]
            clear hu9 rb y0 y1 y2 y3 g0 g1 g2 g3 F
            have F := F9
            have rb := rb9
            clear F9 rb9
            clear hHeld
            refine hK'.out _ _ (rh_of F) (fun hHeld => ?_)
            clear hK' KK
            try simp only [List.setIfInBounds_toArray, List.set_cons_zero, List.set_cons_succ]
            refine wpAnyH_take (i := 10) (v := .bool v0) rfl (by kernel_rfl) (by kernel_rfl) (by kernel_rfl) (fun _ _ _ h => h) (Or.inl ⟨by kernel_rfl, ?_⟩) hHeld ?_
            · intro w' hSw; go_simp
            try simp only [Act.put, List.setIfInBounds_toArray, List.set_cons_zero, List.set_cons_succ, List.getElem_toArray, List.getElem_cons_succ, List.getElem_cons_zero]
            refine wpAnyH_done (by kernel_rfl) ?_ _
            go_wp2_with fail
            go_meet
            case rel => exact ⟨p, rfl, rfl, rb, F.lw⟩
        · go_simp
          obtain ⟨V1, hV, rb, bb, -⟩ := boxed u1 24 #[.int .i64 0, .int .i64 0, .int .i64 0, .int .i64 0]
          rw [hV]
          have hp := s_lt F
          obtain ⟨p, hpp⟩ : ∃ p, u1.heap.size = p := ⟨_, rfl⟩
          rw [hpp] at hp rb ⊢
          clear hV hpp
          replace F := F.below bb
          replace L := L.below bb
          clear bb
          clear hHeld
          refine hK'.out _ _ (rh_of F) (fun hHeld => ?_)
          clear hK' KK
          try simp only [List.setIfInBounds_toArray, List.set_cons_zero, List.set_cons_succ]
          refine wpAnyH_ready (rs := [3]) (by kernel_rfl) (by simp) ?_
          refine AllReadyH.cons rfl (fun KK hK' => ?_) AllReadyH.nil
          go_simp
          refine (toHkl_any _ _ _ _).mono ?_
          rintro e u2 ⟨rfl, bb⟩
          replace F := F.below bb
          replace L := L.below bb
          replace rb := rb.below bb
          clear bb
          try go_wp2_with fail
          clear hHeld
          refine hK'.out _ _ (rh_of F) (fun hHeld => ?_)
          clear hK' KK
          try simp only [List.setIfInBounds_toArray, List.set_cons_zero, List.set_cons_succ]
          refine wpAnyH_ready (rs := [4]) (by kernel_rfl) (by simp) ?_
          refine AllReadyH.cons rfl (fun KK hK' => ?_) AllReadyH.nil
          go_simp
          refine (SP _ _ _ L).mono ?_
          rintro e u3 ⟨rfl, bb⟩
          replace F := F.below bb
          replace L := L.below bb
          replace rb := rb.below bb
          clear bb
          try go_wp2_with fail
          clear hHeld
          refine hK'.out _ _ (rh_of F) (fun hHeld => ?_)
          clear hK' KK
          try simp only [List.setIfInBounds_toArray, List.set_cons_zero, List.set_cons_succ]
          refine wpAnyH_take (i := 5) (v := .tuple #[cV p0 q0 r0 s0, .bool v0]) rfl (by kernel_rfl) (by kernel_rfl) (by kernel_rfl) (fun _ _ _ h => h) (Or.inl ⟨by kernel_rfl, ?_⟩) hHeld ?_
          · intro w' hSw; go_simp
          try simp only [Act.put, List.setIfInBounds_toArray, List.set_cons_zero, List.set_cons_succ, List.getElem_toArray, List.getElem_cons_succ, List.getElem_cons_zero]
          refine wpAnyH_take (i := 6) (v := cV p0 q0 r0 s0) rfl (by kernel_rfl) (by kernel_rfl) (by kernel_rfl) (fun _ _ _ h => h) (Or.inl ⟨by kernel_rfl, ?_⟩) hHeld ?_
          · intro w' hSw; go_simp
          try simp only [Act.put, List.setIfInBounds_toArray, List.set_cons_zero, List.set_cons_succ, List.getElem_toArray, List.getElem_cons_succ, List.getElem_cons_zero]
          refine wpAnyH_take (i := 7) (v := .bool v0) rfl (by kernel_rfl) (by kernel_rfl) (by kernel_rfl) (fun _ _ _ h => h) (Or.inl ⟨by kernel_rfl, ?_⟩) hHeld ?_
          · intro w' hSw; go_simp
          try simp only [Act.put, List.setIfInBounds_toArray, List.set_cons_zero, List.set_cons_succ, List.getElem_toArray, List.getElem_cons_succ, List.getElem_cons_zero]
          refine wpAnyH_ready (rs := [9]) (by kernel_rfl) (by simp) ?_
          refine AllReadyH.cons rfl (fun KK hK' => ?_) AllReadyH.nil
          obtain ⟨y0, y1, y2, y3, g0, g1, g2, g3⟩ := rb.open4
          go_simp
          obtain ⟨u9, hu9, rb9, F9⟩ := s_fill F hp rb (.int .i64 p0) (.int .i64 q0) (.int .i64 r0) (.int .i64 s0)
          rw [hu9]
          clear hu9 rb y0 y1 y2 y3 g0 g1 g2 g3 F
          have F := F9
          have rb := rb9
          clear F9 rb9
          clear hHeld
          refine hK'.out _ _ (rh_of F) (fun hHeld => ?_)
          clear hK' KK
          try simp only [List.setIfInBounds_toArray, List.set_cons_zero, List.set_cons_succ]
          refine wpAnyH_take (i := 10) (v := .bool v0) rfl (by kernel_rfl) (by kernel_rfl) (by kernel_rfl) (fun _ _ _ h => h) (Or.inl ⟨by kernel_rfl, ?_⟩) hHeld ?_
          · intro w' hSw; go_simp
          try simp only [Act.put, List.setIfInBounds_toArray, List.set_cons_zero, List.set_cons_succ, List.getElem_toArray, List.getElem_cons_succ, List.getElem_cons_zero]
          refine wpAnyH_done (by kernel_rfl) ?_ _
          go_wp2_with fail
          go_meet
          case rel => exact ⟨p, rfl, rfl, rb, F.lw⟩
      · go_simp
        obtain ⟨V0, hV, rb, bb, -⟩ := boxed u0 24 #[.int .i64 0, .int .i64 0, .int .i64 0, .int .i64 0]
        rw [hV]
        have hp := s_lt F
        obtain ⟨p, hpp⟩ : ∃ p, u0.heap.size = p := ⟨_, rfl⟩
        rw [hpp] at hp rb ⊢
        clear hV hpp
        replace F := F.below bb
        clear bb
        clear hHeld
        refine hK'.out _ _ (rh_of F) (fun hHeld => ?_)
        clear hK' KK
        try simp only [List.setIfInBounds_toArray, List.set_cons_zero, List.set_cons_succ]
        refine wpAnyH_ready (rs := [1]) (by kernel_rfl) (by simp) ?_
        refine AllReadyH.cons rfl (fun KK hK' => ?_) AllReadyH.nil
        go_simp
        refine (toAtomS_any F.lw.2.1 hsh).mono ?_
        rintro e u1 ⟨gl, rfl, L, bb⟩
        replace F := F.below bb
        replace rb := rb.below bb
        clear bb
        try go_wp2_with fail
        clear hHeld
        refine hK'.out _ _ (rh_of F) (fun hHeld => ?_)
        clear hK' KK
        try simp only [List.setIfInBounds_toArray, List.set_cons_zero, List.set_cons_succ]
        refine wpAnyH_ready (rs := [3]) (by kernel_rfl) (by simp) ?_
        refine AllReadyH.cons rfl (fun KK hK' => ?_) AllReadyH.nil
        go_simp
        refine (toHkl_any _ _ _ _).mono ?_
        rintro e u2 ⟨rfl, bb⟩
        replace F := F.below bb
        replace rb := rb.below bb
        replace L := L.below bb
        clear bb
        try go_wp2_with fail
        clear hHeld
        refine hK'.out _ _ (rh_of F) (fun hHeld => ?_)
        clear hK' KK
        try simp only [List.setIfInBounds_toArray, List.set_cons_zero, List.set_cons_succ]
        refine wpAnyH_ready (rs := [4]) (by kernel_rfl) (by simp) ?_
        refine AllReadyH.cons rfl (fun KK hK' => ?_) AllReadyH.nil
        go_simp
        refine (SP _ _ _ L).mono ?_
        rintro e u3 ⟨rfl, bb⟩
        replace F := F.below bb
        replace rb := rb.below bb
        replace L := L.below bb
        clear bb
        try go_wp2_with fail
        clear hHeld
        refine hK'.out _ _ (rh_of F) (fun hHeld => ?_)
        clear hK' KK
        try simp only [List.setIfInBounds_toArray, List.set_cons_zero, List.set_cons_succ]
        refine wpAnyH_take (i := 5) (v := .tuple #[cV p0 q0 r0 s0, .bool v0]) rfl (by kernel_rfl) (by kernel_rfl) (by kernel_rfl) (fun _ _ _ h => h) (Or.inl ⟨by kernel_rfl, ?_⟩) hHeld ?_
        · intro w' hSw; go_simp
        try simp only [Act.put, List.setIfInBounds_toArray, List.set_cons_zero, List.set_cons_succ, List.getElem_toArray, List.getElem_cons_succ, List.getElem_cons_zero]
        refine wpAnyH_take (i := 6) (v := cV p0 q0 r0 s0) rfl (by kernel_rfl) (by kernel_rfl) (by kernel_rfl) (fun _ _ _ h => h) (Or.inl ⟨by kernel_rfl, ?_⟩) hHeld ?_
        · intro w' hSw; go_simp
        try simp only [Act.put, List.setIfInBounds_toArray, List.set_cons_zero, List.set_cons_succ, List.getElem_toArray, List.getElem_cons_succ, List.getElem_cons_zero]
        refine wpAnyH_take (i := 7) (v := .bool v0) rfl (by kernel_rfl) (by kernel_rfl) (by kernel_rfl) (fun _ _ _ h => h) (Or.inl ⟨by kernel_rfl, ?_⟩) hHeld ?_
        · intro w' hSw; go_simp
        try simp only [Act.put, List.setIfInBounds_toArray, List.set_cons_zero, List.set_cons_succ, List.getElem_toArray, List.getElem_cons_succ, List.getElem_cons_zero]
        refine wpAnyH_ready (rs := [9]) (by kernel_rfl) (by simp) ?_
        refine AllReadyH.cons rfl (fun KK hK' => ?_) AllReadyH.nil
        obtain ⟨y0, y1, y2, y3, g0, g1, g2, g3⟩ := rb.open4
        go_simp
        obtain ⟨u9, hu9, rb9, F9⟩ := s_fill F hp rb (.int .i64 p0) (.int .i64 q0) (.int .i64 r0) (.int .i64 s0)
        rw [hu9]
        clear hu9 rb y0 y1 y2 y3 g0 g1 g2 g3 F
        have F := F9
        have rb := rb9
        clear F9 rb9
        clear hHeld
        refine hK'.out _ _ (rh_of F) (fun hHeld => ?_)
        clear hK' KK
        try simp only [List.setIfInBounds_toArray, List.set_cons_zero, List.set_cons_succ]
        refine wpAnyH_take (i := 10) (v := .bool v0) rfl (by kernel_rfl) (by kernel_rfl) (by kernel_rfl) (fun _ _ _ h => h) (Or.inl ⟨by kernel_rfl, ?_⟩) hHeld ?_
        · intro w' hSw; go_simp
        try simp only [Act.put, List.setIfInBounds_toArray, List.set_cons_zero, List.set_cons_succ, List.getElem_toArray, List.getElem_cons_succ, List.getElem_cons_zero]
        refine wpAnyH_done (by kernel_rfl) ?_ _
        go_wp2_with fail
        go_meet
        case rel => exact ⟨p, rfl, rfl, rb, F.lw⟩
    case rest =>
      obtain ⟨g, rfl, rfl, rg, G⟩ := hcut
      go_wp2_with fail
      refine (toAtomS_any G.2.1 hsh).mono ?_
      rintro e w2 ⟨g2, rfl, L2, b2⟩
      replace G := G.below b2
      replace rg := rg.below b2
      clear b2
      obtain ⟨e0, e1, e2, -⟩ := G.1.open3
      go_wp2_with fail
      refine (toHkl_any _ _ _ _).mono ?_
      rintro e w3 ⟨rfl, b3⟩
      replace G := G.below b3
      replace rg := rg.below b3
      replace L2 := L2.below b3
      clear b3 e0 e1 e2
      go_wp2_with fail
      refine (IM _ _ _ L2 G.2.2.1).mono ?_
      rintro e w4 ⟨rfl, b4⟩
      replace G := G.below b4
      replace rg := rg.below b4
      replace L2 := L2.below b4
      clear b4 SP IM
      obtain ⟨y0, y1, y2, y3, -⟩ := rg.open4
      have hkk : (v0 != v0) = false := by simp
      have lg := rg.lt
      go_wp2_with (go_at_call 8; refine (eqCycB_any _ _ _ _ _).mono ?_; rintro e w5 ⟨rfl, b5⟩)
      have b6 : Below w4.heap.size w4 w5 := (below_alloc _ _).trans (b5.mono (by simp))
      replace G := G.below b6
      replace L2 := L2.below b6
      clear b5 b6 y0 y1 y2 y3 lg rg
      refine (toAtomS_any G.2.1 hsh).mono ?_
      rintro e w6 ⟨g6, rfl, L6, b6⟩
      replace G := G.below b6
      go_wp2_with fail
      refine (eqAtomS_true (L2.below b6) L6 hsh).mono ?_
      rintro e w7 ⟨rfl, b7⟩
      replace G := G.below b7
      clear b6 b7 L2 L6
      go_wp2
      go_ret
      exact ⟨rfl, G.2.2.2⟩
end Go.Proofs.YtmpakpdbkojkaaaDoor
