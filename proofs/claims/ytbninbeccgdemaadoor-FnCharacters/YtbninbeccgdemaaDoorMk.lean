/-
  Halves of cyclotomic numbers by the program: walked.
-/
import Derived.Test.YtbninbeccgdemaaDoorMj
namespace Go.Proofs.YtbninbeccgdemaaDoor
open Go.RowKit

set_option maxRecDepth 100000 in
set_option maxHeartbeats 3200000 in
theorem halves_any (a b c d : Int) (w : World) (ha : inC a) (hb : inC b) (hc : inC c) (hd : inC d) : Calls Tryd.prog 40 #[cV a b c d] w fun e w' => e = .returned (.tuple #[cV (a / 1000000) (b / 1000000) (c / 1000000) (d / 1000000), cV (a % 1000000) (b % 1000000) (c % 1000000) (d % 1000000)]) ∧ Below w.heap.size w w' := by
  obtain ⟨W, hW, b0, b1, b2, bW, sW⟩ := boxed3 w 33 33 33 #[.int .i64 a, .int .i64 b, .int .i64 c, .int .i64 d] #[.int .i64 0, .int .i64 0, .int .i64 0, .int .i64 0] #[.int .i64 0, .int .i64 0, .int .i64 0, .int .i64 0]
  unfold inC at ha hb hc hd
  have D0 := fun w => qdown_any a 1000000 w ⟨by omega, by omega⟩ (by omega)
  have M0 := fun w => modulo_any a 1000000 w ⟨by omega, by omega⟩ (by omega)
  have D1 := fun w => qdown_any b 1000000 w ⟨by omega, by omega⟩ (by omega)
  have M1 := fun w => modulo_any b 1000000 w ⟨by omega, by omega⟩ (by omega)
  have D2 := fun w => qdown_any c 1000000 w ⟨by omega, by omega⟩ (by omega)
  have M2 := fun w => modulo_any c 1000000 w ⟨by omega, by omega⟩ (by omega)
  have D3 := fun w => qdown_any d 1000000 w ⟨by omega, by omega⟩ (by omega)
  have M3 := fun w => modulo_any d 1000000 w ⟨by omega, by omega⟩ (by omega)
  generalize a / 1000000 = aq at *
  generalize a % 1000000 = ar at *
  generalize b / 1000000 = bq at *
  generalize b % 1000000 = br at *
  generalize c / 1000000 = cq at *
  generalize c % 1000000 = cr at *
  generalize d / 1000000 = dq at *
  generalize d % 1000000 = dr at *
  go_enter Tryd.func40, Tryd.ntmps40
  go_wp2_with fail
  clear hW
  go_cut [4] from 6 (fun s4 wc => ∃ p, s4 = .pointer (some ⟨p, 0, none⟩) ∧ W.heap.size ≤ p ∧ At 33 wc p #[.int .i64 aq, .int .i64 bq, .int .i64 cq, .int .i64 dq] ∧ Hb w.heap.size a b c d W wc)
  case first =>
    have F : Hb w.heap.size a b c d W W := ⟨b0, by omega, Below.refl _ _⟩
    obtain ⟨u0, hu0, bb⟩ : ∃ u0, W.drew = u0 ∧ Below W.heap.size W u0 := ⟨_, rfl, (Below.refl _ _).drew⟩
    replace F := F.below bb
    clear bb
    refine wp_region_held_drew (S := R4c w.heap.size a b c d) (by kernel_rfl) (by rw [hu0]; exact r4_of F.1) (fun hHeld => ?_)
    rw [hu0] at hHeld ⊢
    clear hu0
    change wpAnyH _ _ _ _ _ 15 #[false, false, false, false, false, false, false, false, false, false, false, false, false, false, false] _ _
    refine wpAnyH_take (i := 0) (v := .pointer (some ⟨w.heap.size, 0, none⟩)) rfl (by kernel_rfl) (by kernel_rfl) (by kernel_rfl) (fun _ _ _ h => h) (Or.inl ⟨by kernel_rfl, ?_⟩) hHeld ?_
    · intro w' hSw; go_simp
    try simp only [Act.put, List.setIfInBounds_toArray, List.set_cons_zero, List.set_cons_succ, List.getElem_toArray, List.getElem_cons_zero]
    refine wpAnyH_take (i := 1) (v := .int .i64 a) rfl (by kernel_rfl) (by kernel_rfl) (by kernel_rfl) (fun _ _ _ h => h) (Or.inl ⟨by kernel_rfl, ?_⟩) hHeld ?_
    · intro w' hSw; obtain ⟨z0, z1, z2, z3⟩ := hSw; go_simp
    try simp only [Act.put, List.setIfInBounds_toArray, List.set_cons_zero, List.set_cons_succ, List.getElem_toArray, List.getElem_cons_succ, List.getElem_cons_zero]
    refine wpAnyH_take (i := 3) (v := .pointer (some ⟨w.heap.size, 1, none⟩)) rfl (by kernel_rfl) (by kernel_rfl) (by kernel_rfl) (fun _ _ _ h => h) (Or.inl ⟨by kernel_rfl, ?_⟩) hHeld ?_
    · intro w' hSw; go_simp
    try simp only [Act.put, List.setIfInBounds_toArray, List.set_cons_zero, List.set_cons_succ, List.getElem_toArray, List.getElem_cons_succ, List.getElem_cons_zero]
    refine wpAnyH_take (i := 4) (v := .int .i64 b) rfl (by kernel_rfl) (by kernel_rfl) (by kernel_rfl) (fun _ _ _ h => h) (Or.inl ⟨by kernel_rfl, ?_⟩) hHeld ?_
    · intro w' hSw; obtain ⟨z0, z1, z2, z3⟩ := hSw; go_simp
    try simp only [Act.put, List.setIfInBounds_toArray, List.set_cons_zero, List.set_cons_succ, List.getElem_toArray, List.getElem_cons_succ, List.getElem_cons_zero]
    refine wpAnyH_take (i := 6) (v := .pointer (some ⟨w.heap.size, 2, none⟩)) rfl (by kernel_rfl) (by kernel_rfl) (by kernel_rfl) (fun _ _ _ h => h) (Or.inl ⟨by kernel_rfl, ?_⟩) hHeld ?_
    · intro w' hSw; go_simp
    try simp only [Act.put, List.setIfInBounds_toArray, List.set_cons_zero, List.set_cons_succ, List.getElem_toArray, List.getElem_cons_succ, List.getElem_cons_zero]
    refine wpAnyH_take (i := 7) (v := .int .i64 c) rfl (by kernel_rfl) (by kernel_rfl) (by kernel_rfl) (fun _ _ _ h => h) (Or.inl ⟨by kernel_rfl, ?_⟩) hHeld ?_
    · intro w' hSw; obtain ⟨z0, z1, z2, z3⟩ := hSw; go_simp
    try simp only [Act.put, List.setIfInBounds_toArray, List.set_cons_zero, List.set_cons_succ, List.getElem_toArray, List.getElem_cons_succ, List.getElem_cons_zero]
    refine wpAnyH_take (i := 9) (v := .pointer (some ⟨w.heap.size, 3, none⟩)) rfl (by kernel_rfl) (by kernel_rfl) (by kernel_rfl) (fun _ _ _ h => h) (Or.inl ⟨by kernel_rfl, ?_⟩) hHeld ?_
    · intro w' hSw; go_simp
    try simp only [Act.put, List.setIfInBounds_toArray, List.set_cons_zero, List.set_cons_succ, List.getElem_toArray, List.getElem_cons_succ, List.getElem_cons_zero]
    refine wpAnyH_take (i := 10) (v := .int .i64 d) rfl (by kernel_rfl) (by kernel_rfl) (by kernel_rfl) (fun _ _ _ h => h) (Or.inl ⟨by kernel_rfl, ?_⟩) hHeld ?_
    · intro w' hSw; obtain ⟨z0, z1, z2, z3⟩ := hSw; go_simp
    try simp only [Act.put, List.setIfInBounds_toArray, List.set_cons_zero, List.set_cons_succ, List.getElem_toArray, List.getElem_cons_succ, List.getElem_cons_zero]
    refine wpAnyH_ready (rs := [2, 13]) (by kernel_rfl) (by simp) ?_
    refine AllReadyH.cons rfl (fun KK hK' => ?_) (AllReadyH.cons rfl (fun KK hK' => ?_) AllReadyH.nil)
    · go_simp
      refine (D0 _).mono ?_
      rintro e uu ⟨rfl, rfl⟩
      try go_wp2_with fail
      clear hHeld
      refine hK'.out _ _ (r4_of F.1) (fun hHeld => ?_)
      clear hK' KK
      try simp only [List.setIfInBounds_toArray, List.set_cons_zero, List.set_cons_succ]
      refine wpAnyH_ready (rs := [5, 13]) (by kernel_rfl) (by simp) ?_
      refine AllReadyH.cons rfl (fun KK hK' => ?_) (AllReadyH.cons rfl (fun KK hK' => ?_) AllReadyH.nil)
      · go_simp
        refine (D1 _).mono ?_
        rintro e uu ⟨rfl, rfl⟩
        try go_wp2_with fail
        clear hHeld
        refine hK'.out _ _ (r4_of F.1) (fun hHeld => ?_)
        clear hK' KK
        try simp only [List.setIfInBounds_toArray, List.set_cons_zero, List.set_cons_succ]
        refine wpAnyH_ready (rs := [8, 13]) (by kernel_rfl) (by simp) ?_
        refine AllReadyH.cons rfl (fun KK hK' => ?_) (AllReadyH.cons rfl (fun KK hK' => ?_) AllReadyH.nil)
        · go_simp
          refine (D2 _).mono ?_
          rintro e uu ⟨rfl, rfl⟩
          try go_wp2_with fail
          clear hHeld
          refine hK'.out _ _ (r4_of F.1) (fun hHeld => ?_)
          clear hK' KK
          try simp only [List.setIfInBounds_toArray, List.set_cons_zero, List.set_cons_succ]
          refine wpAnyH_ready (rs := [11, 13]) (by kernel_rfl) (by simp) ?_
          refine AllReadyH.cons rfl (fun KK hK' => ?_) (AllReadyH.cons rfl (fun KK hK' => ?_) AllReadyH.nil)
          · go_simp
            refine (D3 _).mono ?_
            rintro e uu ⟨rfl, rfl⟩
            try go_wp2_with fail
            clear hHeld
            refine hK'.out _ _ (r4_of F.1) (fun hHeld => ?_)
            clear hK' KK
            try simp only [List.setIfInBounds_toArray, List.set_cons_zero, List.set_cons_succ]
            refine wpAnyH_take (i := 12) (v := cV aq bq cq dq) rfl (by kernel_rfl) (by kernel_rfl) (by kernel_rfl) (fun _ _ _ h => h) (Or.inl ⟨by kernel_rfl, ?_⟩) hHeld ?_
            · intro w' hSw; go_simp
            try simp only [Act.put, List.setIfInBounds_toArray, List.set_cons_zero, List.set_cons_succ, List.getElem_toArray, List.getElem_cons_succ, List.getElem_cons_zero]
            refine wpAnyH_ready (rs := [13]) (by kernel_rfl) (by simp) ?_
            refine AllReadyH.cons rfl (fun KK hK' => ?_) AllReadyH.nil
            go_simp
            obtain ⟨V4, hV, rb, bb, -⟩ := boxed u0 33 #[.int .i64 0, .int .i64 0, .int .i64 0, .int .i64 0]
            rw [hV]
            have hp := hb_lt F
            obtain ⟨p, hpp⟩ : ∃ p, u0.heap.size = p := ⟨_, rfl⟩
            rw [hpp] at hp rb ⊢
            clear hV hpp
            replace F := F.below bb
            clear bb
            clear hHeld
            refine hK'.out _ _ (r4_of F.1) (fun hHeld => ?_)
            clear hK' KK
            try simp only [List.setIfInBounds_toArray, List.set_cons_zero, List.set_cons_succ]
            refine wpAnyH_ready (rs := [14]) (by kernel_rfl) (by simp) ?_
            refine AllReadyH.cons rfl (fun KK hK' => ?_) AllReadyH.nil
            obtain ⟨y0, y1, y2, y3, g0, g1, g2, g3⟩ := rb.open4
            go_simp
            obtain ⟨u9, hu9, rb9, F9⟩ := hb_fill F hp rb (.int .i64 aq) (.int .i64 bq) (.int .i64 cq) (.int .i64 dq)
            rw [hu9]
            clear hu9 rb y0 y1 y2 y3 g0 g1 g2 g3 F
            have F := F9
            have rb := rb9
            clear F9 rb9
            clear hHeld
            refine hK'.out _ _ (r4_of F.1) (fun hHeld => ?_)
            clear hK' KK
            try simp only [List.setIfInBounds_toArray, List.set_cons_zero, List.set_cons_succ]
            refine wpAnyH_done (by kernel_rfl) ?_ _
            go_wp2_with fail
            go_meet
            case rel => exact ⟨p, rfl, hp, rb, F⟩
          · go_simp
            obtain ⟨V3, hV, rb, bb, -⟩ := boxed u0 33 #[.int .i64 0, .int .i64 0, .int .i64 0, .int .i64 0]
            rw [hV]
            have hp := hb_lt F
            obtain ⟨p, hpp⟩ : ∃ p, u0.heap.size = p := ⟨_, rfl⟩
            rw [hpp] at hp rb ⊢
            clear hV hpp
            replace F := F.below bb
            clear bb
            clear hHeld
            refine hK'.out _ _ (r4_of F.1) (fun hHeld => ?_)
            clear hK' KK
            try simp only [List.setIfInBounds_toArray, List.set_cons_zero, List.set_cons_succ]
            refine wpAnyH_ready (rs := [11]) (by kernel_rfl) (by simp) ?_
            refine AllReadyH.cons rfl (fun KK hK' => ?_) AllReadyH.nil
            go_simp
            refine (D3 _).mono ?_
            rintro e uu ⟨rfl, rfl⟩
            try go_wp2_with fail
            clear hHeld
            refine hK'.out _ _ (r4_of F.1) (fun hHeld => ?_)
            clear hK' KK
            try simp only [List.setIfInBounds_toArray, List.set_cons_zero, List.set_cons_succ]
            refine wpAnyH_take (i := 12) (v := cV aq bq cq dq) rfl (by kernel_rfl) (by kernel_rfl) (by kernel_rfl) (fun _ _ _ h => h) (Or.inl ⟨by kernel_rfl, ?_⟩) hHeld ?_
            · intro w' hSw; go_simp
            try simp only [Act.put, List.setIfInBounds_toArray, List.set_cons_zero, List.set_cons_succ, List.getElem_toArray, List.getElem_cons_succ, List.getElem_cons_zero]
            refine wpAnyH_ready (rs := [14]) (by kernel_rfl) (by simp) ?_
            refine AllReadyH.cons rfl (fun KK hK' => ?_) AllReadyH.nil
            obtain ⟨y0, y1, y2, y3, g0, g1, g2, g3⟩ := rb.open4
            go_simp
            obtain ⟨u9, hu9, rb9, F9⟩ := hb_fill F hp rb (.int .i64 aq) (.int .i64 bq) (.int .i64 cq) (.int .i64 dq)
            rw [hu9]
            clear hu9 rb y0 y1 y2 y3 g0 g1 g2 g3 F
            have F := F9
            have rb := rb9
            clear F9 rb9
            clear hHeld
            refine hK'.out _ _ (r4_of F.1) (fun hHeld => ?_)
            clear hK' KK
            try simp only [List.setIfInBounds_toArray, List.set_cons_zero, List.set_cons_succ]
            refine wpAnyH_done (by kernel_rfl) ?_ _
            go_wp2_with fail
            go_meet
            case rel => exact ⟨p, rfl, hp, rb, F⟩
        · go_simp
          obtain ⟨V2, hV, rb, bb, -⟩ := boxed u0 33 #[.int .i64 0, .int .i64 0, .int .i64 0, .int .i64 0]
          rw [hV]
          have hp := hb_lt F
          obtain ⟨p, hpp⟩ : ∃ p, u0.heap.size = p := ⟨_, rfl⟩
          rw [hpp] at hp rb ⊢
          clear hV hpp
          replace F := F.below bb
          clear bb
          clear hHeld
          refine hK'.out _ _ (r4_of F.1) (fun hHeld => ?_)
          clear hK' KK
          try simp only [List.setIfInBounds_toArray, List.set_cons_zero, List.set_cons_succ]
          refine wpAnyH_ready (rs := [8]) (by kernel_rfl) (by simp) ?_
          refine AllReadyH.cons rfl (fun KK hK' => ?_) AllReadyH.nil
          go_simp
          refine (D2 _).mono ?_
          rintro e uu ⟨rfl, rfl⟩
          try go_wp2_with fail
          clear hHeld
          refine hK'.out _ _ (r4_of F.1) (fun hHeld => ?_)
          clear hK' KK
          try simp only [List.setIfInBounds_toArray, List.set_cons_zero, List.set_cons_succ]
          refine wpAnyH_ready (rs := [11]) (by kernel_rfl) (by simp) ?_
          refine AllReadyH.cons rfl (fun KK hK' => ?_) AllReadyH.nil
          go_simp
          refine (D3 _).mono ?_
          rintro e uu ⟨rfl, rfl⟩
          try go_wp2_with fail
          clear hHeld
          refine hK'.out _ _ (r4_of F.1) (fun hHeld => ?_)
          clear hK' KK
          try simp only [List.setIfInBounds_toArray, List.set_cons_zero, List.set_cons_succ]
          refine wpAnyH_take (i := 12) (v := cV aq bq cq dq) rfl (by kernel_rfl) (by kernel_rfl) (by kernel_rfl) (fun _ _ _ h => h) (Or.inl ⟨by kernel_rfl, ?_⟩) hHeld ?_
          · intro w' hSw; go_simp
          try simp only [Act.put, List.setIfInBounds_toArray, List.set_cons_zero, List.set_cons_succ, List.getElem_toArray, List.getElem_cons_succ, List.getElem_cons_zero]
          refine wpAnyH_ready (rs := [14]) (by kernel_rfl) (by simp) ?_
          refine AllReadyH.cons rfl (fun KK hK' => ?_) AllReadyH.nil
          obtain ⟨y0, y1, y2, y3, g0, g1, g2, g3⟩ := rb.open4
          go_simp
          obtain ⟨u9, hu9, rb9, F9⟩ := hb_fill F hp rb (.int .i64 aq) (.int .i64 bq) (.int .i64 cq) (.int .i64 dq)
          rw [hu9]
          clear hu9 rb y0 y1 y2 y3 g0 g1 g2 g3 F
          have F := F9
          have rb := rb9
          clear F9 rb9
          clear hHeld
          refine hK'.out _ _ (r4_of F.1) (fun hHeld => ?_)
          clear hK' KK
          try simp only [List.setIfInBounds_toArray, List.set_cons_zero, List.set_cons_succ]
          refine wpAnyH_done (by kernel_rfl) ?_ _
          go_wp2_with fail
          go_meet
          case rel => exact ⟨p, rfl, hp, rb, F⟩
      · go_simp
        obtain ⟨V1, hV, rb, bb, -⟩ := boxed u0 33 #[.int .i64 0, .int .i64 0, .int .i64 0, .int .i64 0]
        rw [hV]
        have hp := hb_lt F
        obtain ⟨p, hpp⟩ : ∃ p, u0.heap.size = p := ⟨_, rfl⟩
        rw [hpp] at hp rb ⊢
        clear hV hpp
        replace F := F.below bb
        clear bb
        clear hHeld
        refine hK'.out _ _ (r4_of F.1) (fun hHeld => ?_)
        clear hK' KK
        try simp only [List.setIfInBounds_toArray, List.set_cons_zero, List.set_cons_succ]
        refine wpAnyH_ready (rs := [5]) (by kernel_rfl) (by simp) ?_
        refine AllReadyH.cons rfl (fun KK hK' => ?_) AllReadyH.nil
        go_simp
        refine (D1 _).mono ?_
        rintro e uu ⟨rfl, rfl⟩
        try go_wp2_with fail
        clear hHeld
        refine hK'.out _ _ (r4_of F.1) (fun hHeld => ?_)
        clear hK' KK
        try simp only [List.setIfInBounds_toArray, List.set_cons_zero, List.set_cons_succ]
        refine wpAnyH_ready (rs := [8]) (by kernel_rfl) (by simp) ?_
        refine AllReadyH.cons rfl (fun KK hK' => ?_) AllReadyH.nil
        go_simp
        refine (D2 _).mono ?_
        rintro e uu ⟨rfl, rfl⟩
        try go_wp2_with fail
        clear hHeld
        refine hK'.out _ _ (r4_of F.1) (fun hHeld => ?_)
        clear hK' KK
        try simp only [List.setIfInBounds_toArray, List.set_cons_zero, List.set_cons_succ]
        refine wpAnyH_ready (rs := [11]) (by kernel_rfl) (by simp) ?_
        refine AllReadyH.cons rfl (fun KK hK' => ?_) AllReadyH.nil
        go_simp
        refine (D3 _).mono ?_
        rintro e uu ⟨rfl, rfl⟩
        try go_wp2_with fail
        clear hHeld
        refine hK'.out _ _ (r4_of F.1) (fun hHeld => ?_)
        clear hK' KK
        try simp only [List.setIfInBounds_toArray, List.set_cons_zero, List.set_cons_succ]
        refine wpAnyH_take (i := 12) (v := cV aq bq cq dq) rfl (by kernel_rfl) (by kernel_rfl) (by kernel_rfl) (fun _ _ _ h => h) (Or.inl ⟨by kernel_rfl, ?_⟩) hHeld ?_
        · intro w' hSw; go_simp
        try simp only [Act.put, List.setIfInBounds_toArray, List.set_cons_zero, List.set_cons_succ, List.getElem_toArray, List.getElem_cons_succ, List.getElem_cons_zero]
        refine wpAnyH_ready (rs := [14]) (by kernel_rfl) (by simp) ?_
        refine AllReadyH.cons rfl (fun KK hK' => ?_) AllReadyH.nil
        obtain ⟨y0, y1, y2, y3, g0, g1, g2, g3⟩ := rb.open4
        go_simp
        obtain ⟨u9, hu9, rb9, F9⟩ := hb_fill F hp rb (.int .i64 aq) (.int .i64 bq) (.int .i64 cq) (.int .i64 dq)
        rw [hu9]
        clear hu9 rb y0 y1 y2 y3 g0 g1 g2 g3 F
        have F := F9
        have rb := rb9
        clear F9 rb9
        clear hHeld
        refine hK'.out _ _ (r4_of F.1) (fun hHeld => ?_)
        clear hK' KK
        try simp only [List.setIfInBounds_toArray, List.set_cons_zero, List.set_cons_succ]
        refine wpAnyH_done (by kernel_rfl) ?_ _
        go_wp2_with fail
        go_meet
        case rel => exact ⟨p, rfl, hp, rb, F⟩
    · go_simp
      obtain ⟨V0, hV, rb, bb, -⟩ := boxed u0 33 #[.int .i64 0, .int .i64 0, .int .i64 0, .int .i64 0]
      rw [hV]
      have hp := hb_lt F
      obtain ⟨p, hpp⟩ : ∃ p, u0.heap.size = p := ⟨_, rfl⟩
      rw [hpp] at hp rb ⊢
      clear hV hpp
      replace F := F.below bb
      clear bb
      clear hHeld
      refine hK'.out _ _ (r4_of F.1) (fun hHeld => ?_)
      clear hK' KK
      try simp only [List.setIfInBounds_toArray, List.set_cons_zero, List.set_cons_succ]
      refine wpAnyH_ready (rs := [2]) (by kernel_rfl) (by simp) ?_
      refine AllReadyH.cons rfl (fun KK hK' => ?_) AllReadyH.nil
      go_simp
      refine (D0 _).mono ?_
      rintro e uu ⟨rfl, rfl⟩
      try go_wp2_with fail
      clear hHeld
      refine hK'.out _ _ (r4_of F.1) (fun hHeld => ?_)
      clear hK' KK
      try simp only [List.setIfInBounds_toArray, List.set_cons_zero, List.set_cons_succ]
      refine wpAnyH_ready (rs := [5]) (by kernel_rfl) (by simp) ?_
      refine AllReadyH.cons rfl (fun KK hK' => ?_) AllReadyH.nil
      go_simp
      refine (D1 _).mono ?_
      rintro e uu ⟨rfl, rfl⟩
      try go_wp2_with fail
      clear hHeld
      refine hK'.out _ _ (r4_of F.1) (fun hHeld => ?_)
      clear hK' KK
      try simp only [List.setIfInBounds_toArray, List.set_cons_zero, List.set_cons_succ]
      refine wpAnyH_ready (rs := [8]) (by kernel_rfl) (by simp) ?_
      refine AllReadyH.cons rfl (fun KK hK' => ?_) AllReadyH.nil
      go_simp
      refine (D2 _).mono ?_
      rintro e uu ⟨rfl, rfl⟩
      try go_wp2_with fail
      clear hHeld
      refine hK'.out _ _ (r4_of F.1) (fun hHeld => ?_)
      clear hK' KK
      try simp only [List.setIfInBounds_toArray, List.set_cons_zero, List.set_cons_succ]
      refine wpAnyH_ready (rs := [11]) (by kernel_rfl) (by simp) ?_
      refine AllReadyH.cons rfl (fun KK hK' => ?_) AllReadyH.nil
      go_simp
      refine (D3 _).mono ?_
      rintro e uu ⟨rfl, rfl⟩
      try go_wp2_with fail
      clear hHeld
      refine hK'.out _ _ (r4_of F.1) (fun hHeld => ?_)
      clear hK' KK
      try simp only [List.setIfInBounds_toArray, List.set_cons_zero, List.set_cons_succ]
      refine wpAnyH_take (i := 12) (v := cV aq bq cq dq) rfl (by kernel_rfl) (by kernel_rfl) (by kernel_rfl) (fun _ _ _ h => h) (Or.inl ⟨by kernel_rfl, ?_⟩) hHeld ?_
      · intro w' hSw; go_simp
      try simp only [Act.put, List.setIfInBounds_toArray, List.set_cons_zero, List.set_cons_succ, List.getElem_toArray, List.getElem_cons_succ, List.getElem_cons_zero]
      refine wpAnyH_ready (rs := [14]) (by kernel_rfl) (by simp) ?_
      refine AllReadyH.cons rfl (fun KK hK' => ?_) AllReadyH.nil
      obtain ⟨y0, y1, y2, y3, g0, g1, g2, g3⟩ := rb.open4
      go_simp
      obtain ⟨u9, hu9, rb9, F9⟩ := hb_fill F hp rb (.int .i64 aq) (.int .i64 bq) (.int .i64 cq) (.int .i64 dq)
      rw [hu9]
      clear hu9 rb y0 y1 y2 y3 g0 g1 g2 g3 F
      have F := F9
      have rb := rb9
      clear F9 rb9
      clear hHeld
      refine hK'.out _ _ (r4_of F.1) (fun hHeld => ?_)
      clear hK' KK
      try simp only [List.setIfInBounds_toArray, List.set_cons_zero, List.set_cons_succ]
      refine wpAnyH_done (by kernel_rfl) ?_ _
      go_wp2_with fail
      go_meet
      case rel => exact ⟨p, rfl, hp, rb, F⟩
  case rest =>
    obtain ⟨p, rfl, hp, rp0, G⟩ := hcut
    clear D0 D1 D2 D3
    have hwc : w.heap.size + 2 < wc.heap.size := Nat.lt_of_lt_of_le sW G.2.2.size
    go_wp2_with fail
    go_cut [5] from 6 (fun s5 wd => ∃ p', s5 = .pointer (some ⟨p', 0, none⟩) ∧ wc.heap.size ≤ p' ∧ At 33 wd p' #[.int .i64 ar, .int .i64 br, .int .i64 cr, .int .i64 dr] ∧ Hb w.heap.size a b c d wc wd)
    case first =>
      have F : Hb w.heap.size a b c d wc wc := ⟨G.1, by have := G.2.2.size; have := G.2.1; omega, Below.refl _ _⟩
      clear G rp0 hp hwc
      obtain ⟨u0, hu0, bb⟩ : ∃ u0, wc.drew = u0 ∧ Below wc.heap.size wc u0 := ⟨_, rfl, (Below.refl _ _).drew⟩
      replace F := F.below bb
      clear bb
      refine wp_region_held_drew (S := R4c w.heap.size a b c d) (by kernel_rfl) (by rw [hu0]; exact r4_of F.1) (fun hHeld => ?_)
      rw [hu0] at hHeld ⊢
      clear hu0
      change wpAnyH _ _ _ _ _ 15 #[false, false, false, false, false, false, false, false, false, false, false, false, false, false, false] _ _
      refine wpAnyH_take (i := 0) (v := .pointer (some ⟨w.heap.size, 0, none⟩)) rfl (by kernel_rfl) (by kernel_rfl) (by kernel_rfl) (fun _ _ _ h => h) (Or.inl ⟨by kernel_rfl, ?_⟩) hHeld ?_
      · intro w' hSw; go_simp
      try simp only [Act.put, List.setIfInBounds_toArray, List.set_cons_zero, List.set_cons_succ, List.getElem_toArray, List.getElem_cons_zero]
      refine wpAnyH_take (i := 1) (v := .int .i64 a) rfl (by kernel_rfl) (by kernel_rfl) (by kernel_rfl) (fun _ _ _ h => h) (Or.inl ⟨by kernel_rfl, ?_⟩) hHeld ?_
      · intro w' hSw; obtain ⟨z0, z1, z2, z3⟩ := hSw; go_simp
      try simp only [Act.put, List.setIfInBounds_toArray, List.set_cons_zero, List.set_cons_succ, List.getElem_toArray, List.getElem_cons_succ, List.getElem_cons_zero]
      refine wpAnyH_take (i := 3) (v := .pointer (some ⟨w.heap.size, 1, none⟩)) rfl (by kernel_rfl) (by kernel_rfl) (by kernel_rfl) (fun _ _ _ h => h) (Or.inl ⟨by kernel_rfl, ?_⟩) hHeld ?_
      · intro w' hSw; go_simp
      try simp only [Act.put, List.setIfInBounds_toArray, List.set_cons_zero, List.set_cons_succ, List.getElem_toArray, List.getElem_cons_succ, List.getElem_cons_zero]
      refine wpAnyH_take (i := 4) (v := .int .i64 b) rfl (by kernel_rfl) (by kernel_rfl) (by kernel_rfl) (fun _ _ _ h => h) (Or.inl ⟨by kernel_rfl, ?_⟩) hHeld ?_
      · intro w' hSw; obtain ⟨z0, z1, z2, z3⟩ := hSw; go_simp
      try simp only [Act.put, List.setIfInBounds_toArray, List.set_cons_zero, List.set_cons_succ, List.getElem_toArray, List.getElem_cons_succ, List.getElem_cons_zero]
      refine wpAnyH_take (i := 6) (v := .pointer (some ⟨w.heap.size, 2, none⟩)) rfl (by kernel_rfl) (by kernel_rfl) (by kernel_rfl) (fun _ _ _ h => h) (Or.inl ⟨by kernel_rfl, ?_⟩) hHeld ?_
      · intro w' hSw; go_simp
      try simp only [Act.put, List.setIfInBounds_toArray, List.set_cons_zero, List.set_cons_succ, List.getElem_toArray, List.getElem_cons_succ, List.getElem_cons_zero]
      refine wpAnyH_take (i := 7) (v := .int .i64 c) rfl (by kernel_rfl) (by kernel_rfl) (by kernel_rfl) (fun _ _ _ h => h) (Or.inl ⟨by kernel_rfl, ?_⟩) hHeld ?_
      · intro w' hSw; obtain ⟨z0, z1, z2, z3⟩ := hSw; go_simp
      try simp only [Act.put, List.setIfInBounds_toArray, List.set_cons_zero, List.set_cons_succ, List.getElem_toArray, List.getElem_cons_succ, List.getElem_cons_zero]
      refine wpAnyH_take (i := 9) (v := .pointer (some ⟨w.heap.size, 3, none⟩)) rfl (by kernel_rfl) (by kernel_rfl) (by kernel_rfl) (fun _ _ _ h => h) (Or.inl ⟨by kernel_rfl, ?_⟩) hHeld ?_
      · intro w' hSw; go_simp
      try simp only [Act.put, List.setIfInBounds_toArray, List.set_cons_zero, List.set_cons_succ, List.getElem_toArray, List.getElem_cons_succ, List.getElem_cons_zero]
      refine wpAnyH_take (i := 10) (v := .int .i64 d) rfl (by kernel_rfl) (by kernel_rfl) (by kernel_rfl) (fun _ _ _ h => h) (Or.inl ⟨by kernel_rfl, ?_⟩) hHeld ?_
      · intro w' hSw; obtain ⟨z0, z1, z2, z3⟩ := hSw; go_simp
      try simp only [Act.put, List.setIfInBounds_toArray, List.set_cons_zero, List.set_cons_succ, List.getElem_toArray, List.getElem_cons_succ, List.getElem_cons_zero]
      refine wpAnyH_ready (rs := [2, 13]) (by kernel_rfl) (by simp) ?_
      refine AllReadyH.cons rfl (fun KK hK' => ?_) (AllReadyH.cons rfl (fun KK hK' => ?_) AllReadyH.nil)
      · go_simp
        refine (M0 _).mono ?_
        rintro e uu ⟨rfl, rfl⟩
        try go_wp2_with fail
        clear hHeld
        refine hK'.out _ _ (r4_of F.1) (fun hHeld => ?_)
        clear hK' KK
        try simp only [List.setIfInBounds_toArray, List.set_cons_zero, List.set_cons_succ]
        refine wpAnyH_ready (rs := [5, 13]) (by kernel_rfl) (by simp) ?_
        refine AllReadyH.cons rfl (fun KK hK' => ?_) (AllReadyH.cons rfl (fun KK hK' => ?_) AllReadyH.nil)
        · go_simp
          refine (M1 _).mono ?_
          rintro e uu ⟨rfl, rfl⟩
          try go_wp2_with fail
          clear hHeld
          refine hK'.out _ _ (r4_of F.1) (fun hHeld => ?_)
          clear hK' KK
          try simp only [List.setIfInBounds_toArray, List.set_cons_zero, List.set_cons_succ]
          refine wpAnyH_ready (rs := [8, 13]) (by kernel_rfl) (by simp) ?_
          refine AllReadyH.cons rfl (fun KK hK' => ?_) (AllReadyH.cons rfl (fun KK hK' => ?_) AllReadyH.nil)
          · go_simp
            refine (M2 _).mono ?_
            rintro e uu ⟨rfl, rfl⟩
            try go_wp2_with fail
            clear hHeld
            refine hK'.out _ _ (r4_of F.1) (fun hHeld => ?_)
            clear hK' KK
            try simp only [List.setIfInBounds_toArray, List.set_cons_zero, List.set_cons_succ]
            refine wpAnyH_ready (rs := [11, 13]) (by kernel_rfl) (by simp) ?_
            refine AllReadyH.cons rfl (fun KK hK' => ?_) (AllReadyH.cons rfl (fun KK hK' => ?_) AllReadyH.nil)
            · go_simp
              refine (M3 _).mono ?_
              rintro e uu ⟨rfl, rfl⟩
              try go_wp2_with fail
              clear hHeld
              refine hK'.out _ _ (r4_of F.1) (fun hHeld => ?_)
              clear hK' KK
              try simp only [List.setIfInBounds_toArray, List.set_cons_zero, List.set_cons_succ]
              refine wpAnyH_take (i := 12) (v := cV ar br cr dr) rfl (by kernel_rfl) (by kernel_rfl) (by kernel_rfl) (fun _ _ _ h => h) (Or.inl ⟨by kernel_rfl, ?_⟩) hHeld ?_
              · intro w' hSw; go_simp
              try simp only [Act.put, List.setIfInBounds_toArray, List.set_cons_zero, List.set_cons_succ, List.getElem_toArray, List.getElem_cons_succ, List.getElem_cons_zero]
              refine wpAnyH_ready (rs := [13]) (by kernel_rfl) (by simp) ?_
              refine AllReadyH.cons rfl (fun KK hK' => ?_) AllReadyH.nil
              go_simp
              obtain ⟨V4, hV, rb, bb, -⟩ := boxed u0 33 #[.int .i64 0, .int .i64 0, .int .i64 0, .int .i64 0]
              rw [hV]
              have hp := hb_lt F
              obtain ⟨p, hpp⟩ : ∃ p, u0.heap.size = p := ⟨_, rfl⟩
              rw [hpp] at hp rb ⊢
              clear hV hpp
              replace F := F.below bb
              clear bb
              clear hHeld
              refine hK'.out _ _ (r4_of F.1) (fun hHeld => ?_)
              clear hK' KK
              try simp only [List.setIfInBounds_toArray, List.set_cons_zero, List.set_cons_succ]
              refine wpAnyH_ready (rs := [14]) (by kernel_rfl) (by simp) ?_
              refine AllReadyH.cons rfl (fun KK hK' => ?_) AllReadyH.nil
              obtain ⟨y0, y1, y2, y3, g0, g1, g2, g3⟩ := rb.open4
              go_simp
              obtain ⟨u9, hu9, rb9, F9⟩ := hb_fill F hp rb (.int .i64 ar) (.int .i64 br) (.int .i64 cr) (.int .i64 dr)
              rw [hu9]
              clear hu9 rb y0 y1 y2 y3 g0 g1 g2 g3 F
              have F := F9
              have rb := rb9
              clear F9 rb9
              clear hHeld
              refine hK'.out _ _ (r4_of F.1) (fun hHeld => ?_)
              clear hK' KK
              try simp only [List.setIfInBounds_toArray, List.set_cons_zero, List.set_cons_succ]
              refine wpAnyH_done (by kernel_rfl) ?_ _
              go_wp2_with fail
              go_meet
              case rel => exact ⟨p, rfl, hp, rb, F⟩
            · go_simp
              obtain ⟨V3, hV, rb, bb, -⟩ := boxed u0 33 #[.int .i64 0, .int .i64 0, .int .i64 0, .int .i64 0]
              rw [hV]
              have hp := hb_lt F
              obtain ⟨p, hpp⟩ : ∃ p, u0.heap.size = p := ⟨_, rfl⟩
              rw [hpp] at hp rb ⊢
              clear hV hpp
              replace F := F.below bb
              clear bb
              clear hHeld
              refine hK'.out _ _ (r4_of F.1) (fun hHeld => ?_)
              clear hK' KK
              try simp only [List.setIfInBounds_toArray, List.set_cons_zero, List.set_cons_succ]
              refine wpAnyH_ready (rs := [11]) (by kernel_rfl) (by simp) ?_
              refine AllReadyH.cons rfl (fun KK hK' => ?_) AllReadyH.nil
              go_simp
              refine (M3 _).mono ?_
              rintro e uu ⟨rfl, rfl⟩
              try go_wp2_with fail
              clear hHeld
              refine hK'.out _ _ (r4_of F.1) (fun hHeld => ?_)
              clear hK' KK
              try simp only [List.setIfInBounds_toArray, List.set_cons_zero, List.set_cons_succ]
              refine wpAnyH_take (i := 12) (v := cV ar br cr dr) rfl (by kernel_rfl) (by kernel_rfl) (by kernel_rfl) (fun _ _ _ h => h) (Or.inl ⟨by kernel_rfl, ?_⟩) hHeld ?_
              · intro w' hSw; go_simp
              try simp only [Act.put, List.setIfInBounds_toArray, List.set_cons_zero, List.set_cons_succ, List.getElem_toArray, List.getElem_cons_succ, List.getElem_cons_zero]
              refine wpAnyH_ready (rs := [14]) (by kernel_rfl) (by simp) ?_
              refine AllReadyH.cons rfl (fun KK hK' => ?_) AllReadyH.nil
              obtain ⟨y0, y1, y2, y3, g0, g1, g2, g3⟩ := rb.open4
              go_simp
              obtain ⟨u9, hu9, rb9, F9⟩ := hb_fill F hp rb (.int .i64 ar) (.int .i64 br) (.int .i64 cr) (.int .i64 dr)
              rw [hu9]
              clear hu9 rb y0 y1 y2 y3 g0 g1 g2 g3 F
              have F := F9
              have rb := rb9
              clear F9 rb9
              clear hHeld
              refine hK'.out _ _ (r4_of F.1) (fun hHeld => ?_)
              clear hK' KK
              try simp only [List.setIfInBounds_toArray, List.set_cons_zero, List.set_cons_succ]
              refine wpAnyH_done (by kernel_rfl) ?_ _
              go_wp2_with fail
              go_meet
              case rel => exact ⟨p, rfl, hp, rb, F⟩
          · go_simp
            obtain ⟨V2, hV, rb, bb, -⟩ := boxed u0 33 #[.int .i64 0, .int .i64 0, .int .i64 0, .int .i64 0]
            rw [hV]
            have hp := hb_lt F
            obtain ⟨p, hpp⟩ : ∃ p, u0.heap.size = p := ⟨_, rfl⟩
            rw [hpp] at hp rb ⊢
            clear hV hpp
            replace F := F.below bb
            clear bb
            clear hHeld
            refine hK'.out _ _ (r4_of F.1) (fun hHeld => ?_)
            clear hK' KK
            try simp only [List.setIfInBounds_toArray, List.set_cons_zero, List.set_cons_succ]
            refine wpAnyH_ready (rs := [8]) (by kernel_rfl) (by simp) ?_
            refine AllReadyH.cons rfl (fun KK hK' => ?_) AllReadyH.nil
            go_simp
            refine (M2 _).mono ?_
            rintro e uu ⟨rfl, rfl⟩
            try go_wp2_with fail
            clear hHeld
            refine hK'.out _ _ (r4_of F.1) (fun hHeld => ?_)
            clear hK' KK
            try simp only [List.setIfInBounds_toArray, List.set_cons_zero, List.set_cons_succ]
            refine wpAnyH_ready (rs := [11]) (by kernel_rfl) (by simp) ?_
            refine AllReadyH.cons rfl (fun KK hK' => ?_) AllReadyH.nil
            go_simp
            refine (M3 _).mono ?_
            rintro e uu ⟨rfl, rfl⟩
            try go_wp2_with fail
            clear hHeld
            refine hK'.out _ _ (r4_of F.1) (fun hHeld => ?_)
            clear hK' KK
            try simp only [List.setIfInBounds_toArray, List.set_cons_zero, List.set_cons_succ]
            refine wpAnyH_take (i := 12) (v := cV ar br cr dr) rfl (by kernel_rfl) (by kernel_rfl) (by kernel_rfl) (fun _ _ _ h => h) (Or.inl ⟨by kernel_rfl, ?_⟩) hHeld ?_
            · intro w' hSw; go_simp
            try simp only [Act.put, List.setIfInBounds_toArray, List.set_cons_zero, List.set_cons_succ, List.getElem_toArray, List.getElem_cons_succ, List.getElem_cons_zero]
            refine wpAnyH_ready (rs := [14]) (by kernel_rfl) (by simp) ?_
            refine AllReadyH.cons rfl (fun KK hK' => ?_) AllReadyH.nil
            obtain ⟨y0, y1, y2, y3, g0, g1, g2, g3⟩ := rb.open4
            go_simp
            obtain ⟨u9, hu9, rb9, F9⟩ := hb_fill F hp rb (.int .i64 ar) (.int .i64 br) (.int .i64 cr) (.int .i64 dr)
            rw [hu9]
            clear hu9 rb y0 y1 y2 y3 g0 g1 g2 g3 F
            have F := F9
            have rb := rb9
            clear F9 rb9
            clear hHeld
            refine hK'.out _ _ (r4_of F.1) (fun hHeld => ?_)
            clear hK' KK
            try simp only [List.setIfInBounds_toArray, List.set_cons_zero, List.set_cons_succ]
            refine wpAnyH_done (by kernel_rfl) ?_ _
            go_wp2_with fail
            go_meet
            case rel => exact ⟨p, rfl, hp, rb, F⟩
        · go_simp
          obtain ⟨V1, hV, rb, bb, -⟩ := boxed u0 33 #[.int .i64 0, .int .i64 0, .int .i64 0, .int .i64 0]
          rw [hV]
          have hp := hb_lt F
          obtain ⟨p, hpp⟩ : ∃ p, u0.heap.size = p := ⟨_, rfl⟩
          rw [hpp] at hp rb ⊢
          clear hV hpp
          replace F := F.below bb
          clear bb
          clear hHeld
          refine hK'.out _ _ (r4_of F.1) (fun hHeld => ?_)
          clear hK' KK
          try simp only [List.setIfInBounds_toArray, List.set_cons_zero, List.set_cons_succ]
          refine wpAnyH_ready (rs := [5]) (by kernel_rfl) (by simp) ?_
          refine AllReadyH.cons rfl (fun KK hK' => ?_) AllReadyH.nil
          go_simp
          refine (M1 _).mono ?_
          rintro e uu ⟨rfl, rfl⟩
          try go_wp2_with fail
          clear hHeld
          refine hK'.out _ _ (r4_of F.1) (fun hHeld => ?_)
          clear hK' KK
          try simp only [List.setIfInBounds_toArray, List.set_cons_zero, List.set_cons_succ]
          refine wpAnyH_ready (rs := [8]) (by kernel_rfl) (by simp) ?_
          refine AllReadyH.cons rfl (fun KK hK' => ?_) AllReadyH.nil
          go_simp
          refine (M2 _).mono ?_
          rintro e uu ⟨rfl, rfl⟩
          try go_wp2_with fail
          clear hHeld
          refine hK'.out _ _ (r4_of F.1) (fun hHeld => ?_)
          clear hK' KK
          try simp only [List.setIfInBounds_toArray, List.set_cons_zero, List.set_cons_succ]
          refine wpAnyH_ready (rs := [11]) (by kernel_rfl) (by simp) ?_
          refine AllReadyH.cons rfl (fun KK hK' => ?_) AllReadyH.nil
          go_simp
          refine (M3 _).mono ?_
          rintro e uu ⟨rfl, rfl⟩
          try go_wp2_with fail
          clear hHeld
          refine hK'.out _ _ (r4_of F.1) (fun hHeld => ?_)
          clear hK' KK
          try simp only [List.setIfInBounds_toArray, List.set_cons_zero, List.set_cons_succ]
          refine wpAnyH_take (i := 12) (v := cV ar br cr dr) rfl (by kernel_rfl) (by kernel_rfl) (by kernel_rfl) (fun _ _ _ h => h) (Or.inl ⟨by kernel_rfl, ?_⟩) hHeld ?_
          · intro w' hSw; go_simp
          try simp only [Act.put, List.setIfInBounds_toArray, List.set_cons_zero, List.set_cons_succ, List.getElem_toArray, List.getElem_cons_succ, List.getElem_cons_zero]
          refine wpAnyH_ready (rs := [14]) (by kernel_rfl) (by simp) ?_
          refine AllReadyH.cons rfl (fun KK hK' => ?_) AllReadyH.nil
          obtain ⟨y0, y1, y2, y3, g0, g1, g2, g3⟩ := rb.open4
          go_simp
          obtain ⟨u9, hu9, rb9, F9⟩ := hb_fill F hp rb (.int .i64 ar) (.int .i64 br) (.int .i64 cr) (.int .i64 dr)
          rw [hu9]
          clear hu9 rb y0 y1 y2 y3 g0 g1 g2 g3 F
          have F := F9
          have rb := rb9
          clear F9 rb9
          clear hHeld
          refine hK'.out _ _ (r4_of F.1) (fun hHeld => ?_)
          clear hK' KK
          try simp only [List.setIfInBounds_toArray, List.set_cons_zero, List.set_cons_succ]
          refine wpAnyH_done (by kernel_rfl) ?_ _
          go_wp2_with fail
          go_meet
          case rel => exact ⟨p, rfl, hp, rb, F⟩
      · go_simp
        obtain ⟨V0, hV, rb, bb, -⟩ := boxed u0 33 #[.int .i64 0, .int .i64 0, .int .i64 0, .int .i64 0]
        rw [hV]
        have hp := hb_lt F
        obtain ⟨p, hpp⟩ : ∃ p, u0.heap.size = p := ⟨_, rfl⟩
        rw [hpp] at hp rb ⊢
        clear hV hpp
        replace F := F.below bb
        clear bb
        clear hHeld
        refine hK'.out _ _ (r4_of F.1) (fun hHeld => ?_)
        clear hK' KK
        try simp only [List.setIfInBounds_toArray, List.set_cons_zero, List.set_cons_succ]
        refine wpAnyH_ready (rs := [2]) (by kernel_rfl) (by simp) ?_
        refine AllReadyH.cons rfl (fun KK hK' => ?_) AllReadyH.nil
        go_simp
        refine (M0 _).mono ?_
        rintro e uu ⟨rfl, rfl⟩
        try go_wp2_with fail
        clear hHeld
        refine hK'.out _ _ (r4_of F.1) (fun hHeld => ?_)
        clear hK' KK
        try simp only [List.setIfInBounds_toArray, List.set_cons_zero, List.set_cons_succ]
        refine wpAnyH_ready (rs := [5]) (by kernel_rfl) (by simp) ?_
        refine AllReadyH.cons rfl (fun KK hK' => ?_) AllReadyH.nil
        go_simp
        refine (M1 _).mono ?_
        rintro e uu ⟨rfl, rfl⟩
        try go_wp2_with fail
        clear hHeld
        refine hK'.out _ _ (r4_of F.1) (fun hHeld => ?_)
        clear hK' KK
        try simp only [List.setIfInBounds_toArray, List.set_cons_zero, List.set_cons_succ]
        refine wpAnyH_ready (rs := [8]) (by kernel_rfl) (by simp) ?_
        refine AllReadyH.cons rfl (fun KK hK' => ?_) AllReadyH.nil
        go_simp
        refine (M2 _).mono ?_
        rintro e uu ⟨rfl, rfl⟩
        try go_wp2_with fail
        clear hHeld
        refine hK'.out _ _ (r4_of F.1) (fun hHeld => ?_)
        clear hK' KK
        try simp only [List.setIfInBounds_toArray, List.set_cons_zero, List.set_cons_succ]
        refine wpAnyH_ready (rs := [11]) (by kernel_rfl) (by simp) ?_
        refine AllReadyH.cons rfl (fun KK hK' => ?_) AllReadyH.nil
        go_simp
        refine (M3 _).mono ?_
        rintro e uu ⟨rfl, rfl⟩
        try go_wp2_with fail
        clear hHeld
        refine hK'.out _ _ (r4_of F.1) (fun hHeld => ?_)
        clear hK' KK
        try simp only [List.setIfInBounds_toArray, List.set_cons_zero, List.set_cons_succ]
        refine wpAnyH_take (i := 12) (v := cV ar br cr dr) rfl (by kernel_rfl) (by kernel_rfl) (by kernel_rfl) (fun _ _ _ h => h) (Or.inl ⟨by kernel_rfl, ?_⟩) hHeld ?_
        · intro w' hSw; go_simp
        try simp only [Act.put, List.setIfInBounds_toArray, List.set_cons_zero, List.set_cons_succ, List.getElem_toArray, List.getElem_cons_succ, List.getElem_cons_zero]
        refine wpAnyH_ready (rs := [14]) (by kernel_rfl) (by simp) ?_
        refine AllReadyH.cons rfl (fun KK hK' => ?_) AllReadyH.nil
        obtain ⟨y0, y1, y2, y3, g0, g1, g2, g3⟩ := rb.open4
        go_simp
        obtain ⟨u9, hu9, rb9, F9⟩ := hb_fill F hp rb (.int .i64 ar) (.int .i64 br) (.int .i64 cr) (.int .i64 dr)
        rw [hu9]
        clear hu9 rb y0 y1 y2 y3 g0 g1 g2 g3 F
        have F := F9
        have rb := rb9
        clear F9 rb9
        clear hHeld
        refine hK'.out _ _ (r4_of F.1) (fun hHeld => ?_)
        clear hK' KK
        try simp only [List.setIfInBounds_toArray, List.set_cons_zero, List.set_cons_succ]
        refine wpAnyH_done (by kernel_rfl) ?_ _
        go_wp2_with fail
        go_meet
        case rel => exact ⟨p, rfl, hp, rb, F⟩
    case rest =>
      obtain ⟨p', rfl, hp', rp1, F⟩ := hcut
      replace rp0 := rp0.below F.2.2
      replace b1 := (b1.below G.2.2).below F.2.2
      replace b2 := (b2.below G.2.2).below F.2.2
      have B := bW.trans ((G.2.2.trans (F.2.2.mono G.2.2.size)).mono bW.size)
      clear M0 M1 M2 M3 G F b0
      have l1 := b1.lt
      have hp0 : w.heap.size + 2 < p := by omega
      have hp1 : w.heap.size + 2 < p' := by omega
      go_wp2_with fail
      obtain ⟨u0, hu0, bb⟩ : ∃ u0, wc.drew = u0 ∧ Below wc.heap.size wc u0 := ⟨_, rfl, (Below.refl _ _).drew⟩
      replace rp0 := rp0.below bb
      replace rp1 := rp1.below bb
      replace b1 := b1.below bb
      replace b2 := b2.below bb
      replace B := B.trans (bb.mono B.size)
      clear bb
      refine wp_region_held_drew (S := R8 p p' aq bq cq dq ar br cr dr) (by kernel_rfl) (by rw [hu0]; exact r8_of rp0 rp1) (fun hHeld => ?_)
      rw [hu0] at hHeld ⊢
      clear hu0
      change wpAnyH _ _ _ _ _ 4 #[false, false, false, false] _ _
      refine wpAnyH_take (i := 0) (v := cV aq bq cq dq) rfl (by kernel_rfl) (by kernel_rfl) (by kernel_rfl) (fun _ _ _ h => h) (Or.inl ⟨by kernel_rfl, ?_⟩) hHeld ?_
      · intro w' hSw; obtain ⟨⟨z0, z1, z2, z3⟩, -⟩ := hSw; go_simp
      try simp only [Act.put, List.setIfInBounds_toArray, List.set_cons_zero, List.set_cons_succ, List.getElem_toArray, List.getElem_cons_zero]
      refine wpAnyH_take (i := 1) (v := cV ar br cr dr) rfl (by kernel_rfl) (by kernel_rfl) (by kernel_rfl) (fun _ _ _ h => h) (Or.inl ⟨by kernel_rfl, ?_⟩) hHeld ?_
      · intro w' hSw; obtain ⟨-, z0, z1, z2, z3⟩ := hSw; go_simp
      try simp only [Act.put, List.setIfInBounds_toArray, List.set_cons_zero, List.set_cons_succ, List.getElem_toArray, List.getElem_cons_succ, List.getElem_cons_zero]
      obtain ⟨y0, y1, y2, y3, g0, g1, g2, g3⟩ := b1.open4
      refine wpAnyH_ready (rs := [2]) (by kernel_rfl) (by simp) ?_
      refine AllReadyH.cons rfl (fun KK hK' => ?_) AllReadyH.nil
      go_simp
      obtain ⟨u2, hu, a1, a2, a3, a4, B'⟩ : ∃ u, _ = u ∧ At 33 u p #[.int .i64 aq, .int .i64 bq, .int .i64 cq, .int .i64 dq] ∧ At 33 u p' #[.int .i64 ar, .int .i64 br, .int .i64 cr, .int .i64 dr] ∧ At 33 u (w.heap.size + 1) _ ∧ At 33 u (w.heap.size + 2) _ ∧ Below w.heap.size w u := ⟨_, rfl, put4_other rp0 (q := p) (p := w.heap.size + 1) (by omega) (.int .i64 aq) (.int .i64 bq) (.int .i64 cq) (.int .i64 dq), put4_other rp1 (q := p') (p := w.heap.size + 1) (by omega) (.int .i64 aq) (.int .i64 bq) (.int .i64 cq) (.int .i64 dq), put4_at b1 (.int .i64 aq) (.int .i64 bq) (.int .i64 cq) (.int .i64 dq), put4_other b2 (by omega) (.int .i64 aq) (.int .i64 bq) (.int .i64 cq) (.int .i64 dq), below_put4 B (q := w.heap.size + 1) (by omega) (.int .i64 aq) (.int .i64 bq) (.int .i64 cq) (.int .i64 dq)⟩
      rw [hu]
      clear hu rp0 rp1 b1 b2 B y0 y1 y2 y3 g0 g1 g2 g3
      have rp0 := a1
      have rp1 := a2
      have b1 := a3
      have b2 := a4
      have B := B'
      clear a1 a2 a3 a4 B'
      clear hHeld
      refine hK'.out _ _ (r8_of rp0 rp1) (fun hHeld => ?_)
      clear hK' KK
      try simp only [List.setIfInBounds_toArray, List.set_cons_zero, List.set_cons_succ]
      obtain ⟨y0, y1, y2, y3, g0, g1, g2, g3⟩ := b2.open4
      refine wpAnyH_ready (rs := [3]) (by kernel_rfl) (by simp) ?_
      refine AllReadyH.cons rfl (fun KK hK' => ?_) AllReadyH.nil
      go_simp
      obtain ⟨u3, hu, a1, a2, a3, a4, B'⟩ : ∃ u, _ = u ∧ At 33 u p #[.int .i64 aq, .int .i64 bq, .int .i64 cq, .int .i64 dq] ∧ At 33 u p' #[.int .i64 ar, .int .i64 br, .int .i64 cr, .int .i64 dr] ∧ At 33 u (w.heap.size + 1) _ ∧ At 33 u (w.heap.size + 2) _ ∧ Below w.heap.size w u := ⟨_, rfl, put4_other rp0 (q := p) (p := w.heap.size + 2) (by omega) (.int .i64 ar) (.int .i64 br) (.int .i64 cr) (.int .i64 dr), put4_other rp1 (q := p') (p := w.heap.size + 2) (by omega) (.int .i64 ar) (.int .i64 br) (.int .i64 cr) (.int .i64 dr), put4_other b1 (by omega) (.int .i64 ar) (.int .i64 br) (.int .i64 cr) (.int .i64 dr), put4_at b2 (.int .i64 ar) (.int .i64 br) (.int .i64 cr) (.int .i64 dr), below_put4 B (q := w.heap.size + 2) (by omega) (.int .i64 ar) (.int .i64 br) (.int .i64 cr) (.int .i64 dr)⟩
      rw [hu]
      clear hu rp0 rp1 b1 b2 B y0 y1 y2 y3 g0 g1 g2 g3
      have rp0 := a1
      have rp1 := a2
      have b1 := a3
      have b2 := a4
      have B := B'
      clear a1 a2 a3 a4 B'
      clear hHeld
      refine hK'.out _ _ (r8_of rp0 rp1) (fun hHeld => ?_)
      clear hK' KK
      try simp only [List.setIfInBounds_toArray, List.set_cons_zero, List.set_cons_succ]
      refine wpAnyH_done (by kernel_rfl) ?_ _
      clear hHeld
      obtain ⟨c0, c1, c2, c3, -⟩ := b1.open4
      obtain ⟨e0, e1, e2, e3, -⟩ := b2.open4
      go_wp2
      exact bodyPost_ret (v := .tuple #[cV aq bq cq dq, cV ar br cr dr]) (by simp [results, Tryd.results40, go_sem, c0, c1, c2, c3, e0, e1, e2, e3]) rfl ⟨rfl, B⟩
end Go.Proofs.YtbninbeccgdemaaDoor
