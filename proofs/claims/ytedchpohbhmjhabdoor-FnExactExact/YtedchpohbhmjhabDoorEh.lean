/-
  The exact law of structure factors: walked.
-/
import Derived.Test.YtedchpohbhmjhabDoorEg
import Derived.Test.YtedchpohbhmjhabDoorEc
namespace Go.Proofs.YtedchpohbhmjhabDoor
open Go.RowKit

theorem toHkl_any (a b c : Int) (w : World) : Calls Tryd.prog 28 #[hV a b c] w fun e w' => e = .returned (hV a b c) ∧ Below w.heap.size w w' := by
  go_enter Tryd.func28, Tryd.ntmps28
  go_wp2
  exact bodyPost_ret (v := hV a b c) (by simp [results, Tryd.results28, go_sem]) rfl ⟨rfl, (below_alloc _ _).trans (((below_alloc _ _).trans ((below_alloc _ _).mono (by simp))).mono (by simp))⟩
theorem eqCycB_any (a b c d : Int) (w : World) : Calls Tryd.prog 11 #[cV a b c d, cV a b c d] w fun e w' => e = .returned (.bool true) ∧ Below w.heap.size w w' := by
  obtain ⟨W, hW, b0, b1, bW, -⟩ := boxed2 w 24 24 #[.int .i64 a, .int .i64 b, .int .i64 c, .int .i64 d] #[.int .i64 a, .int .i64 b, .int .i64 c, .int .i64 d]
  obtain ⟨c0, c1, c2, c3, -⟩ := b0.open4
  obtain ⟨d0, d1, d2, d3, -⟩ := b1.open4
  go_enter Tryd.func11, Tryd.ntmps11
  go_wp2
  go_ret
  exact ⟨rfl, bW⟩
/-- What both tell. -/
theorem told_some {n : Nat} {f : Nat → Int} (h k l : Int) (hn : n ≤ 1048576) : ∃ (p q r s : Int) (v : Bool), (∀ (w : World) (g c : Nat), Quads w g n f → Calls Tryd.prog 26 #[.slice (some ⟨g, 0, none⟩) n c, hV h k l] w fun e w' => e = .returned (.tuple #[cV p q r s, .bool v]) ∧ Below w.heap.size w w') ∧
    (∀ (w : World) (g c : Nat), Quads w g n f → Tab w → Calls Tryd.prog 29 #[.slice (some ⟨g, 0, none⟩) n c, hV h k l] w fun e w' => e = .returned (.tuple #[cV p q r s, .bool v]) ∧ Below w.heap.size w w') := by
  by_cases ha : AOk n f
  · cases hh : hOk h k l
    · exact ⟨0, 0, 0, 0, false, fun w g c L => specExact_no h k l L hn true (by simp [ha]) (by simp [hh]), fun w g c L t => implExact_no h k l L hn t true (by simp [ha]) (by simp [hh])⟩
    · exact ⟨_, _, _, _, true, fun w g c L => specExact_yes h k l L ha hh, fun w g c L t => implExact_yes h k l L t ha hh⟩
  · exact ⟨0, 0, 0, 0, false, fun w g c L => specExact_no h k l L hn false (by simp [ha]) (by simp), fun w g c L t => implExact_no h k l L hn t false (by simp [ha]) (by simp)⟩
/-- What the law keeps: the reflection's box, the atoms that came in, the table. -/
def Lw (w : World) (a : Option Addr) (n : Nat) (f : Nat → Int) (h k l : Int) (wr : World) : Prop :=
  At 47 wr w.heap.size #[.int .i64 h, .int .i64 k, .int .i64 l] ∧ Src wr a (n * 4) f ∧ Tab wr ∧ Below w.heap.size w wr
theorem Lw.below {w wr wr' : World} {a : Option Addr} {n : Nat} {f : Nat → Int} {h k l : Int} (F : Lw w a n f h k l wr) (b : Below wr.heap.size wr wr') : Lw w a n f h k l wr' := by
  obtain ⟨f1, f2, f3, f4⟩ := F
  exact ⟨f1.below b, f2.below b, f3.below b, f4.trans (b.mono f4.size)⟩
/-- A box that is newer than V holds four numbers; all of V stands. -/
theorem below_fill {V wr : World} {p : Nat} (b : Below V.heap.size V wr) (hp : V.heap.size ≤ p) (v0 v1 v2 v3 : Value) : Below V.heap.size V ((((wr.setCell ⟨p, 0, none⟩ v0).setCell ⟨p, 1, none⟩ v1).setCell ⟨p, 2, none⟩ v2).setCell ⟨p, 3, none⟩ v3) := below_put4 b hp _ _ _ _
/-- Lw and what stands of V. -/
def Lv (w : World) (a : Option Addr) (n : Nat) (f : Nat → Int) (h k l : Int) (V wr : World) : Prop := Lw w a n f h k l V ∧ Below V.heap.size V wr
theorem Lv.lw {w V wr : World} {a : Option Addr} {n : Nat} {f : Nat → Int} {h k l : Int} (F : Lv w a n f h k l V wr) : Lw w a n f h k l wr := F.1.below F.2
theorem Lv.below {w V wr wr' : World} {a : Option Addr} {n : Nat} {f : Nat → Int} {h k l : Int} (F : Lv w a n f h k l V wr) (b : Below wr.heap.size wr wr') : Lv w a n f h k l V wr' := ⟨F.1, F.2.trans (b.mono F.2.size)⟩
theorem s_lt {w V wr : World} {a : Option Addr} {n : Nat} {f : Nat → Int} {h k l : Int} (F : Lv w a n f h k l V wr) : V.heap.size ≤ wr.heap.size := F.2.size
theorem s_fill {w V wr : World} {a : Option Addr} {n p : Nat} {f : Nat → Int} {h k l : Int} {t : TypeId} {u0 u1 u2 u3 : Value} (F : Lv w a n f h k l V wr) (hp : V.heap.size ≤ p) (rb : At t wr p #[u0, u1, u2, u3]) (v0 v1 v2 v3 : Value) :
    ∃ u, (((wr.setCell ⟨p, 0, none⟩ v0).setCell ⟨p, 1, none⟩ v1).setCell ⟨p, 2, none⟩ v2).setCell ⟨p, 3, none⟩ v3 = u ∧ At t u p #[v0, v1, v2, v3] ∧ Lv w a n f h k l V u :=
  ⟨_, rfl, put4_at rb _ _ _ _, F.1, below_put4 F.2 hp _ _ _ _⟩
/-- The reflection's cells. -/
def Rh (qh : Nat) (h k l : Int) (w : World) : Prop := w.cell? ⟨qh, 0, none⟩ = some (.int .i64 h) ∧ w.cell? ⟨qh, 1, none⟩ = some (.int .i64 k) ∧ w.cell? ⟨qh, 2, none⟩ = some (.int .i64 l)
theorem rh_of {w V wr : World} {a : Option Addr} {n : Nat} {f : Nat → Int} {h k l : Int} (F : Lv w a n f h k l V wr) : Rh w.heap.size h k l wr := by
  obtain ⟨b0, b1, b2, -⟩ := F.lw.1.open3
  exact ⟨b0, b1, b2⟩
set_option maxRecDepth 100000 in
set_option maxHeartbeats 3200000 in
theorem exactExact_walk {w : World} {a : Option Addr} {n cap : Nat} {f : Nat → Int} (h k l : Int) (hS : Src w a (n * 4) f) (hn : n ≤ maxLen) (ht : Tab w) :
    Calls Tryd.prog 7 #[.slice a n cap, hV h k l] w fun e w' => e = .returned (.bool true) ∧ Below w.heap.size w w' := by
  obtain ⟨W, hW, b0, bW, -⟩ := boxed w 47 #[.int .i64 h, .int .i64 k, .int .i64 l]
  have G : Lw w a n f h k l W := ⟨b0, hS.below bW, ht.below bW, bW⟩
  clear b0 bW
  go_enter Tryd.func7, Tryd.ntmps7
  go_wp2_with fail
  refine (sz_any _ hn).mono ?_
  rintro e w1 ⟨⟨r, rfl, hr⟩, rfl⟩
  rcases hr with rfl | ⟨h0, hsh⟩
  · go_wp2
    go_ret
    exact ⟨rfl, G.2.2.2⟩
  · have h1 : ¬ r < 0 := by omega
    obtain ⟨p0, q0, r0, s0, v0, SP, IM⟩ := told_some (n := n) (f := f) h k l hsh
    clear hW
    go_wp2_with fail
    go_cut [6, 7] from 11 (fun s6 s7 wc => ∃ g, s6 = .pointer (some ⟨g, 0, none⟩) ∧ s7 = .bool v0 ∧ At 24 wc g #[.int .i64 p0, .int .i64 q0, .int .i64 r0, .int .i64 s0] ∧ Lw w a n f h k l wc)
    case first =>
      have F : Lv w a n f h k l W W := ⟨G, Below.refl _ _⟩
      clear G
      obtain ⟨u0, hu0, bb⟩ : ∃ u0, W.drew = u0 ∧ Below W.heap.size W u0 := ⟨_, rfl, (Below.refl _ _).drew⟩
      replace F := F.below bb
      clear bb
      refine wp_region_held_drew (S := Rh w.heap.size h k l) (by kernel_rfl) (by rw [hu0]; exact rh_of F) (fun hHeld => ?_)
      rw [hu0] at hHeld ⊢
      clear hu0
      change wpAnyH _ _ _ _ _ 11 #[false, false, false, false, false, false, false, false, false, false, false] _ _
      refine wpAnyH_take (i := 0) (v := .slice a n cap) rfl (by kernel_rfl) (by kernel_rfl) (by kernel_rfl) (fun _ _ _ h => h) (Or.inl ⟨by kernel_rfl, ?_⟩) hHeld ?_
      · intro w' hSw; go_simp
      try simp only [Act.put, List.setIfInBounds_toArray, List.set_cons_zero, List.set_cons_succ, List.getElem_toArray, List.getElem_cons_zero]
      refine wpAnyH_take (i := 2) (v := hV h k l) rfl (by kernel_rfl) (by kernel_rfl) (by kernel_rfl) (fun _ _ _ h => h) (Or.inl ⟨by kernel_rfl, ?_⟩) hHeld ?_
      · intro w' hSw; obtain ⟨z0, z1, z2⟩ := hSw; go_simp
      try simp only [Act.put, List.setIfInBounds_toArray, List.set_cons_zero, List.set_cons_succ, List.getElem_toArray, List.getElem_cons_succ, List.getElem_cons_zero]
      refine wpAnyH_ready (rs := [1, 8]) (by kernel_rfl) (by simp) ?_
      refine AllReadyH.cons rfl (fun KK hK' => ?_) (AllReadyH.cons rfl (fun KK hK' => ?_) AllReadyH.nil)
      · go_simp
        refine (toAtomS_any F.lw.2.1 hsh).mono ?_
        rintro e u1 ⟨gl, rfl, L, bb⟩
        replace F := F.below bb
        clear bb
        try go_wp2_with fail
        clear hHeld
        refine hK'.out _ _ (rh_of F) (fun hHeld => ?_)
        clear hK' KK
        try simp only [List.setIfInBounds_toArray, List.set_cons_zero, List.set_cons_succ]
        refine wpAnyH_ready (rs := [3, 8]) (by kernel_rfl) (by simp) ?_
        refine AllReadyH.cons rfl (fun KK hK' => ?_) (AllReadyH.cons rfl (fun KK hK' => ?_) AllReadyH.nil)
        · go_simp
          refine (toHkl_any _ _ _ _).mono ?_
          rintro e u2 ⟨rfl, bb⟩
          replace F := F.below bb
          replace L := L.below bb
          clear bb
          try go_wp2_with fail
          clear hHeld
          refine hK'.out _ _ (rh_of F) (fun hHeld => ?_)
          clear hK' KK
          try simp only [List.setIfInBounds_toArray, List.set_cons_zero, List.set_cons_succ]
          refine wpAnyH_ready (rs := [4, 8]) (by kernel_rfl) (by simp) ?_
          refine AllReadyH.cons rfl (fun KK hK' => ?_) (AllReadyH.cons rfl (fun KK hK' => ?_) AllReadyH.nil)
          · go_simp
            refine (SP _ _ _ L).mono ?_
            rintro e u3 ⟨rfl, bb⟩
            replace F := F.below bb
            replace L := L.below bb
            clear bb
            try go_wp2_with fail
            clear hHeld
            refine hK'.out _ _ (rh_of F) (fun hHeld => ?_)
            clear hK' KK
            try simp only [List.setIfInBounds_toArray, List.set_cons_zero, List.set_cons_succ]
            refine wpAnyH_take (i := 5) (v := .tuple #[cV p0 q0 r0 s0, .bool v0]) rfl (by kernel_rfl) (by kernel_rfl) (by kernel_rfl) (fun _ _ _ h => h) (Or.inl ⟨by kernel_rfl, ?_⟩) hHeld ?_
            · intro w' hSw; go_simp
            try simp only [Act.put, List.setIfInBounds_toArray, List.set_cons_zero, List.set_cons_succ, List.getElem_toArray, List.getElem_cons_succ, List.getElem_cons_zero]
            refine wpAnyH_take (i := 6) (v := cV p0 q0 r0 s0) rfl (by kernel_rfl) (by kernel_rfl) (by kernel_rfl) (fun _ _ _ h => h) (Or.inl ⟨by kernel_rfl, ?_⟩) hHeld ?_
            · intro w' hSw; go_simp
            try simp only [Act.put, List.setIfInBounds_toArray, List.set_cons_zero, List.set_cons_succ, List.getElem_toArray, List.getElem_cons_succ, List.getElem_cons_zero]
            refine wpAnyH_take (i := 7) (v := .bool v0) rfl (by kernel_rfl) (by kernel_rfl) (by kernel_rfl) (fun _ _ _ h => h) (Or.inl ⟨by kernel_rfl, ?_⟩) hHeld ?_
            · intro w' hSw; go_simp
            try simp only [Act.put, List.setIfInBounds_toArray, List.set_cons_zero, List.set_cons_succ, List.getElem_toArray, List.getElem_cons_succ, List.getElem_cons_zero]
            refine wpAnyH_ready (rs := [8]) (by kernel_rfl) (by simp) ?_
            refine AllReadyH.cons rfl (fun KK hK' => ?_) AllReadyH.nil
            go_simp
            obtain ⟨V3, hV, rb, bb, -⟩ := boxed u3 24 #[.int .i64 0, .int .i64 0, .int .i64 0, .int .i64 0]
            rw [hV]
            have hp := s_lt F
            obtain ⟨p, hpp⟩ : ∃ p, u3.heap.size = p := ⟨_, rfl⟩
            rw [hpp] at hp rb ⊢
            clear hV hpp
            replace F := F.below bb
            replace L := L.below bb
            clear bb
            clear hHeld
            refine hK'.out _ _ (rh_of F) (fun hHeld => ?_)
            clear hK' KK
            try simp only [List.setIfInBounds_toArray, List.set_cons_zero, List.set_cons_succ]
            refine wpAnyH_ready (rs := [9]) (by kernel_rfl) (by simp) ?_
            refine AllReadyH.cons rfl (fun KK hK' => ?_) AllReadyH.nil
            obtain ⟨y0, y1, y2, y3, g0, g1, g2, g3⟩ := rb.open4
            go_simp
            obtain ⟨u9, hu9, rb9, F9⟩ := s_fill F hp rb (.int .i64 p0) (.int .i64 q0) (.int .i64 r0) (.int .i64 s0)
            rw [hu9]
            clear hu9 rb y0 y1 y2 y3 g0 g1 g2 g3 F
            have F := F9
            have rb := rb9
            clear F9 rb9
            clear hHeld
            refine hK'.out _ _ (rh_of F) (fun hHeld => ?_)
            clear hK' KK
            try simp only [List.setIfInBounds_toArray, List.set_cons_zero, List.set_cons_succ]
            refine wpAnyH_take (i := 10) (v := .bool v0) rfl (by kernel_rfl) (by kernel_rfl) (by kernel_rfl) (fun _ _ _ h => h) (Or.inl ⟨by kernel_rfl, ?_⟩) hHeld ?_
            · intro w' hSw; go_simp
            try simp only [Act.put, List.setIfInBounds_toArray, List.set_cons_zero, List.set_cons_succ, List.getElem_toArray, List.getElem_cons_succ, List.getElem_cons_zero]
            refine wpAnyH_done (by kernel_rfl) ?_ _
            go_wp2_with fail
            go_meet
            case rel => exact ⟨p, rfl, rfl, rb, F.lw⟩
          · go_simp
            obtain ⟨V2, hV, rb, bb, -⟩ := boxed u2 24 #[.int .i64 0, .int .i64 0, .int .i64 0, .int .i64 0]
            rw [hV]
            have hp := s_lt F
            obtain ⟨p, hpp⟩ : ∃ p, u2.heap.size = p := ⟨_, rfl⟩
            rw [hpp] at hp rb ⊢
            clear hV hpp
            replace F := F.below bb
            replace L := L.below bb
            clear bb
            clear hHeld
            refine hK'.out _ _ (rh_of F) (fun hHeld => ?_)
            clear hK' KK
            try simp only [List.setIfInBounds_toArray, List.set_cons_zero, List.set_cons_succ]
            refine wpAnyH_ready (rs := [4]) (by kernel_rfl) (by simp) ?_
            refine AllReadyH.cons rfl (fun KK hK' => ?_) AllReadyH.nil
            go_simp
            refine (SP _ _ _ L).mono ?_
            rintro e u3 ⟨rfl, bb⟩
            replace F := F.below bb
            replace L := L.below bb
            replace rb := rb.below bb
            clear bb
            try go_wp2_with fail
            clear hHeld
            refine hK'.out _ _ (rh_of F) (fun hHeld => ?_)
            clear hK' KK
            try simp only [List.setIfInBounds_toArray, List.set_cons_zero, List.set_cons_succ]
            refine wpAnyH_take (i := 5) (v := .tuple #[cV p0 q0 r0 s0, .bool v0]) rfl (by kernel_rfl) (by kernel_rfl) (by kernel_rfl) (fun _ _ _ h => h) (Or.inl ⟨by kernel_rfl, ?_⟩) hHeld ?_
            · intro w' hSw; go_simp
            try simp only [Act.put, List.setIfInBounds_toArray, List.set_cons_zero, List.set_cons_succ, List.getElem_toArray, List.getElem_cons_succ, List.getElem_cons_zero]
            refine wpAnyH_take (i := 6) (v := cV p0 q0 r0 s0) rfl (by kernel_rfl) (by kernel_rfl) (by kernel_rfl) (fun _ _ _ h => h) (Or.inl ⟨by kernel_rfl, ?_⟩) hHeld ?_
            · intro w' hSw; go_simp
            try simp only [Act.put, List.setIfInBounds_toArray, List.set_cons_zero, List.set_cons_succ, List.getElem_toArray, List.getElem_cons_succ, List.getElem_cons_zero]
            refine wpAnyH_take (i := 7) (v := .bool v0) rfl (by kernel_rfl) (by kernel_rfl) (by kernel_rfl) (fun _ _ _ h => h) (Or.inl ⟨by kernel_rfl, ?_⟩) hHeld ?_
            · intro w' hSw; go_simp
            try simp only [Act.put, List.setIfInBounds_toArray, List.set_cons_zero, List.set_cons_succ, List.getElem_toArray, List.getElem_cons_succ, List.getElem_cons_zero]
            refine wpAnyH_ready (rs := [9]) (by kernel_rfl) (by simp) ?_
            refine AllReadyH.cons rfl (fun KK hK' => ?_) AllReadyH.nil
            obtain ⟨y0, y1, y2, y3, g0, g1, g2, g3⟩ := rb.open4
            go_simp
            obtain ⟨u9, hu9, rb9, F9⟩ := s_fill F hp rb (.int .i64 p0) (.int .i64 q0) (.int .i64 r0) (.int .i64 s0)
            rw [hu9]
            clear hu9 rb y0 y1 y2 y3 g0 g1 g2 g3 F
            have F := F9
            have rb := rb9
            clear F9 rb9
            clear hHeld
            refine hK'.out _ _ (rh_of F) (fun hHeld => ?_)
            clear hK' KK
            try simp only [List.setIfInBounds_toArray, List.set_cons_zero, List.set_cons_succ]
            refine wpAnyH_take (i := 10) (v := .bool v0) rfl (by kernel_rfl) (by kernel_rfl) (by kernel_rfl) (fun _ _ _ h => h) (Or.inl ⟨by kernel_rfl, ?_⟩) hHeld ?_
            · intro w' hSw; go_simp
            try simp only [Act.put, List.setIfInBounds_toArray, List.set_cons_zero, List.set_cons_succ, List.getElem_toArray, List.getElem_cons_succ, List.getElem_cons_zero]
            refine wpAnyH_done (by kernel_rfl) ?_ _
            go_wp2_with fail
            go_meet
            case rel => exact ⟨p, rfl, rfl, rb, F.lw⟩
        · go_simp
          obtain ⟨V1, hV, rb, bb, -⟩ := boxed u1 24 #[.int .i64 0, .int .i64 0, .int .i64 0, .int .i64 0]
          rw [hV]
          have hp := s_lt F
          obtain ⟨p, hpp⟩ : ∃ p, u1.heap.size = p := ⟨_, rfl⟩
          rw [hpp] at hp rb ⊢
          clear hV hpp
          replace F := F.below bb
          replace L := L.below bb
          clear bb
          clear hHeld
          refine hK'.out _ _ (rh_of F) (fun hHeld => ?_)
          clear hK' KK
          try simp only [List.setIfInBounds_toArray, List.set_cons_zero, List.set_cons_succ]
          refine wpAnyH_ready (rs := [3]) (by kernel_rfl) (by simp) ?_
          refine AllReadyH.cons rfl (fun KK hK' => ?_) AllReadyH.nil
          go_simp
          refine (toHkl_any _ _ _ _).mono ?_
          rintro e u2 ⟨rfl, bb⟩
          replace F := F.below bb
          replace L := L.below bb
          replace rb := rb.below bb
          clear bb
          try go_wp2_with fail
          clear hHeld
          refine hK'.out _ _ (rh_of F) (fun hHeld => ?_)
          clear hK' KK
          try simp only [List.setIfInBounds_toArray, List.set_cons_zero, List.set_cons_succ]
          refine wpAnyH_ready (rs := [4]) (by kernel_rfl) (by simp) ?_
          refine AllReadyH.cons rfl (fun KK hK' => ?_) AllReadyH.nil
          go_simp
          refine (SP _ _ _ L).mono ?_
          rintro e u3 ⟨rfl, bb⟩
          replace F := F.below bb
          replace L := L.below bb
          replace rb := rb.below bb
          clear bb
          try go_wp2_with fail
          clear hHeld
          refine hK'.out _ _ (rh_of F) (fun hHeld => ?_)
          clear hK' KK
          try simp only [List.setIfInBounds_toArray, List.set_cons_zero, List.set_cons_succ]
          refine wpAnyH_take (i := 5) (v := .tuple #[cV p0 q0 r0 s0, .bool v0]) rfl (by kernel_rfl) (by kernel_rfl) (by kernel_rfl) (fun _ _ _ h => h) (Or.inl ⟨by kernel_rfl, ?_⟩) hHeld ?_
          · intro w' hSw; go_simp
          try simp only [Act.put, List.setIfInBounds_toArray, List.set_cons_zero, List.set_cons_succ, List.getElem_toArray, List.getElem_cons_succ, List.getElem_cons_zero]
          refine wpAnyH_take (i := 6) (v := cV p0 q0 r0 s0) rfl (by kernel_rfl) (by kernel_rfl) (by kernel_rfl) (fun _ _ _ h => h) (Or.inl ⟨by kernel_rfl, ?_⟩) hHeld ?_
          · intro w' hSw; go_simp
          try simp only [Act.put, List.setIfInBounds_toArray, List.set_cons_zero, List.set_cons_succ, List.getElem_toArray, List.getElem_cons_succ, List.getElem_cons_zero]
          refine wpAnyH_take (i := 7) (v := .bool v0) rfl (by kernel_rfl) (by kernel_rfl) (by kernel_rfl) (fun _ _ _ h => h) (Or.inl ⟨by kernel_rfl, ?_⟩) hHeld ?_
          · intro w' hSw; go_simp
          try simp only [Act.put, List.setIfInBounds_toArray, List.set_cons_zero, List.set_cons_succ, List.getElem_toArray, List.getElem_cons_succ, List.getElem_cons_zero]
          refine wpAnyH_ready (rs := [9]) (by kernel_rfl) (by simp) ?_
          refine AllReadyH.cons rfl (fun KK hK' => ?_) AllReadyH.nil
          obtain ⟨y0, y1, y2, y3, g0, g1, g2, g3⟩ := rb.open4
          go_simp
          obtain ⟨u9, hu9, rb9, F9⟩ := s_fill F hp rb (.int .i64 p0) (.int .i64 q0) (.int .i64 r0) (.int .i64 s0)
          rw [hu9]
          clear hu9 rb y0 y1 y2 y3 g0 g1 g2 g3 F
          have F := F9
          have rb := rb9
          clear F9 rb9
          clear hHeld
          refine hK'.out _ _ (rh_of F) (fun hHeld => ?_)
          clear hK' KK
          try simp only [List.setIfInBounds_toArray, List.set_cons_zero, List.set_cons_succ]
          refine wpAnyH_take (i := 10) (v := .bool v0) rfl (by kernel_rfl) (by kernel_rfl) (by kernel_rfl) (fun _ _ _ h => h) (Or.inl ⟨by kernel_rfl, ?_⟩) hHeld ?_
          · intro w' hSw; go_simp
          try simp only [Act.put, List.setIfInBounds_toArray, List.set_cons_zero, List.set_cons_succ, List.getElem_toArray, List.getElem_cons_succ, List.getElem_cons_zero]
          refine wpAnyH_done (by kernel_rfl) ?_ _
          go_wp2_with fail
          go_meet
          case rel => exact ⟨p, rfl, rfl, rb, F.lw⟩
      · go_simp
        obtain ⟨V0, hV, rb, bb, -⟩ := boxed u0 24 #[.int .i64 0, .int .i64 0, .int .i64 0, .int .i64 0]
        rw [hV]
        have hp := s_lt F
        obtain ⟨p, hpp⟩ : ∃ p, u0.heap.size = p := ⟨_, rfl⟩
        rw [hpp] at hp rb ⊢
        clear hV hpp
        replace F := F.below bb
        clear bb
        clear hHeld
        refine hK'.out _ _ (rh_of F) (fun hHeld => ?_)
        clear hK' KK
        try simp only [List.setIfInBounds_toArray, List.set_cons_zero, List.set_cons_succ]
        refine wpAnyH_ready (rs := [1]) (by kernel_rfl) (by simp) ?_
        refine AllReadyH.cons rfl (fun KK hK' => ?_) AllReadyH.nil
        go_simp
        refine (toAtomS_any F.lw.2.1 hsh).mono ?_
        rintro e u1 ⟨gl, rfl, L, bb⟩
        replace F := F.below bb
        replace rb := rb.below bb
        clear bb
        try go_wp2_with fail
        clear hHeld
        refine hK'.out _ _ (rh_of F) (fun hHeld => ?_)
        clear hK' KK
        try simp only [List.setIfInBounds_toArray, List.set_cons_zero, List.set_cons_succ]
        refine wpAnyH_ready (rs := [3]) (by kernel_rfl) (by simp) ?_
        refine AllReadyH.cons rfl (fun KK hK' => ?_) AllReadyH.nil
        go_simp
        refine (toHkl_any _ _ _ _).mono ?_
        rintro e u2 ⟨rfl, bb⟩
        replace F := F.below bb
        replace rb := rb.below bb
        replace L := L.below bb
        clear bb
        try go_wp2_with fail
        clear hHeld
        refine hK'.out _ _ (rh_of F) (fun hHeld => ?_)
        clear hK' KK
        try simp only [List.setIfInBounds_toArray, List.set_cons_zero, List.set_cons_succ]
        refine wpAnyH_ready (rs := [4]) (by kernel_rfl) (by simp) ?_
        refine AllReadyH.cons rfl (fun KK hK' => ?_) AllReadyH.nil
        go_simp
        refine (SP _ _ _ L).mono ?_
        rintro e u3 ⟨rfl, bb⟩
        replace F := F.below bb
        replace rb := rb.below bb
        replace L := L.below bb
        clear bb
        try go_wp2_with fail
        clear hHeld
        refine hK'.out _ _ (rh_of F) (fun hHeld => ?_)
        clear hK' KK
        try simp only [List.setIfInBounds_toArray, List.set_cons_zero, List.set_cons_succ]
        refine wpAnyH_take (i := 5) (v := .tuple #[cV p0 q0 r0 s0, .bool v0]) rfl (by kernel_rfl) (by kernel_rfl) (by kernel_rfl) (fun _ _ _ h => h) (Or.inl ⟨by kernel_rfl, ?_⟩) hHeld ?_
        · intro w' hSw; go_simp
        try simp only [Act.put, List.setIfInBounds_toArray, List.set_cons_zero, List.set_cons_succ, List.getElem_toArray, List.getElem_cons_succ, List.getElem_cons_zero]
        refine wpAnyH_take (i := 6) (v := cV p0 q0 r0 s0) rfl (by kernel_rfl) (by kernel_rfl) (by kernel_rfl) (fun _ _ _ h => h) (Or.inl ⟨by kernel_rfl, ?_⟩) hHeld ?_
        · intro w' hSw; go_simp
        try simp only [Act.put, List.setIfInBounds_toArray, List.set_cons_zero, List.set_cons_succ, List.getElem_toArray, List.getElem_cons_succ, List.getElem_cons_zero]
        refine wpAnyH_take (i := 7) (v := .bool v0) rfl (by kernel_rfl) (by kernel_rfl) (by kernel_rfl) (fun _ _ _ h => h) (Or.inl ⟨by kernel_rfl, ?_⟩) hHeld ?_
        · intro w' hSw; go_simp
        try simp only [Act.put, List.setIfInBounds_toArray, List.set_cons_zero, List.set_cons_succ, List.getElem_toArray, List.getElem_cons_succ, List.getElem_cons_zero]
        refine wpAnyH_ready (rs := [9]) (by kernel_rfl) (by simp) ?_
        refine AllReadyH.cons rfl (fun KK hK' => ?_) AllReadyH.nil
        obtain ⟨y0, y1, y2, y3, g0, g1, g2, g3⟩ := rb.open4
        go_simp
        obtain ⟨u9, hu9, rb9, F9⟩ := s_fill F hp rb (.int .i64 p0) (.int .i64 q0) (.int .i64 r0) (.int .i64 s0)
        rw [hu9]
        clear hu9 rb y0 y1 y2 y3 g0 g1 g2 g3 F
        have F := F9
        have rb := rb9
        clear F9 rb9
        clear hHeld
        refine hK'.out _ _ (rh_of F) (fun hHeld => ?_)
        clear hK' KK
        try simp only [List.setIfInBounds_toArray, List.set_cons_zero, List.set_cons_succ]
        refine wpAnyH_take (i := 10) (v := .bool v0) rfl (by kernel_rfl) (by kernel_rfl) (by kernel_rfl) (fun _ _ _ h => h) (Or.inl ⟨by kernel_rfl, ?_⟩) hHeld ?_
        · intro w' hSw; go_simp
        try simp only [Act.put, List.setIfInBounds_toArray, List.set_cons_zero, List.set_cons_succ, List.getElem_toArray, List.getElem_cons_succ, List.getElem_cons_zero]
        refine wpAnyH_done (by kernel_rfl) ?_ _
        go_wp2_with fail
        go_meet
        case rel => exact ⟨p, rfl, rfl, rb, F.lw⟩
    case rest =>
      obtain ⟨g, rfl, rfl, rg, G⟩ := hcut
      go_wp2_with fail
      refine (toAtomS_any G.2.1 hsh).mono ?_
      rintro e w2 ⟨g2, rfl, L2, b2⟩
      replace G := G.below b2
      replace rg := rg.below b2
      clear b2
      obtain ⟨e0, e1, e2, -⟩ := G.1.open3
      go_wp2_with fail
      refine (toHkl_any _ _ _ _).mono ?_
      rintro e w3 ⟨rfl, b3⟩
      replace G := G.below b3
      replace rg := rg.below b3
      replace L2 := L2.below b3
      clear b3 e0 e1 e2
      go_wp2_with fail
      refine (IM _ _ _ L2 G.2.2.1).mono ?_
      rintro e w4 ⟨rfl, b4⟩
      replace G := G.below b4
      replace rg := rg.below b4
      replace L2 := L2.below b4
      clear b4 SP IM
      obtain ⟨y0, y1, y2, y3, -⟩ := rg.open4
      have hkk : (v0 != v0) = false := by simp
      have lg := rg.lt
      go_wp2_with (go_at_call 11; refine (eqCycB_any _ _ _ _ _).mono ?_; rintro e w5 ⟨rfl, b5⟩)
      have b6 : Below w4.heap.size w4 w5 := (below_alloc _ _).trans (b5.mono (by simp))
      replace G := G.below b6
      replace L2 := L2.below b6
      clear b5 b6 y0 y1 y2 y3 lg rg
      refine (toAtomS_any G.2.1 hsh).mono ?_
      rintro e w6 ⟨g6, rfl, L6, b6⟩
      replace G := G.below b6
      go_wp2_with fail
      refine (eqAtomS_true (L2.below b6) L6 hsh).mono ?_
      rintro e w7 ⟨rfl, b7⟩
      replace G := G.below b7
      clear b6 b7 L2 L6
      go_wp2
      go_ret
      exact ⟨rfl, G.2.2.2⟩
end Go.Proofs.YtedchpohbhmjhabDoor
