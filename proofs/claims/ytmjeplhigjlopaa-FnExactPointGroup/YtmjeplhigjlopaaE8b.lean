/-
  The table of a group; Table by the specification: walked.
-/
import Derived.Test.YtmjeplhigjlopaaE8a
import Derived.Test.YtmjeplhigjlopaaMQ
import Derived.Test.YtmjeplhigjlopaaE7a
import Derived.Test.YtmjeplhigjlopaaME
namespace Go.Proofs.Ytmjeplhigjlopaa
open Go.RowKit

theorem news1 {w : World} {q : Nat} {x : Value} {t : TypeId} (a : At t w q #[x]) : ∀ j u, ([x] : List Value)[j]? = some u → w.cell? ((⟨q, 0, none⟩ : Addr).add j) = some u := by
  intro j u hu
  have h2 := a.cell j (v := u) (by simpa using hu)
  by_cases e : j = 0
  · subst e; simpa [Addr.add] using h2
  · simpa [Addr.add, e] using h2
/-- The place of an operator in a list. -/
noncomputable def plc (n : Nat) (A : Nat → OpD) (v : Value) : Nat := @dite _ (∃ j, j < n ∧ kV (A j).key = v) (Classical.propDecidable _) (fun h => Classical.choose h) (fun _ => 0)
theorem plc_eq {n j : Nat} {A : Nat → OpD} {v : Value} (hR : Rises n A) (hj : j < n) (e : kV (A j).key = v) : plc n A v = j := by
  have h : ∃ j, j < n ∧ kV (A j).key = v := ⟨j, hj, e⟩
  have h1 : plc n A v = Classical.choose h := by unfold plc; rw [dif_pos h]
  obtain ⟨h2, h3⟩ := Classical.choose_spec h
  rw [← h1] at h2 h3
  have h4 := kV_inj.1 (h3.trans e.symm)
  rcases Nat.lt_trichotomy (plc n A v) j with h5 | h5 | h5
  · have := hR.lt h5 hj; omega
  · exact h5
  · have := hR.lt h5 h2
    have h6 := kV_inj.1 (e.trans h3.symm)
    omega
/-- Row by row the places of the products. -/
noncomputable def tab (n : Nat) (A : Nat → OpD) (t : Nat) : Int := (plc n A (kV (mulQ (A (t / n)).key (A (t % n)).key)) : Nat)
theorem tab_at {n i k : Nat} (A : Nat → OpD) (hk : k < n) : tab n A (i * n + k) = (plc n A (kV (mulQ (A i).key (A k).key)) : Nat) := by
  have h1 : (i * n + k) / n = i := by rw [Nat.mul_comm, Nat.mul_add_div (by omega), Nat.div_eq_of_lt hk]; omega
  have h2 : (i * n + k) % n = k := by rw [Nat.mul_comm, Nat.mul_add_mod, Nat.mod_eq_of_lt hk]
  unfold tab
  rw [h1, h2]
def ic (f : Nat → Int) (n : Nat) : List Value := (List.range n).map (fun i => Value.int .i64 (f i))
theorem ic_len (f : Nat → Int) (n : Nat) : (ic f n).length = n := by simp [ic]
theorem ic_next (f : Nat → Int) (n : Nat) : ic f (n + 1) = ic f n ++ [.int .i64 (f n)] := by simp [ic, List.range_succ]
/-- A list of numbers that grows, in memory of its own. -/
structure IntG (w : World) (lo : Nat) (v : Value) (n : Nat) (f : Nat → Int) : Prop where
  row : w.ownsRow lo 2 1 v n (ic f n)
  nn : v ≠ .slice none 0 0
theorem IntG.below {w w' : World} {lo n : Nat} {v : Value} {f : Nat → Int} (h : IntG w lo v n f) (hb : Below w.heap.size w w') : IntG w' lo v n f := ⟨own_below h.row hb, h.nn⟩
theorem intG_new {w W : World} {f : Nat → Int} (a1 : At 2 W w.heap.size #[]) : IntG W w.heap.size (.slice (some ⟨w.heap.size, 0, none⟩) 0 0) 0 f := ⟨⟨rfl, .inr ⟨w.heap.size, 0, #[], rfl, Nat.le_refl _, a1, Nat.le_refl _, Nat.zero_le _, rfl, rfl⟩⟩, ne_nil _ _ _⟩
theorem IntG.arr {w : World} {lo n : Nat} {v : Value} {f : Nat → Int} (h : IntG w lo v n f) : ∃ g c, v = .slice (some ⟨g, 0, none⟩) n c ∧ Arr w lo w.heap.size v n f ∧ Ints w g 0 n f ∧ g < w.heap.size := by
  rcases h.row.2 with ⟨h1, _⟩ | ⟨g, c, cur, rfl, hb, hh, h3, h4, h5, h6⟩
  · exact absurd h1 h.nn
  · have hc : ∀ i, i < n → cur[i]? = some (.int .i64 (f i)) := fun i hi => by
      have := congrArg (fun l => l[i]?) h6
      simp only [List.getElem?_take, Nat.mul_one] at this
      rw [if_pos hi] at this
      simpa [ic, hi] using this
    refine ⟨g, c, rfl, .inr ⟨g, c, rfl, hb, (Array.getElem?_eq_some_iff.1 hh).1, by omega, cur, hh, by omega, hc⟩, fun i hi => ?_, (Array.getElem?_eq_some_iff.1 hh).1⟩
    have a : At 2 w g cur := hh
    rw [Nat.zero_add]
    exact a.cell i (hc i hi)
theorem IntG.next {w' : World} {lo n : Nat} {v' : Value} {f : Nat → Int} (hrow : w'.ownsRow lo 2 1 v' (n + 1) (ic f n ++ [.int .i64 (f n)])) (hne : v' ≠ .slice none 0 0) : IntG w' lo v' (n + 1) f := ⟨by rw [ic_next]; exact hrow, hne⟩
/-- What Table tells. -/
def TabP (w : World) (lo : Nat) (v : Value) (n : Nat) (A : Nat → OpD) : Prop := (isG n A ∧ IntG w lo v (n * n) (tab n A)) ∨ (¬ isG n A ∧ IntG w lo v 0 (tab n A))
theorem TabP.lower {w : World} {lo lo' n : Nat} {v : Value} {A : Nat → OpD} (h : TabP w lo v n A) (hl : lo' ≤ lo) : TabP w lo' v n A := by
  have low : ∀ {m : Nat}, IntG w lo v m (tab n A) → IntG w lo' v m (tab n A) := fun h => ⟨by
    obtain ⟨e0, h1 | ⟨g, c, cur, e, hb, r⟩⟩ := h.row
    · exact ⟨e0, .inl h1⟩
    · exact ⟨e0, .inr ⟨g, c, cur, e, Nat.le_trans hl hb, r⟩⟩, h.nn⟩
  exact h.imp (fun h => ⟨h.1, low h.2⟩) (fun h => ⟨h.1, low h.2⟩)
set_option maxRecDepth 100000 in
set_option maxHeartbeats 3000000 in
theorem specTable_any {w : World} {g n c : Nat} {A : Nat → OpD} (hL : OpsL w g n A) (hn : n ≤ 1048576) :
    Calls Try.prog 24 #[.slice (some ⟨g, 0, none⟩) n c] w fun e w' => (∃ v, e = .returned v ∧ TabP w' w.heap.size v n A) ∧ Below w.heap.size w w' := by
  have hbs : ∀ w, (Instr.buildSlice 32 0 #[]).run Try.prog w = .ok (.slice (some ⟨w.heap.size, 0, none⟩) 0 0) (w.alloc (.cells #[] 2)) := fun _ => by kernel_rfl
  obtain ⟨i0, hi0, hz0, hz1, hz2⟩ := info_parts Try.info2
  obtain ⟨W2, hW2, a2, B2, -⟩ := boxed w 2 #[]
  obtain ⟨p2, hp2⟩ : ∃ q, w.heap.size = q := ⟨_, rfl⟩
  have o1 : Hid (IntG W2 w.heap.size (.slice (some ⟨p2, 0, none⟩) 0 0) 0 (tab n A)) := hp2 ▸ intG_new a2
  clear a2
  go_enter Try.func24, Try.ntmps24
  go_wp2_with fail
  refine (groupOk_any (hL.below B2) hn).mono ?_
  rintro e w3 ⟨⟨r, rfl, hr⟩, b3⟩
  have o3 : Hid (IntG w3 w.heap.size (.slice (some ⟨p2, 0, none⟩) 0 0) 0 (tab n A)) := o1.out.below b3
  replace B2 := B2.trans (b3.mono B2.size)
  clear o1 b3 hW2 hp2
  cases r
  · have hno : Hid (¬ isG n A) := fun e => absurd (hr.2 e) (by decide)
    clear hr
    go_wp2
    go_ret
    exact ⟨⟨_, rfl, .inr ⟨hno.out, o3.out⟩⟩, B2⟩
  have HG : Hid (isG n A) := hr.1 rfl
  have h192 : n ≤ 192 := HG.out.1
  have hn' : (n : Int) ≤ 192 := by omega
  have HL : Hid (OpsL w g n A) := hL
  clear hr hn hL
  go_wp2
  go_loopw [3, 4] (fun v s wr => ∃ i : Nat, i ≤ n ∧ s = .int .i64 (i : Int) ∧ Hid (IntG wr w.heap.size v (i * n) (tab n A)) ∧ Below w.heap.size w wr) (fun _ s _ => n - (intOf s).toNat)
  case atStart => exact ⟨0, Nat.zero_le _, rfl, by rw [Nat.zero_mul]; exact o3, B2⟩
  case round =>
    clear o3 B2
    obtain ⟨i, hi, rfl, own, B⟩ := hrel
    by_cases hlt : i < n
    · have hlt' : (i : Int) < (n : Int) := by omega
      go_wp2
      go_loopw [3, 5] (fun v s wr => ∃ k : Nat, k ≤ n ∧ s = .int .i64 (k : Int) ∧ Hid (IntG wr w.heap.size v (i * n + k) (tab n A)) ∧ Below w.heap.size w wr) (fun _ s _ => n - (intOf s).toNat)
      case atStart => exact ⟨0, Nat.zero_le _, rfl, own, B⟩
      case round =>
        clear own B
        obtain ⟨k, hk, rfl, own, B⟩ := hrel
        by_cases hkn : k < n
        · have hk' : (k : Int) < (n : Int) := by omega
          obtain ⟨f1, f2, f3⟩ := HG.out.2.1 i hlt
          obtain ⟨f4, f5, f6⟩ := HG.out.2.1 k hkn
          obtain ⟨a1, c1, a2, c2, e1, e2, s1, s2⟩ := HL.out.2 i hlt
          obtain ⟨b1, d1, b2, d2, e3, e4, s3, s4⟩ := HL.out.2 k hkn
          rw [f1] at e1 s1
          rw [f2] at e2 s2
          rw [f4] at e3 s3
          rw [f5] at e4 s4
          rcases s1 with s1 | ⟨x1, y1, rfl, l1, I1⟩
          · omega
          rcases s2 with s2 | ⟨x2, y2, rfl, l2, I2⟩
          · omega
          rcases s3 with s3 | ⟨x3, y3, rfl, l3, I3⟩
          · omega
          rcases s4 with s4 | ⟨x4, y4, rfl, l4, I4⟩
          · omega
          have CLi : Hid (∀ wq, Kb w wq → wq.cell? ⟨g, i * 2, none⟩ = some (.slice (some ⟨x1, y1, none⟩) 9 c1) ∧ wq.cell? ⟨g, i * 2 + 1, none⟩ = some (.slice (some ⟨x2, y2, none⟩) 3 c2)) := fun wq hq => ⟨(hq.cell (p := ⟨g, i * 2, none⟩) HL.out.1).trans e1, (hq.cell (p := ⟨g, i * 2 + 1, none⟩) HL.out.1).trans e2⟩
          have CLk : Hid (∀ wq, Kb w wq → wq.cell? ⟨g, k * 2, none⟩ = some (.slice (some ⟨x3, y3, none⟩) 9 d1) ∧ wq.cell? ⟨g, k * 2 + 1, none⟩ = some (.slice (some ⟨x4, y4, none⟩) 3 d2)) := fun wq hq => ⟨(hq.cell (p := ⟨g, k * 2, none⟩) HL.out.1).trans e3, (hq.cell (p := ⟨g, k * 2 + 1, none⟩) HL.out.1).trans e4⟩
          have CM : Hid (∀ wq, Kb w wq → Calls Try.prog 53 #[.agg #[.slice (some ⟨x1, y1, none⟩) 9 c1, .slice (some ⟨x2, y2, none⟩) 3 c2], .agg #[.slice (some ⟨x3, y3, none⟩) 9 d1, .slice (some ⟨x4, y4, none⟩) 3 d2]] wq fun e w' => ∃ q1 m1 q2 m2, e = .returned (.agg #[.slice q1 9 m1, .slice q2 3 m2]) ∧ Src w' q1 9 (mulM (A i).f (A k).f) ∧ Src w' q2 3 (behV (A i).f (A i).h (A k).h) ∧ Below wq.heap.size wq w') := fun wq hq => by
            refine (l3Mul_any c1 c2 d1 d2 (I1.below l1 hq) (I2.below l2 hq) (I3.below l3 hq) (I4.below l4 hq) (Nat.lt_of_lt_of_le l1 hq.size) (Nat.lt_of_lt_of_le l2 hq.size) (Nat.lt_of_lt_of_le l3 hq.size) (Nat.lt_of_lt_of_le l4 hq.size) f3 f6).mono ?_
            rintro e w' ⟨o, rfl, T4, b4⟩
            obtain ⟨q1, m1, q2, m2, rfl, t1, t2⟩ := T4.src
            exact ⟨q1, m1, q2, m2, rfl, t1, t2, b4⟩
          have CA : Hid (∀ vv, AtOk n A (cat 9 (mulM (A i).f (A k).f) (behV (A i).f (A i).h (A k).h)) vv → vv = tab n A (i * n + k)) := fun vv hat => by
            obtain ⟨j, hj, he⟩ := HG.out.2.2.2.2 i k hlt hkn
            rcases hat with ⟨-, hno⟩ | ⟨t, rfl, ht, he⟩
            · exact absurd he (hno HG.out.2.2.1 j hj)
            · rw [tab_at A hkn, plc_eq HG.out.2.2.1 ht ((kV_inj.2 he).trans (mulK_key (A i) (A k)))]
          have htb : i * n + k ≤ 40000 := by
            have h1 : i * n ≤ 192 * 192 := Nat.mul_le_mul (by omega) (by omega)
            omega
          obtain ⟨tt, htt⟩ : ∃ t, i * n + k = t := ⟨_, rfl⟩
          rw [htt] at CA htb own
          have HT : Hid (i * n + k = tt) := htt
          obtain ⟨g3, c3, e5, -⟩ := own.out.arr
          subst e5
          clear e1 e2 e3 e4 I1 I2 I3 I4 l1 l2 l3 l4 f1 f2 f3 f4 f5 f6 htt
          obtain ⟨TV, hTV⟩ : ∃ x, tab n A tt = x := ⟨_, rfl⟩
          rw [hTV] at CA
          go_wp2_with fail
          obtain ⟨u0, hu0, bb⟩ : ∃ uu, wr.drew = uu ∧ Below wr.heap.size wr uu := ⟨_, rfl, (Below.refl _ _).drew⟩
          replace own := hid_of (own.out.below bb)
          have bu : Kb w u0 := B.trans (bb.mono B.size)
          clear bb
          refine wp_region_held_drew (S := Kb w) (by kernel_rfl) (by rw [hu0]; exact bu) (fun hHeld => ?_)
          rw [hu0] at hHeld ⊢
          clear hu0
          change wpAnyH _ _ _ _ _ 15 #[false, false, false, false, false, false, false, false, false, false, false, false, false, false, false] _ _
          refine wpAnyH_take (i := 0) (v := .slice ((some ⟨g3, 0, none⟩)) tt c3) rfl (by kernel_rfl) (by kernel_rfl) (by kernel_rfl) (fun _ _ _ h => h) (Or.inl ⟨by kernel_rfl, ?_⟩) hHeld ?_
          · intro w' hSw; go_simp
          try simp only [Act.put, List.setIfInBounds_toArray, List.set_cons_zero, List.set_cons_succ, List.getElem_toArray, List.getElem_cons_zero]
          refine wpAnyH_take (i := 1) (v := .slice ((some ⟨g, 0, none⟩)) n c) rfl (by kernel_rfl) (by kernel_rfl) (by kernel_rfl) (fun _ _ _ h => h) (Or.inl ⟨by kernel_rfl, ?_⟩) hHeld ?_
          · intro w' hSw; go_simp
          try simp only [Act.put, List.setIfInBounds_toArray, List.set_cons_zero, List.set_cons_succ, List.getElem_toArray, List.getElem_cons_succ, List.getElem_cons_zero]
          refine wpAnyH_take (i := 2) (v := .slice ((some ⟨g, 0, none⟩)) n c) rfl (by kernel_rfl) (by kernel_rfl) (by kernel_rfl) (fun _ _ _ h => h) (Or.inl ⟨by kernel_rfl, ?_⟩) hHeld ?_
          · intro w' hSw; go_simp
          try simp only [Act.put, List.setIfInBounds_toArray, List.set_cons_zero, List.set_cons_succ, List.getElem_toArray, List.getElem_cons_succ, List.getElem_cons_zero]
          refine wpAnyH_take (i := 3) (v := .int .i64 ((i : Int))) rfl (by kernel_rfl) (by kernel_rfl) (by kernel_rfl) (fun _ _ _ h => h) (Or.inl ⟨by kernel_rfl, ?_⟩) hHeld ?_
          · intro w' hSw; go_simp
          try simp only [Act.put, List.setIfInBounds_toArray, List.set_cons_zero, List.set_cons_succ, List.getElem_toArray, List.getElem_cons_succ, List.getElem_cons_zero]
          refine wpAnyH_take (i := 4) (v := .pointer (some ⟨g, i * 2, none⟩)) rfl (by kernel_rfl) (by kernel_rfl) (by kernel_rfl) (fun _ _ _ h => h) (Or.inl ⟨by kernel_rfl, ?_⟩) hHeld ?_
          · intro w' hSw; go_simp
          try simp only [Act.put, List.setIfInBounds_toArray, List.set_cons_zero, List.set_cons_succ, List.getElem_toArray, List.getElem_cons_succ, List.getElem_cons_zero]
          refine wpAnyH_take (i := 5) (v := .agg #[.slice (some ⟨x1, y1, none⟩) 9 c1, .slice (some ⟨x2, y2, none⟩) 3 c2]) rfl (by kernel_rfl) (by kernel_rfl) (by kernel_rfl) (fun _ _ _ h => h) (Or.inl ⟨by kernel_rfl, ?_⟩) hHeld ?_
          · intro w' hSw; obtain ⟨z0, z1⟩ := CLi.out _ hSw; go_simp
          try simp only [Act.put, List.setIfInBounds_toArray, List.set_cons_zero, List.set_cons_succ, List.getElem_toArray, List.getElem_cons_succ, List.getElem_cons_zero]
          refine wpAnyH_take (i := 6) (v := .slice ((some ⟨g, 0, none⟩)) n c) rfl (by kernel_rfl) (by kernel_rfl) (by kernel_rfl) (fun _ _ _ h => h) (Or.inl ⟨by kernel_rfl, ?_⟩) hHeld ?_
          · intro w' hSw; go_simp
          try simp only [Act.put, List.setIfInBounds_toArray, List.set_cons_zero, List.set_cons_succ, List.getElem_toArray, List.getElem_cons_succ, List.getElem_cons_zero]
          refine wpAnyH_take (i := 7) (v := .int .i64 ((k : Int))) rfl (by kernel_rfl) (by kernel_rfl) (by kernel_rfl) (fun _ _ _ h => h) (Or.inl ⟨by kernel_rfl, ?_⟩) hHeld ?_
          · intro w' hSw; go_simp
          try simp only [Act.put, List.setIfInBounds_toArray, List.set_cons_zero, List.set_cons_succ, List.getElem_toArray, List.getElem_cons_succ, List.getElem_cons_zero]
          refine wpAnyH_take (i := 8) (v := .pointer (some ⟨g, k * 2, none⟩)) rfl (by kernel_rfl) (by kernel_rfl) (by kernel_rfl) (fun _ _ _ h => h) (Or.inl ⟨by kernel_rfl, ?_⟩) hHeld ?_
          · intro w' hSw; go_simp
          try simp only [Act.put, List.setIfInBounds_toArray, List.set_cons_zero, List.set_cons_succ, List.getElem_toArray, List.getElem_cons_succ, List.getElem_cons_zero]
          refine wpAnyH_take (i := 9) (v := .agg #[.slice (some ⟨x3, y3, none⟩) 9 d1, .slice (some ⟨x4, y4, none⟩) 3 d2]) rfl (by kernel_rfl) (by kernel_rfl) (by kernel_rfl) (fun _ _ _ h => h) (Or.inl ⟨by kernel_rfl, ?_⟩) hHeld ?_
          · intro w' hSw; obtain ⟨z0, z1⟩ := CLk.out _ hSw; go_simp
          try simp only [Act.put, List.setIfInBounds_toArray, List.set_cons_zero, List.set_cons_succ, List.getElem_toArray, List.getElem_cons_succ, List.getElem_cons_zero]
          refine wpAnyH_ready (rs := [10]) (by kernel_rfl) (by simp) ?_
          refine AllReadyH.cons rfl (fun KK hK' => ?_) AllReadyH.nil
          go_simp
          refine (CM.out _ bu).mono ?_
          rintro e u1 ⟨q1, m1, q2, m2, rfl, t1, t2, bb⟩
          replace own := hid_of (own.out.below bb)
          replace bu : Kb w u1 := bu.trans (bb.mono bu.size)
          clear bb
          try go_wp2_with fail
          clear hHeld
          refine hK'.out _ _ (bu) (fun hHeld => ?_)
          clear hK' KK
          try simp only [List.setIfInBounds_toArray, List.set_cons_zero, List.set_cons_succ]
          refine wpAnyH_ready (rs := [11]) (by kernel_rfl) (by simp) ?_
          refine AllReadyH.cons rfl (fun KK hK' => ?_) AllReadyH.nil
          go_simp
          refine (l4At_any (HL.out.below bu) HG.out.2.1 t1 t2 (by omega)).mono ?_
          rintro e u2 ⟨vv, rfl, hat, bb⟩
          obtain rfl := (CA.out _ hat)
          clear hat t1 t2
          replace own := hid_of (own.out.below bb)
          replace bu : Kb w u2 := bu.trans (bb.mono bu.size)
          clear bb
          try go_wp2_with fail
          clear hHeld
          refine hK'.out _ _ (bu) (fun hHeld => ?_)
          clear hK' KK
          try simp only [List.setIfInBounds_toArray, List.set_cons_zero, List.set_cons_succ]
          refine wpAnyH_ready (rs := [12]) (by kernel_rfl) (by simp) ?_
          refine AllReadyH.cons rfl (fun KK hK' => ?_) AllReadyH.nil
          go_simp
          obtain ⟨u3, hUU, A9, bb, -⟩ := boxed u2 2 #[.int .i64 vv]
          try rw [hUU]
          obtain ⟨gA, hgA⟩ : ∃ z, u2.heap.size = z := ⟨_, rfl⟩
          rw [hgA] at A9 ⊢
          replace own := hid_of (own.out.below bb)
          replace bu : Kb w u3 := bu.trans (bb.mono bu.size)
          clear bb hUU hgA
          clear hHeld
          refine hK'.out _ _ (bu) (fun hHeld => ?_)
          clear hK' KK
          try simp only [List.setIfInBounds_toArray, List.set_cons_zero, List.set_cons_succ]
          refine wpAnyH_ready (rs := [13]) (by kernel_rfl) (by simp) ?_
          refine AllReadyH.cons rfl (fun KK hK' => ?_) AllReadyH.nil
          have hs5 : w.heap.size ≤ u3.heap.size := bu.size
          refine step_append_at _ (by rfl) _ _ _ (by rfl) w.heap.size 2 i0 _ 1 8 Try.underlying32 hi0 hz0 hz1 hz2 rfl (by omega) (.slice (some ⟨g3, 0, none⟩) tt c3) tt (ic (tab n A) tt) (by rfl) own.out.row ⟨gA, 0, none⟩ 1 1 [.int .i64 vv] (by rfl) (by rfl) (news1 A9) (by intro u hu; simp at hu; subst hu; rfl) (by unfold maxLen; omega) (by omega) hs5 ?_
          intro v2 w9 hown2 hgrow2 hne2 _hat
          rw [← hTV] at hown2
          have OF : Hid (IntG w9 w.heap.size v2 (tt + 1) (tab n A)) := IntG.next hown2 (fun e => by have := (hne2.1 e).2; omega)
          replace bu : Kb w w9 := bu.grown hgrow2 hs5 (fun x hx => ownBlock_ge own.out.row hx)
          clear hown2 hgrow2 hne2 _hat A9 hs5 own
          clear hHeld
          refine hK'.out _ _ (bu) (fun hHeld => ?_)
          clear hK' KK
          try simp only [List.setIfInBounds_toArray, List.set_cons_zero, List.set_cons_succ]
          refine wpAnyH_take (i := 14) (v := v2) rfl (by kernel_rfl) (by kernel_rfl) (by kernel_rfl) (fun _ _ _ h => h) (Or.inl ⟨by kernel_rfl, ?_⟩) hHeld ?_
          · intro w' hSw; go_simp
          try simp only [Act.put, List.setIfInBounds_toArray, List.set_cons_zero, List.set_cons_succ, List.getElem_toArray, List.getElem_cons_succ, List.getElem_cons_zero]
          refine wpAnyH_done (by kernel_rfl) ?_ _
          clear hHeld
          have OF2 : Hid (IntG w9 w.heap.size v2 (i * n + (k + 1)) (tab n A)) := by
            have := OF.out
            rwa [show tt + 1 = i * n + (k + 1) by have := HT.out; omega] at this
          clear OF CLi CLk CM CA
          go_wp2
          exact ⟨⟨k + 1, by omega, by go_num, OF2, bu⟩, by simp [intOf]; omega⟩
        · obtain rfl : k = n := by omega
          have hk' : ¬ (k : Int) < (k : Int) := by omega
          have own2 : Hid (IntG wr w.heap.size u3 ((i + 1) * k) (tab k A)) := by
            have := own.out
            rwa [show i * k + k = (i + 1) * k by rw [Nat.add_mul, Nat.one_mul]] at this
          clear own
          go_wp2
          exact ⟨⟨i + 1, by omega, by go_num, own2, B⟩, by simp [intOf]; omega⟩
    · obtain rfl : i = n := by omega
      have hlt' : ¬ (i : Int) < (i : Int) := by omega
      go_wp2
      go_ret
      exact ⟨⟨_, rfl, .inl ⟨HG.out, own.out⟩⟩, B⟩
end Go.Proofs.Ytmjeplhigjlopaa
