/-
  The law of deduced signs: walked.
-/
import Derived.Test.YtpelbbkkdmlmiaaF15e
import Derived.Test.YtpelbbkkdmlmiaaP15a
import Derived.Maps.AppendAt
namespace Go.Proofs.Ytpelbbkkdmlmiaa
open Go.RowKit

theorem step_append_at {P : Program} (w : World) {ops : Array Oper} {o : Oper} {a : Act} {K : Act → World → Prop} {Q : Exit → Act → World → Prop} {E : Prop} (hgd : o.guard = none) (s x : Operand) (t : TypeId)
    (ho : o.op = .call { callee := .builtin .append, args := #[s, x], argTypes := #[t, t] })
    (base : Nat) (e : TypeId) (i : TypeInfo) (z : Value) (size bytes : Nat) (ht : P.underlying t = some (.slice e)) (hi : P.info? e = some i) (hz : i.zero = some z)
    (hsize : i.size = size) (hby : i.bytes = bytes) (hzs : z.cells.size = size) (hsz : 0 < size)
    (v : Value) (n : Nat) (xs : List Value) (hs : a.eval s = v) (hown : w.ownsRow base e size v n xs)
    (ad : Addr) (m c : Nat) (news : List Value) (hx : a.eval x = .slice (some ad) m c) (hl : news.length = m * size) (hnews : ∀ j u, news[j]? = some u → w.cell? (ad.add j) = some u) (h1 : ∀ u ∈ news, u.oneCell' = true)
    (h63 : n + m ≤ maxLen) (hbytes : (n + m) * bytes ≤ 140737488355328) (hbase : base ≤ w.heap.size)
    (h : ∀ v' w', w'.ownsRow base e size v' (n + m) (xs ++ news) → w.grownBy w' v.ownBlock → (v' = .slice none 0 0 ↔ v = .slice none 0 0 ∧ m = 0) → (v'.ownBlock = v.ownBlock ∨ v'.ownBlock = some w.heap.size) → K (a.put o.dst v') w') :
    if Region.wanted o (yielded ops a.tmps) = true then Oper.wp P o a w K Q else E := by
  have hw : Region.wanted o (yielded ops a.tmps) = true := by simp [Region.wanted, hgd]
  rw [if_pos hw]
  obtain ⟨v', w', hr, h2, h3, h4, h5⟩ := run_append_own_at (P := P) w base t o.type e i z size bytes ht hi hz hsize hby hzs hsz v n xs hown ad m c news hl hnews h1 h63 hbytes hbase
  unfold Oper.wp execOp
  simp only [ho, resolve, invoke, builtin, Sem.run_bind, Sem.run_pure, Result.andThen_ok, List.map_toArray, List.map_cons, List.map_nil, hs, hx, hr]
  exact h v' w' h2 h3 h4 h5
/-- A list of one's own, gathered. -/
structure G4 (w0 w : World) (v : Value) (m : Nat) (l : List Int) : Prop where
  own : w.ownsRow w0.heap.size 49 4 v m (lCells l)
  nn : v ≠ .slice none 0 0
  b : Below w0.heap.size w0 w
theorem G4.below {w0 w w' : World} {v : Value} {m : Nat} {l : List Int} (s : G4 w0 w v m l) (hb : Below w.heap.size w w') : G4 w0 w' v m l := ⟨own_bel s.own hb, s.nn, s.b.trans (hb.mono s.b.size)⟩
theorem G4.grow {w0 w w' : World} {v v' : Value} {m m' : Nat} {l l' : List Int} (s : G4 w0 w v m l) (h1 : w'.ownsRow w0.heap.size 49 4 v' m' (lCells l ++ lCells l')) (hg : w.grownBy w' v.ownBlock) (hv : v' ≠ .slice none 0 0) : G4 w0 w' v' m' (l ++ l') :=
  ⟨by rw [lCells, List.map_append]; exact h1, hv, s.b.grown hg s.b.size (fun k hk => (own_ge s.own hk).1)⟩
theorem G4.open {w0 w : World} {v : Value} {m : Nat} {l : List Int} (s : G4 w0 w v m l) : ∃ g c, v = .slice (some ⟨g, 0, none⟩) m c := by
  rcases s.own.2 with ⟨e1, -⟩ | ⟨gg, cc, cur, e1, -⟩
  · exact absurd e1 s.nn
  · exact ⟨gg, cc, e1⟩
theorem own_recs {w : World} {B g m c : Nat} {l : List Int} (h : w.ownsRow B 49 4 (.slice (some ⟨g, 0, none⟩) m c) m (lCells l)) : Recs 4 w g m (fun i => l.getD i 0) ∧ m ≤ c := by
  rcases h.2 with ⟨h1, _⟩ | ⟨g', c', cur, h1, hb, hh, hc1, hc2, hsz, ht⟩
  · cases h1
  · simp only [Value.slice.injEq, Option.some.injEq, Addr.mk.injEq] at h1
    obtain ⟨⟨rfl, -, -⟩, -, rfl⟩ := h1
    refine ⟨⟨(Array.getElem?_eq_some_iff.1 hh).1, fun i hi => ?_⟩, hc1⟩
    have hl := h.1
    simp only [lCells, List.length_map] at hl
    have a1 : (lCells l)[i]? = some (.int .i64 (l.getD i 0)) := by
      have : i < l.length := by omega
      simp [lCells, this]
    rw [← ht, List.getElem?_take_of_lt hi] at a1
    simpa [World.cell?, hh] using a1
/-- The list with the signs of the sums. -/
def ol (k : Nat) (l : List Int) : Nat → List Int
  | 0 => []
  | i + 1 => ol k l i ++ [l.getD (i * 4) 0, l.getD (i * 4 + 1) 0, l.getD (i * 4 + 2) 0, par k (l.getD (i * 4) 0) (l.getD (i * 4 + 1) 0) (l.getD (i * 4 + 2) 0)]
theorem ol_len (k : Nat) (l : List Int) : ∀ i, (ol k l i).length = i * 4
  | 0 => rfl
  | i + 1 => by rw [ol, List.length_append, ol_len k l i]; simp; omega
theorem getD_app {a b : List Int} {i : Nat} (h : i < a.length) : (a ++ b).getD i 0 = a.getD i 0 := by simp [List.getD, List.getElem?_append_left h]
theorem getD_at {a b : List Int} (j : Nat) : (a ++ b).getD (a.length + j) 0 = b.getD j 0 := by simp [List.getD, List.getElem?_append_right]
theorem ol_evn (k : Nat) (l : List Int) : ∀ n, Evn k n (fun i => (ol k l n).getD i 0)
  | 0 => fun i hi => by omega
  | n + 1 => fun i hi => by
    show (ol k l (n + 1)).getD (i * 4 + 3) 0 = par k ((ol k l (n + 1)).getD (i * 4) 0) ((ol k l (n + 1)).getD (i * 4 + 1) 0) ((ol k l (n + 1)).getD (i * 4 + 2) 0)
    have hl := ol_len k l n
    rw [ol]
    by_cases e : i = n
    · subst e
      have q0 := getD_at (a := ol k l i) (b := [l.getD (i * 4) 0, l.getD (i * 4 + 1) 0, l.getD (i * 4 + 2) 0, par k (l.getD (i * 4) 0) (l.getD (i * 4 + 1) 0) (l.getD (i * 4 + 2) 0)]) 0
      have q1 := getD_at (a := ol k l i) (b := [l.getD (i * 4) 0, l.getD (i * 4 + 1) 0, l.getD (i * 4 + 2) 0, par k (l.getD (i * 4) 0) (l.getD (i * 4 + 1) 0) (l.getD (i * 4 + 2) 0)]) 1
      have q2 := getD_at (a := ol k l i) (b := [l.getD (i * 4) 0, l.getD (i * 4 + 1) 0, l.getD (i * 4 + 2) 0, par k (l.getD (i * 4) 0) (l.getD (i * 4 + 1) 0) (l.getD (i * 4 + 2) 0)]) 2
      have q3 := getD_at (a := ol k l i) (b := [l.getD (i * 4) 0, l.getD (i * 4 + 1) 0, l.getD (i * 4 + 2) 0, par k (l.getD (i * 4) 0) (l.getD (i * 4 + 1) 0) (l.getD (i * 4 + 2) 0)]) 3
      rw [hl] at q0 q1 q2 q3
      obtain ⟨M, hM⟩ : ∃ M, ol k l i ++ [l.getD (i * 4) 0, l.getD (i * 4 + 1) 0, l.getD (i * 4 + 2) 0, par k (l.getD (i * 4) 0) (l.getD (i * 4 + 1) 0) (l.getD (i * 4 + 2) 0)] = M := ⟨_, rfl⟩
      rw [hM] at q0 q1 q2 q3 ⊢
      have r0 : M.getD (i * 4) 0 = l.getD (i * 4) 0 := q0
      have r1 : M.getD (i * 4 + 1) 0 = l.getD (i * 4 + 1) 0 := q1
      have r2 : M.getD (i * 4 + 2) 0 = l.getD (i * 4 + 2) 0 := q2
      have r3 : M.getD (i * 4 + 3) 0 = par k (l.getD (i * 4) 0) (l.getD (i * 4 + 1) 0) (l.getD (i * 4 + 2) 0) := q3
      rw [r0, r1, r2, r3]
    · rw [getD_app (by omega), getD_app (by omega), getD_app (by omega), getD_app (by omega)]
      exact ol_evn k l n i (by omega)
/-- What both sides tell of such a list. -/
theorem deduced (k n : Nat) (f : Nat → Int) (a b c t : Int) (hn : n ≤ 1048576) (he : Evn k n f) :
    ∃ P D : Int, (∀ (w : World) (g cap : Nat), Recs 4 w g n f → n ≤ cap → Calls Try.prog 11 #[.slice (some ⟨g, 0, none⟩) n cap] w fun e w' => e = .returned (.tuple #[.int .i64 P, .int .i64 0]) ∧ Below w.heap.size w w') ∧ (∀ (w : World) (g cap : Nat), Recs 4 w g n f → Calls Try.prog 9 #[.slice (some ⟨g, 0, none⟩) n cap] w fun e w' => e = .returned (.tuple #[.int .i64 P, .int .i64 0]) ∧ Below w.heap.size w w') ∧
    (∀ (w : World) (g cap : Nat), Recs 4 w g n f → n ≤ cap → Calls Try.prog 15 #[.slice (some ⟨g, 0, none⟩) n cap, hV a b c, .int .i64 t] w fun e w' => e = .returned (.int .i64 D) ∧ Below w.heap.size w w') ∧ (∀ (w : World) (g cap : Nat), Recs 4 w g n f → Calls Try.prog 13 #[.slice (some ⟨g, 0, none⟩) n cap, hV a b c, .int .i64 t] w fun e w' => e = .returned (.int .i64 D) ∧ Below w.heap.size w w') ∧ (D = 0 ∨ (D = par k a b c ∧ hkR a b c)) := by
  have hT : ∃ P : Int, (∀ (w : World) (g cap : Nat), Recs 4 w g n f → n ≤ cap → Calls Try.prog 11 #[.slice (some ⟨g, 0, none⟩) n cap] w fun e w' => e = .returned (.tuple #[.int .i64 P, .int .i64 0]) ∧ Below w.heap.size w w') ∧ (∀ (w : World) (g cap : Nat), Recs 4 w g n f → Calls Try.prog 9 #[.slice (some ⟨g, 0, none⟩) n cap] w fun e w' => e = .returned (.tuple #[.int .i64 P, .int .i64 0]) ∧ Below w.heap.size w w') := by
    by_cases ok : SgOk n f
    · have e0 := evn_tM he n (Nat.le_refl _)
      refine ⟨(tP f n n : Int), fun w g cap h hc => ?_, fun w g cap h => ?_⟩
      · have := implTriplet_yes h hc ok
        rwa [e0] at this
      · have := specTriplet_yes (cap := cap) h ok
        rwa [e0] at this
    · exact ⟨0, fun w g cap h hc => implTriplet_no h hn hc ok, fun w g cap h => specTriplet_no h hn ok⟩
  obtain ⟨P, p1, p2⟩ := hT
  by_cases ok : DOk f n a b c t
  · refine ⟨P, ded f n a b c t, p1, p2, fun w g cap h hc => implDeduce_yes h hc ok, fun w g cap h => specDeduce_yes h ok, ?_⟩
    rcases evn_ded he (a := a) (b := b) (c := c) ok.2.2.1 with e | e
    · exact .inl e
    · exact .inr ⟨e, ok.2.1⟩
  · exact ⟨P, 0, p1, p2, fun w g cap h hc => implDeduce_no h hn hc ok, fun w g cap h => specDeduce_no h hn ok, .inl rfl⟩
set_option linter.unusedSimpArgs false in
set_option maxRecDepth 100000 in
set_option maxHeartbeats 12800000 in
theorem deduced_walk {w : World} {a : Option Addr} {len cap : Nat} (hr : Row w w.heap.size a len) :
    Calls Try.prog 7 #[.slice a len cap] w fun e w' => e = .returned (.bool true) ∧ Below w.heap.size w w' := by
  have hbig := fun w => big_any a len cap w hr.1
  by_cases hb : 1048576 < len
  · rw [decide_eq_true hb] at hbig
    go_enter Try.func7, Try.ntmps7
    go_wp2_with (go_at_call 23; refine (hbig _).mono ?_; rintro e w2 ⟨rfl, rfl⟩)
    go_ret
    exact ⟨rfl, Below.refl _ _⟩
  rw [decide_eq_false hb] at hbig
  have hl20 : (len : Int) ≤ 1048576 := by omega
  obtain ⟨k, hk⟩ : ∃ k : Nat, len % 8 = k := ⟨_, rfl⟩
  have hk8 : k < 8 := by omega
  have hkm : Int.tmod (len : Int) 8 = (k : Int) := by rw [Int.tmod_eq_emod_of_nonneg (by omega)]; omega
  clear hk
  obtain ⟨i0, hi0, hz0, hz1, hz2⟩ := info_parts infoSg
  have hbs : ∀ w, (Instr.buildSlice 26 0 #[]).run Try.prog w = .ok (.slice (some ⟨w.heap.size, 0, none⟩) 0 0) (w.alloc (.cells #[] 49)) := fun _ => by kernel_rfl
  go_enter Try.func7, Try.ntmps7
  go_wp2_with fail
  refine (hbig _).mono ?_
  rintro e w0 ⟨rfl, rfl⟩
  go_wp2_with fail
  refine (drawDeduce_any hr).mono ?_
  rintro e w1 ⟨g, c, m, l, x, y, z, t, rfl, hm, hl, R1, b1⟩
  have HL : Hid (BL l) := hl
  clear hl hbig hr
  obtain ⟨V1, hV1, b3, bb1, -⟩ := boxed w1 33 #[.int .i64 x, .int .i64 y, .int .i64 z]
  obtain ⟨q3, hq3⟩ : ∃ r, w1.heap.size = r := ⟨_, rfl⟩
  rw [hq3] at b3
  have hgl : g < V1.heap.size := Nat.lt_of_lt_of_le R1.1 bb1.size
  replace R1 := R1.below bb1
  have B1 := b1.trans (bb1.mono b1.size)
  obtain ⟨V2, hV2, a2, bb2, -⟩ := boxed V1 49 #[]
  have G : G4 V1 V2 (.slice (some ⟨V1.heap.size, 0, none⟩) 0 0) 0 [] := ⟨⟨rfl, .inr ⟨_, 0, #[], rfl, Nat.le_refl _, a2, Nat.le_refl _, Nat.zero_le _, rfl, rfl⟩⟩, (fun h => by cases h), bb2⟩
  have hm' : (m : Int) ≤ 61 := by omega
  clear a2 bb2 bb1 b1
  go_wp2
  clear hV1 hV2 hq3 hbs
  go_loopw [7, 8] (fun s u wr => ∃ i : Nat, i ≤ m ∧ u = .int .i64 (i : Int) ∧ G4 V1 wr s i (ol k l i)) (fun _ u _ => m - (intOf u).toNat)
  case atStart => exact ⟨0, Nat.zero_le _, rfl, G⟩
  case round =>
    clear G
    obtain ⟨i, hi, rfl, G⟩ := hrel
    obtain ⟨g7, c7, rfl⟩ := G.open
    by_cases him : i < m
    · have him' : (i : Int) < (m : Int) := by omega
      have z0' := R1.2 (i * 4) (by omega)
      have z1' := R1.2 (i * 4 + 1) (by omega)
      have z2' := R1.2 (i * 4 + 2) (by omega)
      obtain ⟨X, hX⟩ : ∃ X, l.getD (i * 4) 0 = X := ⟨_, rfl⟩
      obtain ⟨Y, hY⟩ : ∃ Y, l.getD (i * 4 + 1) 0 = Y := ⟨_, rfl⟩
      obtain ⟨Z, hZ⟩ : ∃ Z, l.getD (i * 4 + 2) 0 = Z := ⟨_, rfl⟩
      have rX : r100 X := by rw [← hX]; exact HL.out.at _
      have rY : r100 Y := by rw [← hY]; exact HL.out.at _
      have rZ : r100 Z := by rw [← hZ]; exact HL.out.at _
      have OL : Hid (ol k l (i + 1) = ol k l i ++ [X, Y, Z, par k X Y Z]) := by
        show ol k l (i + 1) = _
        rw [ol, hX, hY, hZ]
      have cX : ∀ {w' : World}, KbP V1 w' → w'.cell? ⟨g, i * 4, none⟩ = some (.int .i64 X) := fun {w'} hb => by rw [← hX]; exact (Below.cell (p := ⟨g, i * 4, none⟩) hb hgl).trans z0'
      have cY : ∀ {w' : World}, KbP V1 w' → w'.cell? ⟨g, i * 4 + 1, none⟩ = some (.int .i64 Y) := fun {w'} hb => by rw [← hY]; exact (Below.cell (p := ⟨g, i * 4 + 1, none⟩) hb hgl).trans z1'
      have cZ : ∀ {w' : World}, KbP V1 w' → w'.cell? ⟨g, i * 4 + 2, none⟩ = some (.int .i64 Z) := fun {w'} hb => by rw [← hZ]; exact (Below.cell (p := ⟨g, i * 4 + 2, none⟩) hb hgl).trans z2'
      have PA := fun w => parity_any k X Y Z w hk8 rX rY rZ
      obtain ⟨Q, hQ⟩ : ∃ Q, par k X Y Z = Q := ⟨_, rfl⟩
      rw [hQ] at PA OL
      clear hX hY hZ z0' z1' z2' hQ rX rY rZ
      have hb2 : ∀ w, (Instr.buildSlice 26 1 #[(0, .agg #[.int .i64 X, .int .i64 Y, .int .i64 Z, .int .i64 Q])]).run Try.prog w = .ok (.slice (some ⟨w.heap.size, 0, none⟩) 1 1) (w.alloc (.cells #[.int .i64 X, .int .i64 Y, .int .i64 Z, .int .i64 Q] 49)) := fun _ => by kernel_rfl
      go_wp2_with fail
      obtain ⟨u0, hu0, bb⟩ : ∃ uu, wr.drew = uu ∧ Below wr.heap.size wr uu := ⟨_, rfl, (Below.refl _ _).drew⟩
      replace G := G.below bb
      have bu : KbP V1 u0 := G.b
      clear bb
      refine wp_region_held_drew (S := KbP V1) (by kernel_rfl) (by rw [hu0]; exact bu) (fun hHeld => ?_)
      rw [hu0] at hHeld ⊢
      clear hu0
      change wpAnyH _ _ _ _ _ 37 #[false, false, false, false, false, false, false, false, false, false, false, false, false, false, false, false, false, false, false, false, false, false, false, false, false, false, false, false, false, false, false, false, false, false, false, false, false] _ _
      refine wpAnyH_take (i := 0) (v := .slice ((some ⟨g7, 0, none⟩)) i c7) rfl (by kernel_rfl) (by kernel_rfl) (by kernel_rfl) (fun _ _ _ h => h) (Or.inl ⟨by kernel_rfl, ?_⟩) hHeld ?_
      · intro w' hSw; go_simp
      try simp only [Act.put, List.setIfInBounds_toArray, List.set_cons_zero, List.set_cons_succ, List.getElem_toArray, List.getElem_cons_zero]
      refine wpAnyH_take (i := 1) (v := .slice ((some ⟨g, 0, none⟩)) m c) rfl (by kernel_rfl) (by kernel_rfl) (by kernel_rfl) (fun _ _ _ h => h) (Or.inl ⟨by kernel_rfl, ?_⟩) hHeld ?_
      · intro w' hSw; go_simp
      try simp only [Act.put, List.setIfInBounds_toArray, List.set_cons_zero, List.set_cons_succ, List.getElem_toArray, List.getElem_cons_succ, List.getElem_cons_zero]
      refine wpAnyH_take (i := 2) (v := .int .i64 ((i : Int))) rfl (by kernel_rfl) (by kernel_rfl) (by kernel_rfl) (fun _ _ _ h => h) (Or.inl ⟨by kernel_rfl, ?_⟩) hHeld ?_
      · intro w' hSw; go_simp
      try simp only [Act.put, List.setIfInBounds_toArray, List.set_cons_zero, List.set_cons_succ, List.getElem_toArray, List.getElem_cons_succ, List.getElem_cons_zero]
      refine wpAnyH_take (i := 3) (v := .pointer (some ⟨g, i * 4, none⟩)) rfl (by kernel_rfl) (by kernel_rfl) (by kernel_rfl) (fun _ _ _ h => h) (Or.inl ⟨by kernel_rfl, ?_⟩) hHeld ?_
      · intro w' hSw; go_simp
      try simp only [Act.put, List.setIfInBounds_toArray, List.set_cons_zero, List.set_cons_succ, List.getElem_toArray, List.getElem_cons_succ, List.getElem_cons_zero]
      refine wpAnyH_take (i := 4) (v := .pointer (some ⟨g, i * 4, none⟩)) rfl (by kernel_rfl) (by kernel_rfl) (by kernel_rfl) (fun _ _ _ h => h) (Or.inl ⟨by kernel_rfl, ?_⟩) hHeld ?_
      · intro w' hSw; go_simp
      try simp only [Act.put, List.setIfInBounds_toArray, List.set_cons_zero, List.set_cons_succ, List.getElem_toArray, List.getElem_cons_succ, List.getElem_cons_zero]
      refine wpAnyH_take (i := 5) (v := .int .i64 (X)) rfl (by kernel_rfl) (by kernel_rfl) (by kernel_rfl) (fun _ _ _ h => h) (Or.inl ⟨by kernel_rfl, ?_⟩) hHeld ?_
      · intro w' hSw; have z0 := cX hSw; go_simp
      try simp only [Act.put, List.setIfInBounds_toArray, List.set_cons_zero, List.set_cons_succ, List.getElem_toArray, List.getElem_cons_succ, List.getElem_cons_zero]
      refine wpAnyH_take (i := 6) (v := .slice ((some ⟨g, 0, none⟩)) m c) rfl (by kernel_rfl) (by kernel_rfl) (by kernel_rfl) (fun _ _ _ h => h) (Or.inl ⟨by kernel_rfl, ?_⟩) hHeld ?_
      · intro w' hSw; go_simp
      try simp only [Act.put, List.setIfInBounds_toArray, List.set_cons_zero, List.set_cons_succ, List.getElem_toArray, List.getElem_cons_succ, List.getElem_cons_zero]
      refine wpAnyH_take (i := 7) (v := .int .i64 ((i : Int))) rfl (by kernel_rfl) (by kernel_rfl) (by kernel_rfl) (fun _ _ _ h => h) (Or.inl ⟨by kernel_rfl, ?_⟩) hHeld ?_
      · intro w' hSw; go_simp
      try simp only [Act.put, List.setIfInBounds_toArray, List.set_cons_zero, List.set_cons_succ, List.getElem_toArray, List.getElem_cons_succ, List.getElem_cons_zero]
      refine wpAnyH_take (i := 8) (v := .pointer (some ⟨g, i * 4, none⟩)) rfl (by kernel_rfl) (by kernel_rfl) (by kernel_rfl) (fun _ _ _ h => h) (Or.inl ⟨by kernel_rfl, ?_⟩) hHeld ?_
      · intro w' hSw; go_simp
      try simp only [Act.put, List.setIfInBounds_toArray, List.set_cons_zero, List.set_cons_succ, List.getElem_toArray, List.getElem_cons_succ, List.getElem_cons_zero]
      refine wpAnyH_take (i := 9) (v := .pointer (some ⟨g, i * 4 + 1, none⟩)) rfl (by kernel_rfl) (by kernel_rfl) (by kernel_rfl) (fun _ _ _ h => h) (Or.inl ⟨by kernel_rfl, ?_⟩) hHeld ?_
      · intro w' hSw; go_simp
      try simp only [Act.put, List.setIfInBounds_toArray, List.set_cons_zero, List.set_cons_succ, List.getElem_toArray, List.getElem_cons_succ, List.getElem_cons_zero]
      refine wpAnyH_take (i := 10) (v := .int .i64 (Y)) rfl (by kernel_rfl) (by kernel_rfl) (by kernel_rfl) (fun _ _ _ h => h) (Or.inl ⟨by kernel_rfl, ?_⟩) hHeld ?_
      · intro w' hSw; have z0 := cY hSw; go_simp
      try simp only [Act.put, List.setIfInBounds_toArray, List.set_cons_zero, List.set_cons_succ, List.getElem_toArray, List.getElem_cons_succ, List.getElem_cons_zero]
      refine wpAnyH_take (i := 11) (v := .slice ((some ⟨g, 0, none⟩)) m c) rfl (by kernel_rfl) (by kernel_rfl) (by kernel_rfl) (fun _ _ _ h => h) (Or.inl ⟨by kernel_rfl, ?_⟩) hHeld ?_
      · intro w' hSw; go_simp
      try simp only [Act.put, List.setIfInBounds_toArray, List.set_cons_zero, List.set_cons_succ, List.getElem_toArray, List.getElem_cons_succ, List.getElem_cons_zero]
      refine wpAnyH_take (i := 12) (v := .int .i64 ((i : Int))) rfl (by kernel_rfl) (by kernel_rfl) (by kernel_rfl) (fun _ _ _ h => h) (Or.inl ⟨by kernel_rfl, ?_⟩) hHeld ?_
      · intro w' hSw; go_simp
      try simp only [Act.put, List.setIfInBounds_toArray, List.set_cons_zero, List.set_cons_succ, List.getElem_toArray, List.getElem_cons_succ, List.getElem_cons_zero]
      refine wpAnyH_take (i := 13) (v := .pointer (some ⟨g, i * 4, none⟩)) rfl (by kernel_rfl) (by kernel_rfl) (by kernel_rfl) (fun _ _ _ h => h) (Or.inl ⟨by kernel_rfl, ?_⟩) hHeld ?_
      · intro w' hSw; go_simp
      try simp only [Act.put, List.setIfInBounds_toArray, List.set_cons_zero, List.set_cons_succ, List.getElem_toArray, List.getElem_cons_succ, List.getElem_cons_zero]
      refine wpAnyH_take (i := 14) (v := .pointer (some ⟨g, i * 4 + 2, none⟩)) rfl (by kernel_rfl) (by kernel_rfl) (by kernel_rfl) (fun _ _ _ h => h) (Or.inl ⟨by kernel_rfl, ?_⟩) hHeld ?_
      · intro w' hSw; go_simp
      try simp only [Act.put, List.setIfInBounds_toArray, List.set_cons_zero, List.set_cons_succ, List.getElem_toArray, List.getElem_cons_succ, List.getElem_cons_zero]
      refine wpAnyH_take (i := 15) (v := .int .i64 (Z)) rfl (by kernel_rfl) (by kernel_rfl) (by kernel_rfl) (fun _ _ _ h => h) (Or.inl ⟨by kernel_rfl, ?_⟩) hHeld ?_
      · intro w' hSw; have z0 := cZ hSw; go_simp
      try simp only [Act.put, List.setIfInBounds_toArray, List.set_cons_zero, List.set_cons_succ, List.getElem_toArray, List.getElem_cons_succ, List.getElem_cons_zero]
      refine wpAnyH_take (i := 16) (v := .int .i64 ((k : Int))) rfl (by kernel_rfl) (by kernel_rfl) (by kernel_rfl) (fun _ _ _ h => h) (Or.inl ⟨by kernel_rfl, ?_⟩) hHeld ?_
      · intro w' hSw; go_simp
      try simp only [Act.put, List.setIfInBounds_toArray, List.set_cons_zero, List.set_cons_succ, List.getElem_toArray, List.getElem_cons_succ, List.getElem_cons_zero]
      refine wpAnyH_take (i := 17) (v := .slice ((some ⟨g, 0, none⟩)) m c) rfl (by kernel_rfl) (by kernel_rfl) (by kernel_rfl) (fun _ _ _ h => h) (Or.inl ⟨by kernel_rfl, ?_⟩) hHeld ?_
      · intro w' hSw; go_simp
      try simp only [Act.put, List.setIfInBounds_toArray, List.set_cons_zero, List.set_cons_succ, List.getElem_toArray, List.getElem_cons_succ, List.getElem_cons_zero]
      refine wpAnyH_take (i := 18) (v := .int .i64 ((i : Int))) rfl (by kernel_rfl) (by kernel_rfl) (by kernel_rfl) (fun _ _ _ h => h) (Or.inl ⟨by kernel_rfl, ?_⟩) hHeld ?_
      · intro w' hSw; go_simp
      try simp only [Act.put, List.setIfInBounds_toArray, List.set_cons_zero, List.set_cons_succ, List.getElem_toArray, List.getElem_cons_succ, List.getElem_cons_zero]
      refine wpAnyH_take (i := 19) (v := .pointer (some ⟨g, i * 4, none⟩)) rfl (by kernel_rfl) (by kernel_rfl) (by kernel_rfl) (fun _ _ _ h => h) (Or.inl ⟨by kernel_rfl, ?_⟩) hHeld ?_
      · intro w' hSw; go_simp
      try simp only [Act.put, List.setIfInBounds_toArray, List.set_cons_zero, List.set_cons_succ, List.getElem_toArray, List.getElem_cons_succ, List.getElem_cons_zero]
      refine wpAnyH_take (i := 20) (v := .pointer (some ⟨g, i * 4, none⟩)) rfl (by kernel_rfl) (by kernel_rfl) (by kernel_rfl) (fun _ _ _ h => h) (Or.inl ⟨by kernel_rfl, ?_⟩) hHeld ?_
      · intro w' hSw; go_simp
      try simp only [Act.put, List.setIfInBounds_toArray, List.set_cons_zero, List.set_cons_succ, List.getElem_toArray, List.getElem_cons_succ, List.getElem_cons_zero]
      refine wpAnyH_take (i := 21) (v := .int .i64 (X)) rfl (by kernel_rfl) (by kernel_rfl) (by kernel_rfl) (fun _ _ _ h => h) (Or.inl ⟨by kernel_rfl, ?_⟩) hHeld ?_
      · intro w' hSw; have z0 := cX hSw; go_simp
      try simp only [Act.put, List.setIfInBounds_toArray, List.set_cons_zero, List.set_cons_succ, List.getElem_toArray, List.getElem_cons_succ, List.getElem_cons_zero]
      refine wpAnyH_take (i := 22) (v := .slice ((some ⟨g, 0, none⟩)) m c) rfl (by kernel_rfl) (by kernel_rfl) (by kernel_rfl) (fun _ _ _ h => h) (Or.inl ⟨by kernel_rfl, ?_⟩) hHeld ?_
      · intro w' hSw; go_simp
      try simp only [Act.put, List.setIfInBounds_toArray, List.set_cons_zero, List.set_cons_succ, List.getElem_toArray, List.getElem_cons_succ, List.getElem_cons_zero]
      refine wpAnyH_take (i := 23) (v := .int .i64 ((i : Int))) rfl (by kernel_rfl) (by kernel_rfl) (by kernel_rfl) (fun _ _ _ h => h) (Or.inl ⟨by kernel_rfl, ?_⟩) hHeld ?_
      · intro w' hSw; go_simp
      try simp only [Act.put, List.setIfInBounds_toArray, List.set_cons_zero, List.set_cons_succ, List.getElem_toArray, List.getElem_cons_succ, List.getElem_cons_zero]
      refine wpAnyH_take (i := 24) (v := .pointer (some ⟨g, i * 4, none⟩)) rfl (by kernel_rfl) (by kernel_rfl) (by kernel_rfl) (fun _ _ _ h => h) (Or.inl ⟨by kernel_rfl, ?_⟩) hHeld ?_
      · intro w' hSw; go_simp
      try simp only [Act.put, List.setIfInBounds_toArray, List.set_cons_zero, List.set_cons_succ, List.getElem_toArray, List.getElem_cons_succ, List.getElem_cons_zero]
      refine wpAnyH_take (i := 25) (v := .pointer (some ⟨g, i * 4 + 1, none⟩)) rfl (by kernel_rfl) (by kernel_rfl) (by kernel_rfl) (fun _ _ _ h => h) (Or.inl ⟨by kernel_rfl, ?_⟩) hHeld ?_
      · intro w' hSw; go_simp
      try simp only [Act.put, List.setIfInBounds_toArray, List.set_cons_zero, List.set_cons_succ, List.getElem_toArray, List.getElem_cons_succ, List.getElem_cons_zero]
      refine wpAnyH_take (i := 26) (v := .int .i64 (Y)) rfl (by kernel_rfl) (by kernel_rfl) (by kernel_rfl) (fun _ _ _ h => h) (Or.inl ⟨by kernel_rfl, ?_⟩) hHeld ?_
      · intro w' hSw; have z0 := cY hSw; go_simp
      try simp only [Act.put, List.setIfInBounds_toArray, List.set_cons_zero, List.set_cons_succ, List.getElem_toArray, List.getElem_cons_succ, List.getElem_cons_zero]
      refine wpAnyH_take (i := 27) (v := .slice ((some ⟨g, 0, none⟩)) m c) rfl (by kernel_rfl) (by kernel_rfl) (by kernel_rfl) (fun _ _ _ h => h) (Or.inl ⟨by kernel_rfl, ?_⟩) hHeld ?_
      · intro w' hSw; go_simp
      try simp only [Act.put, List.setIfInBounds_toArray, List.set_cons_zero, List.set_cons_succ, List.getElem_toArray, List.getElem_cons_succ, List.getElem_cons_zero]
      refine wpAnyH_take (i := 28) (v := .int .i64 ((i : Int))) rfl (by kernel_rfl) (by kernel_rfl) (by kernel_rfl) (fun _ _ _ h => h) (Or.inl ⟨by kernel_rfl, ?_⟩) hHeld ?_
      · intro w' hSw; go_simp
      try simp only [Act.put, List.setIfInBounds_toArray, List.set_cons_zero, List.set_cons_succ, List.getElem_toArray, List.getElem_cons_succ, List.getElem_cons_zero]
      refine wpAnyH_take (i := 29) (v := .pointer (some ⟨g, i * 4, none⟩)) rfl (by kernel_rfl) (by kernel_rfl) (by kernel_rfl) (fun _ _ _ h => h) (Or.inl ⟨by kernel_rfl, ?_⟩) hHeld ?_
      · intro w' hSw; go_simp
      try simp only [Act.put, List.setIfInBounds_toArray, List.set_cons_zero, List.set_cons_succ, List.getElem_toArray, List.getElem_cons_succ, List.getElem_cons_zero]
      refine wpAnyH_take (i := 30) (v := .pointer (some ⟨g, i * 4 + 2, none⟩)) rfl (by kernel_rfl) (by kernel_rfl) (by kernel_rfl) (fun _ _ _ h => h) (Or.inl ⟨by kernel_rfl, ?_⟩) hHeld ?_
      · intro w' hSw; go_simp
      try simp only [Act.put, List.setIfInBounds_toArray, List.set_cons_zero, List.set_cons_succ, List.getElem_toArray, List.getElem_cons_succ, List.getElem_cons_zero]
      refine wpAnyH_take (i := 31) (v := .int .i64 (Z)) rfl (by kernel_rfl) (by kernel_rfl) (by kernel_rfl) (fun _ _ _ h => h) (Or.inl ⟨by kernel_rfl, ?_⟩) hHeld ?_
      · intro w' hSw; have z0 := cZ hSw; go_simp
      try simp only [Act.put, List.setIfInBounds_toArray, List.set_cons_zero, List.set_cons_succ, List.getElem_toArray, List.getElem_cons_succ, List.getElem_cons_zero]
      refine wpAnyH_ready (rs := [32]) (by kernel_rfl) (by simp) ?_
      refine AllReadyH.cons rfl (fun KK hK' => ?_) AllReadyH.nil
      go_simp
      refine (PA _).mono ?_
      rintro e uu ⟨rfl, rfl⟩
      try go_wp2_with fail
      clear hHeld
      refine hK'.out _ _ (bu) (fun hHeld => ?_)
      clear hK' KK
      try simp only [List.setIfInBounds_toArray, List.set_cons_zero, List.set_cons_succ]
      refine wpAnyH_take (i := 33) (v := .agg #[.int .i64 (X), .int .i64 (Y), .int .i64 (Z), .int .i64 (Q)]) rfl (by kernel_rfl) (by kernel_rfl) (by kernel_rfl) (fun _ _ _ h => h) (Or.inl ⟨by kernel_rfl, ?_⟩) hHeld ?_
      · intro w' hSw; go_simp
      try simp only [Act.put, List.setIfInBounds_toArray, List.set_cons_zero, List.set_cons_succ, List.getElem_toArray, List.getElem_cons_succ, List.getElem_cons_zero]
      refine wpAnyH_ready (rs := [34]) (by kernel_rfl) (by simp) ?_
      refine AllReadyH.cons rfl (fun KK hK' => ?_) AllReadyH.nil
      go_simp
      obtain ⟨UU, hUU, A9, bb, -⟩ := boxed u0 49 #[.int .i64 X, .int .i64 Y, .int .i64 Z, .int .i64 Q]
      try rw [hUU]
      obtain ⟨gA, hgA⟩ : ∃ z, u0.heap.size = z := ⟨_, rfl⟩
      rw [hgA] at A9 ⊢
      replace G := G.below bb
      replace bu : KbP V1 UU := bu.trans (bb.mono bu.size)
      clear bb hUU hgA
      clear hHeld
      refine hK'.out _ _ (bu) (fun hHeld => ?_)
      clear hK' KK
      try simp only [List.setIfInBounds_toArray, List.set_cons_zero, List.set_cons_succ]
      refine wpAnyH_ready (rs := [35]) (by kernel_rfl) (by simp) ?_
      refine AllReadyH.cons rfl (fun KK hK' => ?_) AllReadyH.nil
      have hs5 : V1.heap.size ≤ UU.heap.size := bu.size
      refine step_append_at _ (by rfl) _ _ _ (by rfl) V1.heap.size 49 i0 _ 4 32 Try.underlying26 hi0 hz0 hz1 hz2 rfl (by omega) (.slice (some ⟨g7, 0, none⟩) i c7) i (lCells (ol k l i)) (by rfl) G.own ⟨gA, 0, none⟩ 1 1 (lCells [X, Y, Z, Q]) (by rfl) (by rfl) (news4d A9) (lCells_one _) (by unfold maxLen; omega) (by omega) hs5 ?_
      intro v2 w9 hown2 hgrow2 hne2 _hat
      replace G := G.grow hown2 hgrow2 (fun h => G.nn (hne2.1 h).1)
      replace bu : KbP V1 w9 := G.b
      clear hown2 hgrow2 hne2 _hat A9 hs5
      clear hHeld
      refine hK'.out _ _ (bu) (fun hHeld => ?_)
      clear hK' KK
      try simp only [List.setIfInBounds_toArray, List.set_cons_zero, List.set_cons_succ]
      refine wpAnyH_take (i := 36) (v := v2) rfl (by kernel_rfl) (by kernel_rfl) (by kernel_rfl) (fun _ _ _ h => h) (Or.inl ⟨by kernel_rfl, ?_⟩) hHeld ?_
      · intro w' hSw; go_simp
      try simp only [Act.put, List.setIfInBounds_toArray, List.set_cons_zero, List.set_cons_succ, List.getElem_toArray, List.getElem_cons_succ, List.getElem_cons_zero]
      refine wpAnyH_done (by kernel_rfl) ?_ _
      clear hHeld
      go_wp2
      exact ⟨⟨i + 1, by omega, by go_num, by rw [OL.out]; exact G⟩, by simp [intOf]; omega⟩
    · have him' : ¬ (i : Int) < (m : Int) := by omega
      obtain rfl : i = m := by omega
      have EV := ol_evn k l i
      obtain ⟨P, D, tI, tS, dI, dS, hD⟩ := deduced k i (fun j => (ol k l i).getD j 0) x y z t (by omega) EV
      have HD : Hid (D = 0 ∨ (D = par k x y z ∧ hkR x y z)) := hD
      clear EV hD R1
      obtain ⟨R7, hc7⟩ := own_recs G.own
      have b3' := b3.below G.b
      have B7 := B1.trans (G.b.mono B1.size)
      have hbs : ∀ w, (Instr.buildSlice 26 0 #[]).run Try.prog w = .ok (.slice (some ⟨w.heap.size, 0, none⟩) 0 0) (w.alloc (.cells #[] 49)) := fun _ => by kernel_rfl
      obtain ⟨V8, hV8, a8, bb8, -⟩ := boxed wr 49 #[]
      have o8 : V8.ownsRow wr.heap.size 49 4 (.slice (some ⟨wr.heap.size, 0, none⟩) 0 0) 0 [] := ⟨rfl, .inr ⟨_, 0, #[], rfl, Nat.le_refl _, a8, Nat.le_refl _, Nat.zero_le _, rfl, rfl⟩⟩
      have R8 := R7.below bb8
      have N8 : ∀ (j : Nat) (u : Value), (lCells (ol k l i))[j]? = some u → V8.cell? ((⟨g7, 0, none⟩ : Addr).add j) = some u := fun j u hu => by
        have hj : j < i * 4 := by
          have := (List.getElem?_eq_some_iff.1 hu).1
          simp only [lCells, List.length_map, ol_len] at this
          exact this
        have e2 := R8.2 j hj
        have e3 : (lCells (ol k l i))[j]? = some (.int .i64 ((ol k l i).getD j 0)) := by
          have : j < (ol k l i).length := by rw [ol_len]; exact hj
          simp [lCells, this]
        rw [e3] at hu
        cases hu
        have e4 : (⟨g7, 0, none⟩ : Addr).add j = ⟨g7, j, none⟩ := by
          by_cases e : j = 0
          · subst e; simp [Addr.add]
          · simp [Addr.add, e]
        rw [e4]
        exact e2
      have hll : (lCells (ol k l i)).length = i * 4 := by rw [lCells, List.length_map, ol_len]
      have hs8 : wr.heap.size ≤ V8.heap.size := bb8.size
      have HS8 : Hid (wr.heap.size ≤ V8.heap.size) := hs8
      obtain ⟨q8, hq8⟩ : ∃ q, wr.heap.size = q := ⟨_, rfl⟩
      have HQ8 : Hid (wr.heap.size = q8) := hq8
      rw [hq8] at o8
      clear a8 hs8
      go_wp2_with (at_builtin; refine wpList_append_own _ rfl _ _ _ rfl q8 49 i0 _ 4 32 Try.underlying26 hi0 hz0 hz1 hz2 rfl (by omega) (.slice (some ⟨q8, 0, none⟩) 0 0) 0 [] rfl o8 ⟨g7, 0, none⟩ i c7 (lCells (ol k l i)) rfl hll N8 (lCells_one _) (by unfold maxLen; omega) (by omega) (by rw [← HQ8.out]; exact HS8.out) ?_; intro v2 w5 hown2 hgrow2 hne2)
      simp only [Nat.zero_add, List.nil_append] at hown2
      obtain ⟨g9, c9, rfl⟩ : ∃ g9 c9, v2 = .slice (some ⟨g9, 0, none⟩) i c9 := by
        rcases hown2.2 with ⟨e1, -⟩ | ⟨gg, cc, cur, e1, -⟩
        · exact absurd (hne2.1 e1).1 (fun h => by cases h)
        · exact ⟨gg, cc, e1⟩
      obtain ⟨R9, hc9⟩ := own_recs hown2
      have b89 : Below wr.heap.size wr w5 := bb8.grown hgrow2 HS8.out (fun k hk => by cases hk; rw [HQ8.out]; exact Nat.le_refl _)
      replace R7 := R7.below b89
      replace b3' := b3'.below b89
      replace B7 := B7.trans (b89.mono B7.size)
      clear hown2 hgrow2 hne2 o8 N8 R8 bb8 b89 hll HS8 hV8 hq8 HQ8 hbs
      refine (tI _ _ _ R9 hc9).mono ?_
      rintro e w6 ⟨rfl, b6⟩
      replace R7 := R7.below b6
      replace b3' := b3'.below b6
      replace B7 := B7.trans (b6.mono B7.size)
      clear R9 b6
      go_wp2_with fail
      refine (tS _ _ _ R7).mono ?_
      rintro e w7 ⟨rfl, b6⟩
      replace R7 := R7.below b6
      replace b3' := b3'.below b6
      replace B7 := B7.trans (b6.mono B7.size)
      clear b6
      obtain ⟨k0, k1, k2, -⟩ := b3'.open3
      go_wp2_with fail
      refine (dI _ _ _ R7 hc7).mono ?_
      rintro e w8 ⟨rfl, b6⟩
      replace R7 := R7.below b6
      replace b3' := b3'.below b6
      replace B7 := B7.trans (b6.mono B7.size)
      clear b6 k0 k1 k2
      obtain ⟨k0, k1, k2, -⟩ := b3'.open3
      have nP : (P != P) = false := bne_self_eq_false _
      go_wp2_with fail
      refine (dS _ _ _ R7).mono ?_
      rintro e w9 ⟨rfl, b6⟩
      replace b3' := b3'.below b6
      replace B7 := B7.trans (b6.mono B7.size)
      clear b6 k0 k1 k2 R7 nP tI tS dI dS
      obtain ⟨k0, k1, k2, -⟩ := b3'.open3
      have nD : (D != D) = false := bne_self_eq_false _
      by_cases hD0 : D = 0
      · subst hD0
        go_wp2
        go_ret
        exact ⟨rfl, B7⟩
      · have hD0' : (D == 0) = false := by simpa using hD0
        obtain ⟨hDp, hkk⟩ : D = par k x y z ∧ hkR x y z := HD.out.resolve_left hD0
        have PA := fun w => parity_any k x y z w hk8 hkk.1 hkk.2.1 hkk.2.2
        rw [← hDp] at PA
        clear hDp hkk hD0
        have eD : (D == D) = true := beq_self_eq_true _
        go_wp2_with (go_at_call 25; refine (PA _).mono ?_; rintro e uu ⟨rfl, rfl⟩)
        go_ret
        exact ⟨rfl, B7⟩
end Go.Proofs.Ytpelbbkkdmlmiaa
