/-
  What the law of descents asks: lists copied, values over whole numbers, lists compared: walked.
-/
import Derived.Test.YtloailicdoknbaaG15a
import Derived.ArgAppend
namespace Go.Proofs.Ytloailicdoknbaa
open Go.RowKit

set_option maxRecDepth 100000 in
theorem lints_any {w : World} {b o c n : Nat} {f : Nat → Int} (h : Ints w b o n f) (hb : b < w.heap.size) (hn : n ≤ 1048576) :
    Calls Try.prog 28 #[.slice (some ⟨b, o, none⟩) n c] w fun e w' => ∃ v, e = .returned v ∧ Gv w w' w.heap.size 2 v n (iCells f n) := by
  have hbs : ∀ w, (Instr.buildSlice 23 0 #[]).run Try.prog w = .ok (.slice (some ⟨w.heap.size, 0, none⟩) 0 0) (w.alloc (.cells #[] 2)) := fun _ => by kernel_rfl
  have hm1 : Ints (w.alloc (.cells #[] 2)) b o n f := h.below hb (below_alloc _ _)
  have o0 : (w.alloc (.cells #[] 2)).ownsRow w.heap.size 2 1 (.slice (some ⟨w.heap.size, 0, none⟩) 0 0) 0 [] :=
    ⟨rfl, .inr ⟨w.heap.size, 0, #[], rfl, Nat.le_refl _, heap_alloc_new _ _, Nat.le_refl _, Nat.zero_le _, rfl, rfl⟩⟩
  obtain ⟨i0, hi0, hz0, hz1, hz2⟩ := info_parts infoI
  have hn' : (n : Int) ≤ 1048576 := by omega
  clear h hb
  go_enter Try.func28, Try.ntmps28
  go_wp2_with (at_builtin; refine wpList_append_own _ rfl _ _ _ rfl w.heap.size 2 i0 _ 1 8 Try.underlying23 hi0 hz0 hz1 hz2 rfl (by omega) (.slice (some ⟨w.heap.size, 0, none⟩) 0 0) 0 [] rfl o0 ⟨b, o, none⟩ n c (iCells f n) rfl (by rw [iCells_len]; omega) (ints_news hm1) (iCells_one f n) (by unfold maxLen; omega) (by omega) (by simp) ?_; intro v2 w2 hown2 hgrow2 hne2)
  simp only [Nat.zero_add, List.nil_append] at hown2
  go_ret
  exact ⟨_, rfl, hown2, fun h => ne_nil _ _ _ (hne2.1 h).1, (below_alloc w (.cells #[] 2)).grown hgrow2 (by simp) (fun k hk => by cases hk; exact Nat.le_refl _), Nat.le_refl _, Nat.le_trans (Nat.le_of_lt (by simp)) hgrow2.size⟩
/-- An append to a list of one's own: what stood in the list's first block stands there still. -/
theorem step_append_keep {P : Program} (w : World) {ops : Array Oper} {o : Oper} {a : Act} {K : Act → World → Prop} {Q : Exit → Act → World → Prop} {E : Prop} (hgd : o.guard = none) (s x : Operand) (t : TypeId)
    (ho : o.op = .call { callee := .builtin .append, args := #[s, x], argTypes := #[t, t] })
    (base : Nat) (e : TypeId) (i : TypeInfo) (z : Value) (size bytes : Nat) (ht : P.underlying t = some (.slice e)) (hi : P.info? e = some i) (hz : i.zero = some z)
    (hsize : i.size = size) (hby : i.bytes = bytes) (hzs : z.cells.size = size) (hsz : 0 < size)
    (gg n cap : Nat) (xs : List Value) (hs : a.eval s = .slice (some ⟨gg, 0, none⟩) n cap) (hown : w.ownsRow base e size (.slice (some ⟨gg, 0, none⟩) n cap) n xs)
    (ad : Addr) (m c : Nat) (news : List Value) (hx : a.eval x = .slice (some ad) m c) (hl : news.length = m * size) (hnews : ∀ j u, news[j]? = some u → w.cell? (ad.add j) = some u) (h1 : ∀ u ∈ news, u.oneCell' = true)
    (h63 : n + m ≤ maxLen) (hbytes : (n + m) * bytes ≤ 140737488355328) (hbase : base ≤ w.heap.size)
    (h : ∀ v' w', w'.ownsRow base e size v' (n + m) (xs ++ news) → w.grownBy w' (some gg) → v' ≠ .slice none 0 0 → (∀ j u, xs[j]? = some u → w'.cell? ⟨gg, j, none⟩ = some u) → K (a.put o.dst v') w') :
    if Region.wanted o (yielded ops a.tmps) = true then Oper.wp P o a w K Q else E := by
  have hw : Region.wanted o (yielded ops a.tmps) = true := by simp [Region.wanted, hgd]
  rw [if_pos hw]
  obtain ⟨v', w', hr, h2, h3, h4, -⟩ := run_append_own_at (P := P) w base t o.type e i z size bytes ht hi hz hsize hby hzs hsz _ n xs hown ad m c news hl hnews h1 h63 hbytes hbase
  have keep : ∀ j u, xs[j]? = some u → w'.cell? ⟨gg, j, none⟩ = some u := by
    rcases hown.2 with ⟨e0, -⟩ | ⟨g', cp, cur, e0, hbg, hg, hnc, hcm, hcs, htake⟩
    · cases e0
    simp only [Value.slice.injEq, Option.some.injEq, Addr.mk.injEq] at e0
    obtain ⟨⟨rfl, -, -⟩, -, rfl⟩ := e0
    have old : ∀ j u, xs[j]? = some u → w.cell? ⟨gg, j, none⟩ = some u := by
      intro j u hu
      rw [← htake, List.getElem?_take] at hu
      split at hu
      · simpa [World.cell?, hg] using hu
      · cases hu
    by_cases hroom : n + m ≤ cap
    · have hr2 := run_append_room_cells (P := P) w t o.type e i ht hi gg 0 n cap ad m c news (by rw [hsize]; exact hl) hnews h1 hroom (fun j hj => by
        have : n * size + j < cap * size := by
          have a1 : (n + m) * size ≤ cap * size := Nat.mul_le_mul_right _ hroom
          rw [Nat.add_mul] at a1
          omega
        rw [hsize]
        simp [World.cell?, hg, hcs, this]) (fun j hj => by simp [World.frozen?, hg])
      rw [hr] at hr2
      injection hr2 with e1 e2
      rw [e1] at h2
      rcases h2.2 with ⟨e3, -⟩ | ⟨g2, c2, cur2, e3, -, hg2, -, -, -, ht2⟩
      · cases e3
      simp only [Value.slice.injEq, Option.some.injEq, Addr.mk.injEq] at e3
      obtain ⟨⟨rfl, -, -⟩, -, rfl⟩ := e3
      intro j u hu
      have hu2 : (xs ++ news)[j]? = some u := by
        rw [List.getElem?_append_left (List.getElem?_eq_some_iff.1 hu).1]
        exact hu
      rw [← ht2, List.getElem?_take] at hu2
      split at hu2
      · simpa [World.cell?, hg2] using hu2
      · cases hu2
    · obtain ⟨v3, w3, hr3, -, gr⟩ := run_append_arg_grows (P := P) w t o.type e i z size bytes ht hi hz hsize hby hzs hsz ⟨gg, 0, none⟩ n cap xs hown.1 (fun j u hu => by
        by_cases e : j = 0
        · subst e; simpa [Addr.add] using old 0 u hu
        · simpa [Addr.add, e] using old j u hu) ad m c news hl hnews (by omega) h63 hbytes
      rw [hr] at hr3
      injection hr3 with e1 e2
      intro j u hu
      rw [e2, World.cell?_of_block (w := w) (gr.block gg (Array.getElem?_eq_some_iff.1 hg).1 (by simp))]
      exact old j u hu
  unfold Oper.wp execOp
  simp only [ho, resolve, invoke, builtin, Sem.run_bind, Sem.run_pure, Result.andThen_ok, List.map_toArray, List.map_cons, List.map_nil, hs, hx, hr]
  exact h v' w' h2 h3 (fun e => by have := (h4.1 e).1; cases this) keep
theorem infoSt' : (Try.prog.info? 46).map (fun i => (i.zero, i.size, i.bytes)) = some (some (.agg #[.int .i64 0, .int .i64 0, .int .i64 0]), 3, 24) := by kernel_rfl
set_option maxRecDepth 100000 in
theorem lsteps_any {w : World} {g c n : Nat} {f : Nat → Int} (h : Recs 3 w g n f) (hn : n ≤ 1048576) :
    Calls Try.prog 27 #[.slice (some ⟨g, 0, none⟩) n c] w fun e w' => ∃ g2 c2, e = .returned (.slice (some ⟨g2, 0, none⟩) n c2) ∧ Recs 3 w' g2 n f ∧ Below w.heap.size w w' := by
  have hbs : ∀ w, (Instr.buildSlice 27 0 #[]).run Try.prog w = .ok (.slice (some ⟨w.heap.size, 0, none⟩) 0 0) (w.alloc (.cells #[] 46)) := fun _ => by kernel_rfl
  have hI : Ints w g 0 (n * 3) f := fun i hi => by rw [Nat.zero_add]; exact h.2 i hi
  have hm1 : Ints (w.alloc (.cells #[] 46)) g 0 (n * 3) f := hI.below h.1 (below_alloc _ _)
  have o0 : (w.alloc (.cells #[] 46)).ownsRow w.heap.size 46 3 (.slice (some ⟨w.heap.size, 0, none⟩) 0 0) 0 [] :=
    ⟨rfl, .inr ⟨w.heap.size, 0, #[], rfl, Nat.le_refl _, heap_alloc_new _ _, Nat.le_refl _, Nat.zero_le _, rfl, rfl⟩⟩
  obtain ⟨i0, hi0, hz0, hz1, hz2⟩ := info_parts infoSt'
  have hn' : (n : Int) ≤ 1048576 := by omega
  clear h hI
  go_enter Try.func27, Try.ntmps27
  go_wp2_with (at_builtin; refine wpList_append_own _ rfl _ _ _ rfl w.heap.size 46 i0 _ 3 24 Try.underlying27 hi0 hz0 hz1 hz2 rfl (by omega) (.slice (some ⟨w.heap.size, 0, none⟩) 0 0) 0 [] rfl o0 ⟨g, 0, none⟩ n c (iCells f (n * 3)) rfl (by rw [iCells_len]) (ints_news hm1) (iCells_one f (n * 3)) (by unfold maxLen; omega) (by omega) (by simp) ?_; intro v2 w2 hown2 hgrow2 hne2)
  simp only [Nat.zero_add, List.nil_append] at hown2
  have B2 : Below w.heap.size w w2 := (below_alloc w (.cells #[] 46)).grown hgrow2 (by simp) (fun k hk => by cases hk; exact Nat.le_refl _)
  rcases hown2.2 with ⟨h1, _⟩ | ⟨g', c', cur, h1, hb, hh, hc1, hc2, hsz, ht⟩
  · exact absurd (hne2.1 h1).1 (ne_nil _ _ _)
  subst h1
  go_ret
  refine ⟨g', c', rfl, ⟨(Array.getElem?_eq_some_iff.1 hh).1, fun i hi => ?_⟩, B2⟩
  have a1 := iCells_at f hi
  rw [← ht, List.getElem?_take_of_lt hi] at a1
  simpa [World.cell?, hh] using a1
set_option maxRecDepth 100000 in
set_option maxHeartbeats 12800000 in
theorem whole_any {w : World} {g n cap b c inp : Nat} {f x : Nat → Int} (h : Recs 3 w g n f) (hx : Ints w b 0 inp x) (hb : b < w.heap.size) (ok : TpN n inp f) (hO : Hid (wOk n f x)) :
    Calls Try.prog 31 #[.slice (some ⟨g, 0, none⟩) n cap, .slice (some ⟨b, 0, none⟩) inp c] w fun e w' => e = .returned (.int .i64 (wv f x (n - 1))) ∧ Below w.heap.size w w' := by
  have hn0 := ok.2
  have hn200 := ok.1.1
  have hi20 := ok.1.2.1.2
  have hn' : (n : Int) ≤ 200 := by omega
  have hi' : (inp : Int) ≤ 20 := by omega
  obtain ⟨i0, hi0, hz0, hz1, hz2⟩ := info_parts infoI
  have hbs : ∀ w, (Instr.buildSlice 23 0 #[]).run Try.prog w = .ok (.slice (some ⟨w.heap.size, 0, none⟩) 0 0) (w.alloc (.cells #[] 2)) := fun _ => by kernel_rfl
  have hgw : g < w.heap.size := h.1
  obtain ⟨W1, hW1, a1, bb1, -⟩ := boxed w 2 #[]
  have G1 : Gv w W1 w.heap.size 2 (.slice (some ⟨w.heap.size, 0, none⟩) 0 0) 0 (iCells (wv f x) 0) := ⟨⟨rfl, .inr ⟨_, 0, #[], rfl, Nat.le_refl _, a1, Nat.le_refl _, Nat.zero_le _, rfl, rfl⟩⟩, by simp, bb1, Nat.le_refl _, bb1.size⟩
  go_enter Try.func31, Try.ntmps31
  go_wp2
  clear hW1 a1 bb1
  go_loopw [5, 6] (fun s u wr => ∃ k : Nat, k ≤ n ∧ u = .int .i64 (k : Int) ∧ Gv w wr w.heap.size 2 s k (iCells (wv f x) k)) (fun _ u _ => n - (intOf u).toNat)
  case atStart => exact ⟨0, Nat.zero_le _, rfl, G1⟩
  case round =>
    clear G1
    obtain ⟨k, hk, rfl, G1⟩ := hrel
    obtain ⟨gg, cc, rfl, o1, o2, o3, I1⟩ := G1.ints
    by_cases hkn : k < n
    · have hkn' : (k : Int) < (n : Int) := by omega
      have TV := wv_eq x ok.1 hkn
      have rZ := hO.out k hkn
      obtain ⟨d0, d1, d2⟩ := Step.open (belowRecs h G1.b hgw) k hkn
      rcases (ok.1.2.2 k hkn).ways with ⟨e1, e2, A, e3, hA⟩ | ⟨e1, A, B, e2, e3, hA, hB⟩ | ⟨e1, A, B, e2, e3, hA, hB⟩ | ⟨e1, e2, A, e3, hA⟩ | ⟨e1, e2⟩
      · rw [e1] at TV d0
        rw [e2] at TV
        rw [e3] at TV d1
        have cx := cellAt (belowInts hx G1.b hb) (a := A) (by omega)
        have hA' : (A : Int) < (inp : Int) := hA
        have TZ : wv f x k = x A := TV
        obtain ⟨Z, hZ⟩ : ∃ Z, x A = Z := ⟨_, rfl⟩
        rw [hZ] at TZ cx
        clear hZ TV I1 e1 e2 e3
        have HZ : Hid (wv f x k = Z) := TZ
        clear TZ rZ
        have hb2 : ∀ w, (Instr.buildSlice 23 1 #[(0, .int .i64 Z)]).run Try.prog w = .ok (.slice (some ⟨w.heap.size, 0, none⟩) 1 1) (w.alloc (.cells #[.int .i64 Z] 2)) := fun _ => by kernel_rfl
        obtain ⟨V9, hV9, A9, b10, -⟩ := boxed wr 2 #[.int .i64 Z]
        obtain ⟨g9, hg9⟩ : ∃ g, wr.heap.size = g := ⟨_, rfl⟩
        rw [hg9] at A9
        have G4 := G1.below b10
        have hkk := G4.o3
        clear b10 G1
        go_wp2_with (at_builtin; refine wpList_append_own _ rfl _ _ _ rfl w.heap.size 2 i0 _ 1 8 Try.underlying23 hi0 hz0 hz1 hz2 rfl (by omega) (.slice (some ⟨gg, 0, none⟩) k cc) k (iCells (wv f x) k) rfl G4.own ⟨g9, 0, none⟩ 1 1 [.int .i64 Z] rfl rfl (news1 A9) (by simp [Value.oneCell']) (by unfold maxLen; omega) (by omega) hkk ?_; intro v2 w16 hown2 hgrow2 hne2)
        have G5 := G4.grow hown2 hgrow2 (fun h => by have := hne2.1 h; simp at this)
        refine ⟨⟨k + 1, by omega, by go_num, ?_⟩, by simp [intOf]; omega⟩
        rw [← HZ.out, iCells_more] at G5
        exact G5
      · skip
        rw [e1] at TV d0
        rw [e2] at TV
        rw [e3] at TV
        have hAk : A < k := by omega
        have hBk : B < k := by omega
        have TZ : wv f x k = wv f x A + wv f x B := TV
        clear TV d1 d2
        obtain ⟨z, hz⟩ : ∃ z, wv f x A = z := ⟨_, rfl⟩
        obtain ⟨y, hy⟩ : ∃ z, wv f x B = z := ⟨_, rfl⟩
        rw [hz, hy] at TZ
        rw [TZ] at rZ
        obtain ⟨Z, hZ⟩ : ∃ Z, z + y = Z := ⟨_, rfl⟩
        rw [hZ] at TZ rZ
        have hw : IntKind.i64.wrap (z + y) = Z := by rw [hZ, IntKind.wrap_i64]; unfold r12 at rZ; omega
        have hw2 : wrap64 (z + y) = Z := by rw [hZ]; unfold wrap64; unfold r12 at rZ; omega
        have HZ : Hid (wv f x k = Z) := TZ
        clear TZ rZ hZ
        have hb2 : ∀ w, (Instr.buildSlice 23 1 #[(0, .int .i64 Z)]).run Try.prog w = .ok (.slice (some ⟨w.heap.size, 0, none⟩) 1 1) (w.alloc (.cells #[.int .i64 Z] 2)) := fun _ => by kernel_rfl
        have RR := belowRecs h G1.b hgw
        go_wp2_with fail
        clear d0
        obtain ⟨u0, hu0, bb⟩ : ∃ uu, wr.drew = uu ∧ Below wr.heap.size wr uu := ⟨_, rfl, (Below.refl _ _).drew⟩
        replace RR := RR.below bb
        replace G1 := G1.below bb
        replace I1 := I1.below o3 bb
        have ogg : gg < u0.heap.size := Nat.lt_of_lt_of_le o3 bb.size
        clear bb
        refine wp_region_held_drew (S := fun w' => Recs 3 w' g n f ∧ Ints w' gg 0 k (wv f x)) (by kernel_rfl) (by rw [hu0]; exact ⟨RR, I1⟩) (fun hHeld => ?_)
        rw [hu0] at hHeld ⊢
        clear hu0
        change wpAnyH _ _ _ _ _ 21 #[false, false, false, false, false, false, false, false, false, false, false, false, false, false, false, false, false, false, false, false, false] _ _
        refine wpAnyH_take (i := 0) (v := .slice ((some ⟨gg, 0, none⟩)) k cc) rfl (by kernel_rfl) (by kernel_rfl) (by kernel_rfl) (fun _ _ _ h => h) (Or.inl ⟨by kernel_rfl, ?_⟩) hHeld ?_
        · intro w' hSw; go_simp
        try simp only [Act.put, List.setIfInBounds_toArray, List.set_cons_zero, List.set_cons_succ, List.getElem_toArray, List.getElem_cons_zero]
        refine wpAnyH_take (i := 1) (v := .slice ((some ⟨gg, 0, none⟩)) k cc) rfl (by kernel_rfl) (by kernel_rfl) (by kernel_rfl) (fun _ _ _ h => h) (Or.inl ⟨by kernel_rfl, ?_⟩) hHeld ?_
        · intro w' hSw; go_simp
        try simp only [Act.put, List.setIfInBounds_toArray, List.set_cons_zero, List.set_cons_succ, List.getElem_toArray, List.getElem_cons_succ, List.getElem_cons_zero]
        refine wpAnyH_take (i := 2) (v := .slice ((some ⟨g, 0, none⟩)) n cap) rfl (by kernel_rfl) (by kernel_rfl) (by kernel_rfl) (fun _ _ _ h => h) (Or.inl ⟨by kernel_rfl, ?_⟩) hHeld ?_
        · intro w' hSw; go_simp
        try simp only [Act.put, List.setIfInBounds_toArray, List.set_cons_zero, List.set_cons_succ, List.getElem_toArray, List.getElem_cons_succ, List.getElem_cons_zero]
        refine wpAnyH_take (i := 3) (v := .int .i64 ((k : Int))) rfl (by kernel_rfl) (by kernel_rfl) (by kernel_rfl) (fun _ _ _ h => h) (Or.inl ⟨by kernel_rfl, ?_⟩) hHeld ?_
        · intro w' hSw; go_simp
        try simp only [Act.put, List.setIfInBounds_toArray, List.set_cons_zero, List.set_cons_succ, List.getElem_toArray, List.getElem_cons_succ, List.getElem_cons_zero]
        refine wpAnyH_take (i := 4) (v := .pointer (some ⟨g, k * 3, none⟩)) rfl (by kernel_rfl) (by kernel_rfl) (by kernel_rfl) (fun _ _ _ h => h) (Or.inl ⟨by kernel_rfl, ?_⟩) hHeld ?_
        · intro w' hSw; go_simp
        try simp only [Act.put, List.setIfInBounds_toArray, List.set_cons_zero, List.set_cons_succ, List.getElem_toArray, List.getElem_cons_succ, List.getElem_cons_zero]
        refine wpAnyH_take (i := 5) (v := .pointer (some ⟨g, k * 3 + 1, none⟩)) rfl (by kernel_rfl) (by kernel_rfl) (by kernel_rfl) (fun _ _ _ h => h) (Or.inl ⟨by kernel_rfl, ?_⟩) hHeld ?_
        · intro w' hSw; go_simp
        try simp only [Act.put, List.setIfInBounds_toArray, List.set_cons_zero, List.set_cons_succ, List.getElem_toArray, List.getElem_cons_succ, List.getElem_cons_zero]
        refine wpAnyH_take (i := 6) (v := .int .i64 ((A : Int))) rfl (by kernel_rfl) (by kernel_rfl) (by kernel_rfl) (fun _ _ _ h => h) (Or.inl ⟨by kernel_rfl, ?_⟩) hHeld ?_
        · intro w' hSw; obtain ⟨y0, y1, y2⟩ := Step.open hSw.1 k hkn; rw [e2] at y1; go_simp
        try simp only [Act.put, List.setIfInBounds_toArray, List.set_cons_zero, List.set_cons_succ, List.getElem_toArray, List.getElem_cons_succ, List.getElem_cons_zero]
        refine wpAnyH_take (i := 7) (v := .pointer (some ⟨gg, A, none⟩)) rfl (by kernel_rfl) (by kernel_rfl) (by kernel_rfl) (fun _ _ _ h => h) (Or.inl ⟨by kernel_rfl, ?_⟩) hHeld ?_
        · intro w' hSw; go_simp
        try simp only [Act.put, List.setIfInBounds_toArray, List.set_cons_zero, List.set_cons_succ, List.getElem_toArray, List.getElem_cons_succ, List.getElem_cons_zero]
        refine wpAnyH_take (i := 8) (v := .int .i64 (z)) rfl (by kernel_rfl) (by kernel_rfl) (by kernel_rfl) (fun _ _ _ h => h) (Or.inl ⟨by kernel_rfl, ?_⟩) hHeld ?_
        · intro w' hSw; have z0 := cellAt hSw.2 (a := A) hAk; rw [hz] at z0; go_simp
        try simp only [Act.put, List.setIfInBounds_toArray, List.set_cons_zero, List.set_cons_succ, List.getElem_toArray, List.getElem_cons_succ, List.getElem_cons_zero]
        refine wpAnyH_take (i := 9) (v := .slice ((some ⟨gg, 0, none⟩)) k cc) rfl (by kernel_rfl) (by kernel_rfl) (by kernel_rfl) (fun _ _ _ h => h) (Or.inl ⟨by kernel_rfl, ?_⟩) hHeld ?_
        · intro w' hSw; go_simp
        try simp only [Act.put, List.setIfInBounds_toArray, List.set_cons_zero, List.set_cons_succ, List.getElem_toArray, List.getElem_cons_succ, List.getElem_cons_zero]
        refine wpAnyH_take (i := 10) (v := .slice ((some ⟨g, 0, none⟩)) n cap) rfl (by kernel_rfl) (by kernel_rfl) (by kernel_rfl) (fun _ _ _ h => h) (Or.inl ⟨by kernel_rfl, ?_⟩) hHeld ?_
        · intro w' hSw; go_simp
        try simp only [Act.put, List.setIfInBounds_toArray, List.set_cons_zero, List.set_cons_succ, List.getElem_toArray, List.getElem_cons_succ, List.getElem_cons_zero]
        refine wpAnyH_take (i := 11) (v := .int .i64 ((k : Int))) rfl (by kernel_rfl) (by kernel_rfl) (by kernel_rfl) (fun _ _ _ h => h) (Or.inl ⟨by kernel_rfl, ?_⟩) hHeld ?_
        · intro w' hSw; go_simp
        try simp only [Act.put, List.setIfInBounds_toArray, List.set_cons_zero, List.set_cons_succ, List.getElem_toArray, List.getElem_cons_succ, List.getElem_cons_zero]
        refine wpAnyH_take (i := 12) (v := .pointer (some ⟨g, k * 3, none⟩)) rfl (by kernel_rfl) (by kernel_rfl) (by kernel_rfl) (fun _ _ _ h => h) (Or.inl ⟨by kernel_rfl, ?_⟩) hHeld ?_
        · intro w' hSw; go_simp
        try simp only [Act.put, List.setIfInBounds_toArray, List.set_cons_zero, List.set_cons_succ, List.getElem_toArray, List.getElem_cons_succ, List.getElem_cons_zero]
        refine wpAnyH_take (i := 13) (v := .pointer (some ⟨g, k * 3 + 2, none⟩)) rfl (by kernel_rfl) (by kernel_rfl) (by kernel_rfl) (fun _ _ _ h => h) (Or.inl ⟨by kernel_rfl, ?_⟩) hHeld ?_
        · intro w' hSw; go_simp
        try simp only [Act.put, List.setIfInBounds_toArray, List.set_cons_zero, List.set_cons_succ, List.getElem_toArray, List.getElem_cons_succ, List.getElem_cons_zero]
        refine wpAnyH_take (i := 14) (v := .int .i64 ((B : Int))) rfl (by kernel_rfl) (by kernel_rfl) (by kernel_rfl) (fun _ _ _ h => h) (Or.inl ⟨by kernel_rfl, ?_⟩) hHeld ?_
        · intro w' hSw; obtain ⟨y0, y1, y2⟩ := Step.open hSw.1 k hkn; rw [e3] at y2; go_simp
        try simp only [Act.put, List.setIfInBounds_toArray, List.set_cons_zero, List.set_cons_succ, List.getElem_toArray, List.getElem_cons_succ, List.getElem_cons_zero]
        refine wpAnyH_take (i := 15) (v := .pointer (some ⟨gg, B, none⟩)) rfl (by kernel_rfl) (by kernel_rfl) (by kernel_rfl) (fun _ _ _ h => h) (Or.inl ⟨by kernel_rfl, ?_⟩) hHeld ?_
        · intro w' hSw; go_simp
        try simp only [Act.put, List.setIfInBounds_toArray, List.set_cons_zero, List.set_cons_succ, List.getElem_toArray, List.getElem_cons_succ, List.getElem_cons_zero]
        refine wpAnyH_take (i := 16) (v := .int .i64 (y)) rfl (by kernel_rfl) (by kernel_rfl) (by kernel_rfl) (fun _ _ _ h => h) (Or.inl ⟨by kernel_rfl, ?_⟩) hHeld ?_
        · intro w' hSw; have z0 := cellAt hSw.2 (a := B) hBk; rw [hy] at z0; go_simp
        try simp only [Act.put, List.setIfInBounds_toArray, List.set_cons_zero, List.set_cons_succ, List.getElem_toArray, List.getElem_cons_succ, List.getElem_cons_zero]
        refine wpAnyH_take (i := 17) (v := .int .i64 (Z)) rfl (by kernel_rfl) (by kernel_rfl) (by kernel_rfl) (fun _ _ _ h => h) (Or.inl ⟨by kernel_rfl, ?_⟩) hHeld ?_
        · intro w' hSw; go_simp
        try simp only [Act.put, List.setIfInBounds_toArray, List.set_cons_zero, List.set_cons_succ, List.getElem_toArray, List.getElem_cons_succ, List.getElem_cons_zero]
        refine wpAnyH_ready (rs := [18]) (by kernel_rfl) (by simp) ?_
        refine AllReadyH.cons rfl (fun KK hK' => ?_) AllReadyH.nil
        go_simp
        obtain ⟨UU, hUU, A9, bb, -⟩ := boxed u0 2 #[.int .i64 Z]
        rw [hUU]
        obtain ⟨gA, hgA⟩ : ∃ z, u0.heap.size = z := ⟨_, rfl⟩
        rw [hgA] at A9 ⊢
        replace RR := RR.below bb
        replace I1 := I1.below ogg bb
        replace G1 := G1.below bb
        clear bb hUU hgA ogg
        clear hHeld
        refine hK'.out _ _ (⟨RR, I1⟩) (fun hHeld => ?_)
        clear hK' KK
        try simp only [List.setIfInBounds_toArray, List.set_cons_zero, List.set_cons_succ]
        refine wpAnyH_ready (rs := [19]) (by kernel_rfl) (by simp) ?_
        refine AllReadyH.cons rfl (fun KK hK' => ?_) AllReadyH.nil
        have hkk := G1.o3
        refine step_append_keep _ (by rfl) _ _ _ (by rfl) w.heap.size 2 i0 _ 1 8 Try.underlying23 hi0 hz0 hz1 hz2 rfl (by omega) gg k cc (iCells (wv f x) k) (by rfl) G1.own ⟨gA, 0, none⟩ 1 1 [.int .i64 Z] (by rfl) (by rfl) (news1 A9) (by simp [Value.oneCell']) (by unfold maxLen; omega) (by omega) hkk ?_
        intro v2 w9 hown2 hgrow2 hne2 keep
        replace RR : Recs 3 w9 g n f := ⟨Nat.lt_of_lt_of_le RR.1 hgrow2.size, fun i hi => by rw [World.cell?_of_block (w := UU) (hgrow2.block g RR.1 (by simp; omega))]; exact RR.2 i hi⟩
        replace I1 : Ints w9 gg 0 k (wv f x) := fun i hi => by rw [Nat.zero_add]; exact keep i _ (iCells_at _ hi)
        have G5 := G1.grow hown2 hgrow2 hne2
        clear hown2 hgrow2 hne2 keep A9 G1
        clear hHeld
        refine hK'.out _ _ (⟨RR, I1⟩) (fun hHeld => ?_)
        clear hK' KK
        try simp only [List.setIfInBounds_toArray, List.set_cons_zero, List.set_cons_succ]
        refine wpAnyH_take (i := 20) (v := v2) rfl (by kernel_rfl) (by kernel_rfl) (by kernel_rfl) (fun _ _ _ h => h) (Or.inl ⟨by kernel_rfl, ?_⟩) hHeld ?_
        · intro w' hSw; go_simp
        try simp only [Act.put, List.setIfInBounds_toArray, List.set_cons_zero, List.set_cons_succ, List.getElem_toArray, List.getElem_cons_succ, List.getElem_cons_zero]
        refine wpAnyH_done (by kernel_rfl) ?_ _
        clear hHeld
        clear RR I1
        go_wp2
        refine ⟨⟨k + 1, by omega, by go_num, ?_⟩, by simp [intOf]; omega⟩
        rw [← HZ.out, iCells_more] at G5
        exact G5
      · skip
        rw [e1] at TV d0
        rw [e2] at TV
        rw [e3] at TV
        have hAk : A < k := by omega
        have hBk : B < k := by omega
        have TZ : wv f x k = wv f x A * wv f x B := TV
        clear TV d1 d2
        obtain ⟨z, hz⟩ : ∃ z, wv f x A = z := ⟨_, rfl⟩
        obtain ⟨y, hy⟩ : ∃ z, wv f x B = z := ⟨_, rfl⟩
        rw [hz, hy] at TZ
        rw [TZ] at rZ
        obtain ⟨Z, hZ⟩ : ∃ Z, z * y = Z := ⟨_, rfl⟩
        rw [hZ] at TZ rZ
        have hw : IntKind.i64.wrap (z * y) = Z := by rw [hZ, IntKind.wrap_i64]; unfold r12 at rZ; omega
        have hw2 : wrap64 (z * y) = Z := by rw [hZ]; unfold wrap64; unfold r12 at rZ; omega
        have HZ : Hid (wv f x k = Z) := TZ
        clear TZ rZ hZ
        have hb2 : ∀ w, (Instr.buildSlice 23 1 #[(0, .int .i64 Z)]).run Try.prog w = .ok (.slice (some ⟨w.heap.size, 0, none⟩) 1 1) (w.alloc (.cells #[.int .i64 Z] 2)) := fun _ => by kernel_rfl
        have RR := belowRecs h G1.b hgw
        go_wp2_with fail
        clear d0
        obtain ⟨u0, hu0, bb⟩ : ∃ uu, wr.drew = uu ∧ Below wr.heap.size wr uu := ⟨_, rfl, (Below.refl _ _).drew⟩
        replace RR := RR.below bb
        replace G1 := G1.below bb
        replace I1 := I1.below o3 bb
        have ogg : gg < u0.heap.size := Nat.lt_of_lt_of_le o3 bb.size
        clear bb
        refine wp_region_held_drew (S := fun w' => Recs 3 w' g n f ∧ Ints w' gg 0 k (wv f x)) (by kernel_rfl) (by rw [hu0]; exact ⟨RR, I1⟩) (fun hHeld => ?_)
        rw [hu0] at hHeld ⊢
        clear hu0
        change wpAnyH _ _ _ _ _ 21 #[false, false, false, false, false, false, false, false, false, false, false, false, false, false, false, false, false, false, false, false, false] _ _
        refine wpAnyH_take (i := 0) (v := .slice ((some ⟨gg, 0, none⟩)) k cc) rfl (by kernel_rfl) (by kernel_rfl) (by kernel_rfl) (fun _ _ _ h => h) (Or.inl ⟨by kernel_rfl, ?_⟩) hHeld ?_
        · intro w' hSw; go_simp
        try simp only [Act.put, List.setIfInBounds_toArray, List.set_cons_zero, List.set_cons_succ, List.getElem_toArray, List.getElem_cons_zero]
        refine wpAnyH_take (i := 1) (v := .slice ((some ⟨gg, 0, none⟩)) k cc) rfl (by kernel_rfl) (by kernel_rfl) (by kernel_rfl) (fun _ _ _ h => h) (Or.inl ⟨by kernel_rfl, ?_⟩) hHeld ?_
        · intro w' hSw; go_simp
        try simp only [Act.put, List.setIfInBounds_toArray, List.set_cons_zero, List.set_cons_succ, List.getElem_toArray, List.getElem_cons_succ, List.getElem_cons_zero]
        refine wpAnyH_take (i := 2) (v := .slice ((some ⟨g, 0, none⟩)) n cap) rfl (by kernel_rfl) (by kernel_rfl) (by kernel_rfl) (fun _ _ _ h => h) (Or.inl ⟨by kernel_rfl, ?_⟩) hHeld ?_
        · intro w' hSw; go_simp
        try simp only [Act.put, List.setIfInBounds_toArray, List.set_cons_zero, List.set_cons_succ, List.getElem_toArray, List.getElem_cons_succ, List.getElem_cons_zero]
        refine wpAnyH_take (i := 3) (v := .int .i64 ((k : Int))) rfl (by kernel_rfl) (by kernel_rfl) (by kernel_rfl) (fun _ _ _ h => h) (Or.inl ⟨by kernel_rfl, ?_⟩) hHeld ?_
        · intro w' hSw; go_simp
        try simp only [Act.put, List.setIfInBounds_toArray, List.set_cons_zero, List.set_cons_succ, List.getElem_toArray, List.getElem_cons_succ, List.getElem_cons_zero]
        refine wpAnyH_take (i := 4) (v := .pointer (some ⟨g, k * 3, none⟩)) rfl (by kernel_rfl) (by kernel_rfl) (by kernel_rfl) (fun _ _ _ h => h) (Or.inl ⟨by kernel_rfl, ?_⟩) hHeld ?_
        · intro w' hSw; go_simp
        try simp only [Act.put, List.setIfInBounds_toArray, List.set_cons_zero, List.set_cons_succ, List.getElem_toArray, List.getElem_cons_succ, List.getElem_cons_zero]
        refine wpAnyH_take (i := 5) (v := .pointer (some ⟨g, k * 3 + 1, none⟩)) rfl (by kernel_rfl) (by kernel_rfl) (by kernel_rfl) (fun _ _ _ h => h) (Or.inl ⟨by kernel_rfl, ?_⟩) hHeld ?_
        · intro w' hSw; go_simp
        try simp only [Act.put, List.setIfInBounds_toArray, List.set_cons_zero, List.set_cons_succ, List.getElem_toArray, List.getElem_cons_succ, List.getElem_cons_zero]
        refine wpAnyH_take (i := 6) (v := .int .i64 ((A : Int))) rfl (by kernel_rfl) (by kernel_rfl) (by kernel_rfl) (fun _ _ _ h => h) (Or.inl ⟨by kernel_rfl, ?_⟩) hHeld ?_
        · intro w' hSw; obtain ⟨y0, y1, y2⟩ := Step.open hSw.1 k hkn; rw [e2] at y1; go_simp
        try simp only [Act.put, List.setIfInBounds_toArray, List.set_cons_zero, List.set_cons_succ, List.getElem_toArray, List.getElem_cons_succ, List.getElem_cons_zero]
        refine wpAnyH_take (i := 7) (v := .pointer (some ⟨gg, A, none⟩)) rfl (by kernel_rfl) (by kernel_rfl) (by kernel_rfl) (fun _ _ _ h => h) (Or.inl ⟨by kernel_rfl, ?_⟩) hHeld ?_
        · intro w' hSw; go_simp
        try simp only [Act.put, List.setIfInBounds_toArray, List.set_cons_zero, List.set_cons_succ, List.getElem_toArray, List.getElem_cons_succ, List.getElem_cons_zero]
        refine wpAnyH_take (i := 8) (v := .int .i64 (z)) rfl (by kernel_rfl) (by kernel_rfl) (by kernel_rfl) (fun _ _ _ h => h) (Or.inl ⟨by kernel_rfl, ?_⟩) hHeld ?_
        · intro w' hSw; have z0 := cellAt hSw.2 (a := A) hAk; rw [hz] at z0; go_simp
        try simp only [Act.put, List.setIfInBounds_toArray, List.set_cons_zero, List.set_cons_succ, List.getElem_toArray, List.getElem_cons_succ, List.getElem_cons_zero]
        refine wpAnyH_take (i := 9) (v := .slice ((some ⟨gg, 0, none⟩)) k cc) rfl (by kernel_rfl) (by kernel_rfl) (by kernel_rfl) (fun _ _ _ h => h) (Or.inl ⟨by kernel_rfl, ?_⟩) hHeld ?_
        · intro w' hSw; go_simp
        try simp only [Act.put, List.setIfInBounds_toArray, List.set_cons_zero, List.set_cons_succ, List.getElem_toArray, List.getElem_cons_succ, List.getElem_cons_zero]
        refine wpAnyH_take (i := 10) (v := .slice ((some ⟨g, 0, none⟩)) n cap) rfl (by kernel_rfl) (by kernel_rfl) (by kernel_rfl) (fun _ _ _ h => h) (Or.inl ⟨by kernel_rfl, ?_⟩) hHeld ?_
        · intro w' hSw; go_simp
        try simp only [Act.put, List.setIfInBounds_toArray, List.set_cons_zero, List.set_cons_succ, List.getElem_toArray, List.getElem_cons_succ, List.getElem_cons_zero]
        refine wpAnyH_take (i := 11) (v := .int .i64 ((k : Int))) rfl (by kernel_rfl) (by kernel_rfl) (by kernel_rfl) (fun _ _ _ h => h) (Or.inl ⟨by kernel_rfl, ?_⟩) hHeld ?_
        · intro w' hSw; go_simp
        try simp only [Act.put, List.setIfInBounds_toArray, List.set_cons_zero, List.set_cons_succ, List.getElem_toArray, List.getElem_cons_succ, List.getElem_cons_zero]
        refine wpAnyH_take (i := 12) (v := .pointer (some ⟨g, k * 3, none⟩)) rfl (by kernel_rfl) (by kernel_rfl) (by kernel_rfl) (fun _ _ _ h => h) (Or.inl ⟨by kernel_rfl, ?_⟩) hHeld ?_
        · intro w' hSw; go_simp
        try simp only [Act.put, List.setIfInBounds_toArray, List.set_cons_zero, List.set_cons_succ, List.getElem_toArray, List.getElem_cons_succ, List.getElem_cons_zero]
        refine wpAnyH_take (i := 13) (v := .pointer (some ⟨g, k * 3 + 2, none⟩)) rfl (by kernel_rfl) (by kernel_rfl) (by kernel_rfl) (fun _ _ _ h => h) (Or.inl ⟨by kernel_rfl, ?_⟩) hHeld ?_
        · intro w' hSw; go_simp
        try simp only [Act.put, List.setIfInBounds_toArray, List.set_cons_zero, List.set_cons_succ, List.getElem_toArray, List.getElem_cons_succ, List.getElem_cons_zero]
        refine wpAnyH_take (i := 14) (v := .int .i64 ((B : Int))) rfl (by kernel_rfl) (by kernel_rfl) (by kernel_rfl) (fun _ _ _ h => h) (Or.inl ⟨by kernel_rfl, ?_⟩) hHeld ?_
        · intro w' hSw; obtain ⟨y0, y1, y2⟩ := Step.open hSw.1 k hkn; rw [e3] at y2; go_simp
        try simp only [Act.put, List.setIfInBounds_toArray, List.set_cons_zero, List.set_cons_succ, List.getElem_toArray, List.getElem_cons_succ, List.getElem_cons_zero]
        refine wpAnyH_take (i := 15) (v := .pointer (some ⟨gg, B, none⟩)) rfl (by kernel_rfl) (by kernel_rfl) (by kernel_rfl) (fun _ _ _ h => h) (Or.inl ⟨by kernel_rfl, ?_⟩) hHeld ?_
        · intro w' hSw; go_simp
        try simp only [Act.put, List.setIfInBounds_toArray, List.set_cons_zero, List.set_cons_succ, List.getElem_toArray, List.getElem_cons_succ, List.getElem_cons_zero]
        refine wpAnyH_take (i := 16) (v := .int .i64 (y)) rfl (by kernel_rfl) (by kernel_rfl) (by kernel_rfl) (fun _ _ _ h => h) (Or.inl ⟨by kernel_rfl, ?_⟩) hHeld ?_
        · intro w' hSw; have z0 := cellAt hSw.2 (a := B) hBk; rw [hy] at z0; go_simp
        try simp only [Act.put, List.setIfInBounds_toArray, List.set_cons_zero, List.set_cons_succ, List.getElem_toArray, List.getElem_cons_succ, List.getElem_cons_zero]
        refine wpAnyH_take (i := 17) (v := .int .i64 (Z)) rfl (by kernel_rfl) (by kernel_rfl) (by kernel_rfl) (fun _ _ _ h => h) (Or.inl ⟨by kernel_rfl, ?_⟩) hHeld ?_
        · intro w' hSw; go_simp
        try simp only [Act.put, List.setIfInBounds_toArray, List.set_cons_zero, List.set_cons_succ, List.getElem_toArray, List.getElem_cons_succ, List.getElem_cons_zero]
        refine wpAnyH_ready (rs := [18]) (by kernel_rfl) (by simp) ?_
        refine AllReadyH.cons rfl (fun KK hK' => ?_) AllReadyH.nil
        go_simp
        obtain ⟨UU, hUU, A9, bb, -⟩ := boxed u0 2 #[.int .i64 Z]
        rw [hUU]
        obtain ⟨gA, hgA⟩ : ∃ z, u0.heap.size = z := ⟨_, rfl⟩
        rw [hgA] at A9 ⊢
        replace RR := RR.below bb
        replace I1 := I1.below ogg bb
        replace G1 := G1.below bb
        clear bb hUU hgA ogg
        clear hHeld
        refine hK'.out _ _ (⟨RR, I1⟩) (fun hHeld => ?_)
        clear hK' KK
        try simp only [List.setIfInBounds_toArray, List.set_cons_zero, List.set_cons_succ]
        refine wpAnyH_ready (rs := [19]) (by kernel_rfl) (by simp) ?_
        refine AllReadyH.cons rfl (fun KK hK' => ?_) AllReadyH.nil
        have hkk := G1.o3
        refine step_append_keep _ (by rfl) _ _ _ (by rfl) w.heap.size 2 i0 _ 1 8 Try.underlying23 hi0 hz0 hz1 hz2 rfl (by omega) gg k cc (iCells (wv f x) k) (by rfl) G1.own ⟨gA, 0, none⟩ 1 1 [.int .i64 Z] (by rfl) (by rfl) (news1 A9) (by simp [Value.oneCell']) (by unfold maxLen; omega) (by omega) hkk ?_
        intro v2 w9 hown2 hgrow2 hne2 keep
        replace RR : Recs 3 w9 g n f := ⟨Nat.lt_of_lt_of_le RR.1 hgrow2.size, fun i hi => by rw [World.cell?_of_block (w := UU) (hgrow2.block g RR.1 (by simp; omega))]; exact RR.2 i hi⟩
        replace I1 : Ints w9 gg 0 k (wv f x) := fun i hi => by rw [Nat.zero_add]; exact keep i _ (iCells_at _ hi)
        have G5 := G1.grow hown2 hgrow2 hne2
        clear hown2 hgrow2 hne2 keep A9 G1
        clear hHeld
        refine hK'.out _ _ (⟨RR, I1⟩) (fun hHeld => ?_)
        clear hK' KK
        try simp only [List.setIfInBounds_toArray, List.set_cons_zero, List.set_cons_succ]
        refine wpAnyH_take (i := 20) (v := v2) rfl (by kernel_rfl) (by kernel_rfl) (by kernel_rfl) (fun _ _ _ h => h) (Or.inl ⟨by kernel_rfl, ?_⟩) hHeld ?_
        · intro w' hSw; go_simp
        try simp only [Act.put, List.setIfInBounds_toArray, List.set_cons_zero, List.set_cons_succ, List.getElem_toArray, List.getElem_cons_succ, List.getElem_cons_zero]
        refine wpAnyH_done (by kernel_rfl) ?_ _
        clear hHeld
        clear RR I1
        go_wp2
        refine ⟨⟨k + 1, by omega, by go_num, ?_⟩, by simp [intOf]; omega⟩
        rw [← HZ.out, iCells_more] at G5
        exact G5
      · rw [e1] at TV d0
        rw [e2] at TV
        rw [e3] at TV d1
        have hAk : A < k := by omega
        have cx := cellAt I1 (a := A) hAk
        obtain ⟨t1, t2⟩ := hO.out A (by omega)
        have TZ : wv f x k = - wv f x A := TV
        clear I1 TV e1 e2 e3
        obtain ⟨z, hz⟩ : ∃ z, wv f x A = z := ⟨_, rfl⟩
        rw [hz] at TZ cx t1 t2
        clear hz
        obtain ⟨Z, hZ⟩ : ∃ Z, -z = Z := ⟨_, rfl⟩
        rw [hZ] at TZ
        have HZ : Hid (wv f x k = Z) := TZ
        clear TZ rZ
        have hb2 : ∀ w, (Instr.buildSlice 23 1 #[(0, .int .i64 Z)]).run Try.prog w = .ok (.slice (some ⟨w.heap.size, 0, none⟩) 1 1) (w.alloc (.cells #[.int .i64 Z] 2)) := fun _ => by kernel_rfl
        obtain ⟨V9, hV9, A9, b10, -⟩ := boxed wr 2 #[.int .i64 Z]
        obtain ⟨g9, hg9⟩ : ∃ g, wr.heap.size = g := ⟨_, rfl⟩
        rw [hg9] at A9
        have G4 := G1.below b10
        have hkk := G4.o3
        clear b10 G1
        go_wp2_with (at_builtin; refine wpList_append_own _ rfl _ _ _ rfl w.heap.size 2 i0 _ 1 8 Try.underlying23 hi0 hz0 hz1 hz2 rfl (by omega) (.slice (some ⟨gg, 0, none⟩) k cc) k (iCells (wv f x) k) rfl G4.own ⟨g9, 0, none⟩ 1 1 [.int .i64 Z] rfl rfl (news1 A9) (by simp [Value.oneCell']) (by unfold maxLen; omega) (by omega) hkk ?_; intro v2 w16 hown2 hgrow2 hne2)
        have G5 := G4.grow hown2 hgrow2 (fun h => by have := hne2.1 h; simp at this)
        refine ⟨⟨k + 1, by omega, by go_num, ?_⟩, by simp [intOf]; omega⟩
        rw [← HZ.out, iCells_more] at G5
        exact G5
      · rw [e1] at TV d0
        rw [e2] at TV
        have TZ : wv f x k = f (k * 3 + 1) := TV
        obtain ⟨Z, hZ⟩ : ∃ Z, f (k * 3 + 1) = Z := ⟨_, rfl⟩
        rw [hZ] at d1 TZ
        clear hZ TV I1 e1 e2
        have HZ : Hid (wv f x k = Z) := TZ
        clear TZ rZ
        have hb2 : ∀ w, (Instr.buildSlice 23 1 #[(0, .int .i64 Z)]).run Try.prog w = .ok (.slice (some ⟨w.heap.size, 0, none⟩) 1 1) (w.alloc (.cells #[.int .i64 Z] 2)) := fun _ => by kernel_rfl
        obtain ⟨V9, hV9, A9, b10, -⟩ := boxed wr 2 #[.int .i64 Z]
        obtain ⟨g9, hg9⟩ : ∃ g, wr.heap.size = g := ⟨_, rfl⟩
        rw [hg9] at A9
        have G4 := G1.below b10
        have hkk := G4.o3
        clear b10 G1
        go_wp2_with (at_builtin; refine wpList_append_own _ rfl _ _ _ rfl w.heap.size 2 i0 _ 1 8 Try.underlying23 hi0 hz0 hz1 hz2 rfl (by omega) (.slice (some ⟨gg, 0, none⟩) k cc) k (iCells (wv f x) k) rfl G4.own ⟨g9, 0, none⟩ 1 1 [.int .i64 Z] rfl rfl (news1 A9) (by simp [Value.oneCell']) (by unfold maxLen; omega) (by omega) hkk ?_; intro v2 w16 hown2 hgrow2 hne2)
        have G5 := G4.grow hown2 hgrow2 (fun h => by have := hne2.1 h; simp at this)
        refine ⟨⟨k + 1, by omega, by go_num, ?_⟩, by simp [intOf]; omega⟩
        rw [← HZ.out, iCells_more] at G5
        exact G5
    · have hkn' : ¬ (k : Int) < (n : Int) := by omega
      obtain rfl : k = n := by omega
      have c0 := cellAt I1 (a := k - 1) (by omega)
      obtain ⟨N, hN⟩ : ∃ N, k - 1 = N := ⟨_, rfl⟩
      have HN : Hid (k - 1 = N) := hN
      rw [hN] at c0
      have hN' : (k : Int) - 1 = (N : Int) := by omega
      have hN2 : (N : Int) < (k : Int) := by omega
      have B4 := G1.b
      clear I1 G1 hN
      go_wp2
      exact bodyPost_ret (v := .int .i64 (wv f x N)) (by simp [results, Try.results31, go_sem]) rfl ⟨by rw [HN.out], B4⟩
set_option maxRecDepth 100000 in
set_option maxHeartbeats 3200000 in
theorem sameInts_any {w : World} {b c b2 c2 n : Nat} {x : Nat → Int} (h1 : Ints w b 0 n x) (hb : b < w.heap.size) (h2 : Ints w b2 0 n x) (hb2 : b2 < w.heap.size) (hn : n ≤ 1000) :
    Calls Try.prog 32 #[.slice (some ⟨b, 0, none⟩) n c, .slice (some ⟨b2, 0, none⟩) n c2] w fun e w' => e = .returned (.bool true) ∧ Below w.heap.size w w' := by
  have hn' : (n : Int) ≤ 1000 := by omega
  have hne : ((n : Int) != (n : Int)) = false := bne_self_eq_false _
  go_enter Try.func32, Try.ntmps32
  go_wp2
  clear hne
  go_loopw [5] (fun u wr => ∃ k : Nat, k ≤ n ∧ u = .int .i64 (k : Int) ∧ Below w.heap.size w wr) (fun u _ => n - (intOf u).toNat)
  case atStart => exact ⟨0, Nat.zero_le _, rfl, Below.refl _ _⟩
  case round =>
    obtain ⟨k, hk, rfl, bw⟩ := hrel
    by_cases hkn : k < n
    · have hkn' : (k : Int) < (n : Int) := by omega
      have c1 := cellAt (h1.below hb bw) (a := k) hkn
      have c3 := cellAt (h2.below hb2 bw) (a := k) hkn
      obtain ⟨z, hz⟩ : ∃ z, x k = z := ⟨_, rfl⟩
      rw [hz] at c1 c3
      clear hz
      have hzz : (z != z) = false := bne_self_eq_false _
      go_wp2_with fail
      go_region
      clear hzz c1 c3
      go_wp2
      exact ⟨⟨k + 1, by omega, by go_num, bw.drew⟩, by simp [intOf]; omega⟩
    · have hkn' : ¬ (k : Int) < (n : Int) := by omega
      go_wp2
      go_ret
      exact ⟨rfl, bw⟩
end Go.Proofs.Ytloailicdoknbaa
