/-
  The parts of a data, by the program: walked.
-/
import Derived.Test.YtdhfoekfejcceaaD16h
import Derived.Laws.AppendOwn
namespace Go.Proofs.Ytdhfoekfejcceaa
open Go.RowKit

theorem step_append_at {P : Program} (w : World) {ops : Array Oper} {o : Oper} {a : Act} {K : Act → World → Prop} {Q : Exit → Act → World → Prop} {E : Prop} (hgd : o.guard = none) (s x : Operand) (t : TypeId)
    (ho : o.op = .call { callee := .builtin .append, args := #[s, x], argTypes := #[t, t] })
    (base : Nat) (e : TypeId) (i : TypeInfo) (z : Value) (size bytes : Nat) (ht : P.underlying t = some (.slice e)) (hi : P.info? e = some i) (hz : i.zero = some z)
    (hsize : i.size = size) (hby : i.bytes = bytes) (hzs : z.cells.size = size) (hsz : 0 < size)
    (v : Value) (n : Nat) (xs : List Value) (hs : a.eval s = v) (hown : w.ownsRow base e size v n xs)
    (ad : Addr) (m c : Nat) (news : List Value) (hx : a.eval x = .slice (some ad) m c) (hl : news.length = m * size) (hnews : ∀ j u, news[j]? = some u → w.cell? (ad.add j) = some u) (h1 : ∀ u ∈ news, u.oneCell' = true)
    (h63 : n + m ≤ maxLen) (hbytes : (n + m) * bytes ≤ 140737488355328) (hbase : base ≤ w.heap.size)
    (h : ∀ v' w', w'.ownsRow base e size v' (n + m) (xs ++ news) → w.grownBy w' v.ownBlock → (v' = .slice none 0 0 ↔ v = .slice none 0 0 ∧ m = 0) → (v'.ownBlock = v.ownBlock ∨ v'.ownBlock = some w.heap.size) → K (a.put o.dst v') w') :
    if Region.wanted o (yielded ops a.tmps) = true then Oper.wp P o a w K Q else E := by
  have hw : Region.wanted o (yielded ops a.tmps) = true := by simp [Region.wanted, hgd]
  rw [if_pos hw]
  obtain ⟨v', w', hr, h2, h3, h4, h5⟩ := run_append_own_at (P := P) w base t o.type e i z size bytes ht hi hz hsize hby hzs hsz v n xs hown ad m c news hl hnews h1 h63 hbytes hbase
  unfold Oper.wp execOp
  simp only [ho, resolve, invoke, builtin, Sem.run_bind, Sem.run_pure, Result.andThen_ok, List.map_toArray, List.map_cons, List.map_nil, hs, hx, hr]
  exact h v' w' h2 h3 h4 h5
/-- Loop j's items, as a list. -/
def lvV (g N F : Nat) (lp : Nat → Int) (j : Nat) : Value := .slice (some ⟨g, atL F lp j * 3, none⟩) (lp j).toNat (N - atL F lp j)
def lvL (g N F : Nat) (lp : Nat → Int) : Nat → List Value
  | 0 => []
  | j + 1 => lvL g N F lp j ++ [lvV g N F lp j]
theorem lvL_len (g N F : Nat) (lp : Nat → Int) (n : Nat) : (lvL g N F lp n).length = n := by
  induction n with
  | zero => rfl
  | succ n ih => simp [lvL, ih]
theorem lvL_at (g N F : Nat) (lp : Nat → Int) {n i : Nat} (h : i < n) : (lvL g N F lp n)[i]? = some (lvV g N F lp i) := by
  induction n with
  | zero => omega
  | succ n ih =>
    unfold lvL
    have hl := lvL_len g N F lp n
    by_cases e : i = n
    · subst e
      rw [List.getElem?_append_right (by omega), hl]; simp
    · rw [List.getElem?_append_left (by omega)]; exact ih (by omega)
structure Gl (w0 w : World) (v : Value) (m : Nat) (l : List Value) : Prop where
  own : w.ownsRow (w0.heap.size + 1) 28 1 v m l
  nn : v ≠ .slice none 0 0
  b : Below w0.heap.size w0 w
theorem Gl.below {w0 w w' : World} {v : Value} {m : Nat} {l : List Value} (s : Gl w0 w v m l) (hb : Below w.heap.size w w') : Gl w0 w' v m l :=
  ⟨own_belS s.own hb, s.nn, s.b.trans (hb.mono s.b.size)⟩
theorem Gl.open {w0 w : World} {v : Value} {m : Nat} {l : List Value} (s : Gl w0 w v m l) : ∃ g c, v = .slice (some ⟨g, 0, none⟩) m c ∧ g < w.heap.size ∧ w0.heap.size + 1 ≤ g ∧ ∀ i u, i < m → l[i]? = some u → w.cell? ⟨g, i, none⟩ = some u := by
  rcases s.own.2 with ⟨e1, -⟩ | ⟨g, c, cur, rfl, hb, hh, hc1, hc2, hsz, ht⟩
  · exact absurd e1 s.nn
  · refine ⟨g, c, rfl, (Array.getElem?_eq_some_iff.1 hh).1, hb, fun i u hi hu => ?_⟩
    rw [← ht, List.getElem?_take_of_lt (by omega)] at hu
    simpa [World.cell?, hh] using hu
theorem Gl.grow {w0 w w' : World} {v v' : Value} {m : Nat} {l : List Value} {x : Value} (s : Gl w0 w v m l) (h1 : w'.ownsRow (w0.heap.size + 1) 28 1 v' (m + 1) (l ++ [x])) (hg : w.grownBy w' v.ownBlock) (hv : v' ≠ .slice none 0 0) : Gl w0 w' v' (m + 1) (l ++ [x]) :=
  ⟨h1, hv, s.b.grown hg s.b.size (fun _ hk => Nat.le_of_succ_le (gs_ge s.own hk).1)⟩
theorem infoItS : (Try.prog.info? 28).map (fun i => (i.zero, i.size, i.bytes)) = some (some (.slice none 0 0), 1, 24) := by kernel_rfl
/-- The loops are as told. -/
def PtOk (N M F : Nat) (rw : Nat → Int) (lp : Nat → Int) : Prop := (∀ j, j < M → (1 ≤ lp j ∧ lp j ≤ (N : Int) - atL F lp j) ∧ OlOk (atL F lp j) (lp j).toNat rw) ∧ atL F lp M = N
def PaP (w : World) (g N M F : Nat) (lp : Nat → Int) (b : Bool) (e : Ending) (w' : World) : Prop := ∃ v1 v2, e = .returned (.tuple #[v1, v2, .bool b]) ∧ (b = true → v1 = .slice (some ⟨g, 0, none⟩) F N ∧ ∃ gl cl, v2 = .slice (some ⟨gl, 0, none⟩) M cl ∧ gl < w'.heap.size ∧ ∀ j, j < M → w'.cell? ⟨gl, j, none⟩ = some (lvV g N F lp j)) ∧ Below w.heap.size w w'
set_option maxRecDepth 100000 in
set_option maxHeartbeats 6400000 in
theorem partsOf_any {w : World} {g N h M F : Nat} {s : ByteArray} {vb : Nat → Nat} {nm : Nat → ByteArray} {n : Nat → Nat} {rw : Nat → Int} {f : Nat → Nat → ByteArray} {lp : Nat → Int} (D : DaO w g N h M vb nm n rw f lp) (hN : N ≤ 1048576) (hM : M ≤ 1048576) (hl64 : ∀ j, j < M → -9223372036854775808 ≤ lp j ∧ lp j ≤ 9223372036854775807) (hF : Fst F N rw) (b : Bool) (hb : Hid (b = true ↔ PtOk N M F rw lp)) :
    Calls Try.prog 27 #[dV s g N h M] w (PaP w g N M F lp b) := by
  unfold dV
  obtain ⟨W1, hW1, a1, b1, -⟩ := boxed w 30 #[.string s, .slice (some ⟨g, 0, none⟩) N N, .slice (some ⟨h, 0, none⟩) M M]
  obtain ⟨q1, hq1⟩ : ∃ q, w.heap.size = q := ⟨_, rfl⟩
  rw [hq1] at a1
  have HQ : Hid (w.heap.size = q1) := hq1
  have HD : Hid (DaO w g N h M vb nm n rw f lp) := D
  have hN' : (N : Int) ≤ 1048576 := by omega
  have hM' : (M : Int) ≤ 1048576 := by omega
  have hFN := hF.1
  obtain ⟨i0, hj0, hz0, hz1, hz2⟩ := info_parts infoItS
  have HF : Hid (Fst F N rw) := hF
  clear D hF
  go_enter Try.func27, Try.ntmps27
  go_wp2
  clear hW1 hq1
  go_loopw [5] (fun u wr => ∃ i : Nat, i ≤ F ∧ u = .int .i64 (i : Int) ∧ At 30 wr q1 #[.string s, .slice (some ⟨g, 0, none⟩) N N, .slice (some ⟨h, 0, none⟩) M M] ∧ Below w.heap.size w wr) (fun u _ => F - (intOf u).toNat)
  case atStart => exact ⟨0, Nat.zero_le _, rfl, a1, b1⟩
  case round =>
    clear a1 b1
    obtain ⟨i, hi, rfl, A1, B⟩ := hrel
    obtain ⟨c0, c1, c2, -⟩ := A1.open3
    have D := HD.out.below B
    by_cases hiN : i < N
    · have hiN' : (i : Int) < (N : Int) := by omega
      obtain ⟨d0, d1, d2⟩ := D.it.at hiN
      have IS := fun w => isSingle_any (nm i) (.slice (some ⟨vb i, 0, none⟩) (n i) (n i)) (rw i) w ⟨_, _, _, rfl⟩
      by_cases hiF : i < F
      · rw [HF.out.2.1 i hiF] at IS d2
        rw [show ((-1 : Int) == -1) = true from rfl] at IS
        go_wp2_with fail
        refine (IS _).mono ?_
        rintro e w2 ⟨rfl, b2⟩
        replace A1 := A1.below b2
        replace B := B.trans (b2.mono B.size)
        clear c0 c1 c2 d0 d1 d2 b2 IS D
        go_wp2
        exact ⟨⟨i + 1, by omega, by go_num, A1, B⟩, by simp [intOf]; omega⟩
      · obtain rfl : i = F := by omega
        rw [beq_eq_false_iff_ne.2 (HF.out.2.2 hiN)] at IS
        go_wp2_with fail
        refine (IS _).mono ?_
        rintro e w2 ⟨rfl, b2⟩
        replace A1 := A1.below b2
        replace B := B.trans (b2.mono B.size)
        clear c0 c1 c2 d0 d1 d2 b2 IS D
        go_wp2_with fail
        obtain ⟨o1, ho1, hsl⟩ := slice_from (g := g) (o := 0) (n := N) (c := N) (k := i) (by omega) (Nat.le_refl _)
        obtain ⟨K0, hK0⟩ : ∃ K, N - i = K := ⟨_, rfl⟩
        rw [hK0] at hsl
        obtain ⟨u0, hu0, bb⟩ : ∃ uu, w2.drew = uu ∧ Below w2.heap.size w2 uu := ⟨_, rfl, (Below.refl _ _).drew⟩
        replace A1 := A1.below bb
        replace B := B.trans (bb.mono B.size)
        have Au := A1
        clear bb
        refine wp_region_held_drew (S := Kb u0) (by kernel_rfl) (by rw [hu0]; exact Below.refl _ _) (fun hHeld => ?_)
        rw [hu0] at hHeld ⊢
        clear hu0
        have bu : Kb u0 u0 := Below.refl _ _
        change wpAnyH _ _ _ _ _ 7 #[false, false, false, false, false, false, false] _ _
        refine wpAnyH_take (i := 1) (v := .pointer (some ⟨q1, 1, none⟩)) rfl (by kernel_rfl) (by kernel_rfl) (by kernel_rfl) (fun _ _ _ h => h) (Or.inl ⟨by kernel_rfl, ?_⟩) hHeld ?_
        · intro w' hSw; go_simp
        try simp only [Act.put, List.setIfInBounds_toArray, List.set_cons_zero, List.set_cons_succ, List.getElem_toArray, List.getElem_cons_succ, List.getElem_cons_zero]
        refine wpAnyH_take (i := 2) (v := .slice ((some ⟨g, 0, none⟩)) N N) rfl (by kernel_rfl) (by kernel_rfl) (by kernel_rfl) (fun _ _ _ h => h) (Or.inl ⟨by kernel_rfl, ?_⟩) hHeld ?_
        · intro w' hSw; obtain ⟨z0, z1, z2, -⟩ := (Au.below hSw).open3; go_simp
        try simp only [Act.put, List.setIfInBounds_toArray, List.set_cons_zero, List.set_cons_succ, List.getElem_toArray, List.getElem_cons_succ, List.getElem_cons_zero]
        refine wpAnyH_take (i := 3) (v := .int .i64 ((i : Int))) rfl (by kernel_rfl) (by kernel_rfl) (by kernel_rfl) (fun _ _ _ h => h) (Or.inl ⟨by kernel_rfl, ?_⟩) hHeld ?_
        · intro w' hSw; go_simp
        try simp only [Act.put, List.setIfInBounds_toArray, List.set_cons_zero, List.set_cons_succ, List.getElem_toArray, List.getElem_cons_succ, List.getElem_cons_zero]
        refine wpAnyH_take (i := 4) (v := .slice ((some ⟨g, o1, none⟩)) K0 K0) rfl (by kernel_rfl) (by kernel_rfl) (by kernel_rfl) (fun _ _ _ h => h) (Or.inl ⟨by kernel_rfl, ?_⟩) hHeld ?_
        · intro w' hSw; go_simp
        try simp only [Act.put, List.setIfInBounds_toArray, List.set_cons_zero, List.set_cons_succ, List.getElem_toArray, List.getElem_cons_succ, List.getElem_cons_zero]
        refine wpAnyH_ready (rs := [0]) (by kernel_rfl) (by simp) ?_
        refine AllReadyH.cons rfl (fun KK hK' => ?_) AllReadyH.nil
        go_simp
        obtain ⟨u1, hVu1, A9, bb, -⟩ := boxed u0 28 #[]
        obtain ⟨g9, hg9⟩ : ∃ g, u0.heap.size = g := ⟨_, rfl⟩
        rw [hg9] at A9
        try rw [hVu1]
        try rw [hg9]
        have hwg : w.heap.size + 1 ≤ g9 := by have := A1.lt; have := HQ.out; omega
        replace A1 := A1.below bb
        replace B := B.trans (bb.mono B.size)
        replace bu : Kb u0 u1 := bu.trans (bb.mono bu.size)
        clear bb hVu1 hg9
        clear hHeld
        refine hK'.out _ _ (bu) (fun hHeld => ?_)
        clear hK' KK
        try simp only [List.setIfInBounds_toArray, List.set_cons_zero]
        refine wpAnyH_take (i := 5) (v := .slice ((some ⟨g9, 0, none⟩)) 0 0) rfl (by kernel_rfl) (by kernel_rfl) (by kernel_rfl) (fun _ _ _ h => h) (Or.inl ⟨by kernel_rfl, ?_⟩) hHeld ?_
        · intro w' hSw; go_simp
        try simp only [Act.put, List.setIfInBounds_toArray, List.set_cons_zero, List.set_cons_succ, List.getElem_toArray, List.getElem_cons_succ, List.getElem_cons_zero]
        refine wpAnyH_take (i := 6) (v := .slice ((some ⟨g, o1, none⟩)) K0 K0) rfl (by kernel_rfl) (by kernel_rfl) (by kernel_rfl) (fun _ _ _ h => h) (Or.inl ⟨by kernel_rfl, ?_⟩) hHeld ?_
        · intro w' hSw; go_simp
        try simp only [Act.put, List.setIfInBounds_toArray, List.set_cons_zero, List.set_cons_succ, List.getElem_toArray, List.getElem_cons_succ, List.getElem_cons_zero]
        refine wpAnyH_done (by kernel_rfl) ?_ _
        clear hHeld
        clear bu Au
        have G0 : Gl w u1 (.slice (some ⟨g9, 0, none⟩) 0 0) 0 [] := ⟨⟨rfl, .inr ⟨g9, 0, #[], rfl, hwg, A9, Nat.le_refl _, Nat.zero_le _, rfl, rfl⟩⟩, (fun h => by cases h), B⟩
        obtain ⟨c0, c1, c2, -⟩ := A1.open3
        clear hsl A9 hwg B hi
        go_wp2
        clear c0 c1 c2
        go_loopw [6, 7, 33] (fun t u v wr => ∃ (j x K o : Nat), j ≤ M ∧ v = .int .i64 (j : Int) ∧ atL i lp j = x ∧ x + K = N ∧ (x < N → o = x * 3) ∧ u = .slice (some ⟨g, o, none⟩) K K ∧ (∀ k, k < j → (1 ≤ lp k ∧ lp k ≤ (N : Int) - atL i lp k) ∧ OlOk (atL i lp k) (lp k).toNat rw) ∧ Gl w wr t j (lvL g N i lp j) ∧ At 30 wr q1 #[.string s, .slice (some ⟨g, 0, none⟩) N N, .slice (some ⟨h, 0, none⟩) M M]) (fun _ _ v _ => M - (intOf v).toNat)
        case atStart => exact ⟨0, i, K0, o1, Nat.zero_le _, rfl, rfl, by omega, (fun h => by have := ho1 h; omega), rfl, (fun k hk => by omega), G0, A1⟩
        case round =>
          clear G0 A1
          obtain ⟨j, x, K, o, hj, rfl, hx, hxK, ho, rfl, hall, G, A1⟩ := hrel
          have HL : Hid (∀ k, k < j → (1 ≤ lp k ∧ lp k ≤ (N : Int) - atL i lp k) ∧ OlOk (atL i lp k) (lp k).toNat rw) := hall
          have HX : Hid (atL i lp j = x) := hx
          have HO : Hid (x < N → o = x * 3) := ho
          clear hall hx ho
          obtain ⟨gl, cl, rfl, gll, glB, GC⟩ := G.open
          have HGC := GC
          clear GC
          have hK' : (K : Int) ≤ 1048576 := by omega
          by_cases hjM : j < M
          · have hjM' : (j : Int) < (M : Int) := by omega
            have e0 := Made.row (HD.out.below G.b).lo j hjM
            rw [Nat.zero_add] at e0
            have l64 := hl64 j hjM
            obtain ⟨l, hl⟩ : ∃ l, lp j = l := ⟨_, rfl⟩
            have Hl : Hid (lp j = l) := hl
            rw [hl] at e0 l64
            clear hl HGC
            have NO : ¬ ((1 ≤ l ∧ l ≤ (N : Int) - x) ∧ OlOk x l.toNat rw) → b = false := fun hno => no_of hb (fun KK => hno (by
              have := KK.1 j hjM
              rw [HX.out, Hl.out] at this
              exact this))
            have B := G.b
            by_cases h1 : l < 1
            · obtain rfl := NO (fun k => by have := k.1.1; omega)
              clear NO G A1
              go_wp2
              exact bodyPost_ret (v := .tuple #[.slice none 0 0, .slice none 0 0, .bool false]) (by simp [results, Try.results27, go_sem]) rfl ⟨_, _, rfl, (fun h => by cases h), B⟩
            by_cases h2 : (K : Int) < l
            · obtain rfl := NO (fun k => by have := k.1.2; omega)
              clear NO G A1
              go_wp2
              exact bodyPost_ret (v := .tuple #[.slice none 0 0, .slice none 0 0, .bool false]) (by simp [results, Try.results27, go_sem]) rfl ⟨_, _, rfl, (fun h => by cases h), B⟩
            obtain ⟨L, rfl⟩ : ∃ L : Nat, l = (L : Int) := ⟨l.toNat, by omega⟩
            have hst := slice_to (g := g) (o := o) (n := K) (c := K) (k := L) (by omega)
            have HO2 : Hid (o = x * 3) := HO.out (by omega)
            obtain ⟨y1, hy1⟩ := bool_of (OlOk x L rw)
            have OL := oneLoop_any (C := K) (HD.out.below B).it HO2.out (show x + L ≤ N by omega) (by omega) hN y1 hy1
            have HY : Hid (y1 = true ↔ OlOk x L rw) := hy1
            clear hy1
            go_wp2_with fail
            refine OL.mono ?_
            rintro e w5 ⟨rfl, b5⟩
            replace G := G.below b5
            replace A1 := A1.below b5
            replace B := B.trans (b5.mono B.size)
            clear OL b5 e0 gll glB
            cases y1
            · obtain rfl := NO (fun k => iff_no HY.out (by have := k.2; rw [Int.toNat_natCast] at this; exact this))
              clear NO G A1 HY
              go_wp2
              exact bodyPost_ret (v := .tuple #[.slice none 0 0, .slice none 0 0, .bool false]) (by simp [results, Try.results27, go_sem]) rfl ⟨_, _, rfl, (fun h => by cases h), B⟩
            have HY1 : Hid (OlOk x L rw) := HY.out.1 rfl
            clear HY NO B
            obtain ⟨o2, ho2, hsf⟩ := slice_from (g := g) (o := o) (n := K) (c := K) (k := L) (by omega) (Nat.le_refl _)
            obtain ⟨K2, hK2⟩ : ∃ K2, K - L = K2 := ⟨_, rfl⟩
            rw [hK2] at hsf
            have HV : Hid (lvV g N i lp j = .slice (some ⟨g, o, none⟩) L K) := by
              show Value.slice (some ⟨g, atL i lp j * 3, none⟩) (lp j).toNat (N - atL i lp j) = _
              rw [HX.out, Hl.out, Int.toNat_natCast, HO2.out, show N - x = K by omega]
            have HX2 : Hid (atL i lp (j + 1) = x + L) := by
              show atL i lp j + (lp j).toNat = x + L
              rw [HX.out, Hl.out, Int.toNat_natCast]
            have HL2 : Hid (∀ k, k < j + 1 → (1 ≤ lp k ∧ lp k ≤ (N : Int) - atL i lp k) ∧ OlOk (atL i lp k) (lp k).toNat rw) := show ∀ k, k < j + 1 → (1 ≤ lp k ∧ lp k ≤ (N : Int) - atL i lp k) ∧ OlOk (atL i lp k) (lp k).toNat rw from fun k hk => by
              by_cases e : k = j
              · rw [e, HX.out, Hl.out, Int.toNat_natCast]
                exact ⟨by omega, HY1.out⟩
              · exact HL.out k (by omega)
            have HO3 : Hid (x + L < N → o2 = (x + L) * 3) := show x + L < N → o2 = (x + L) * 3 from fun h => by have := ho2 (by omega); have := HO2.out; omega
            have HK2 : Hid (x + L + K2 = N) := by show _ = _; omega
            clear HL HY1 hK2 ho2
            go_wp2_with fail
            obtain ⟨u0, hu0, bb⟩ : ∃ uu, w5.drew = uu ∧ Below w5.heap.size w5 uu := ⟨_, rfl, (Below.refl _ _).drew⟩
            replace A1 := A1.below bb
            replace G := G.below bb
            clear bb
            refine wp_region_held_drew (S := AnyW) (by kernel_rfl) (by rw [hu0]; exact trivial) (fun hHeld => ?_)
            rw [hu0] at hHeld ⊢
            clear hu0
            change wpAnyH _ _ _ _ _ 11 #[false, false, false, false, false, false, false, false, false, false, false] _ _
            refine wpAnyH_take (i := 0) (v := .slice ((some ⟨gl, 0, none⟩)) j cl) rfl (by kernel_rfl) (by kernel_rfl) (by kernel_rfl) (fun _ _ _ h => h) (Or.inl ⟨by kernel_rfl, ?_⟩) hHeld ?_
            · intro w' hSw; go_simp
            try simp only [Act.put, List.setIfInBounds_toArray, List.set_cons_zero, List.set_cons_succ, List.getElem_toArray, List.getElem_cons_zero]
            refine wpAnyH_take (i := 1) (v := .slice ((some ⟨g, o, none⟩)) K K) rfl (by kernel_rfl) (by kernel_rfl) (by kernel_rfl) (fun _ _ _ h => h) (Or.inl ⟨by kernel_rfl, ?_⟩) hHeld ?_
            · intro w' hSw; go_simp
            try simp only [Act.put, List.setIfInBounds_toArray, List.set_cons_zero, List.set_cons_succ, List.getElem_toArray, List.getElem_cons_succ, List.getElem_cons_zero]
            refine wpAnyH_take (i := 2) (v := .int .i64 ((L : Int))) rfl (by kernel_rfl) (by kernel_rfl) (by kernel_rfl) (fun _ _ _ h => h) (Or.inl ⟨by kernel_rfl, ?_⟩) hHeld ?_
            · intro w' hSw; go_simp
            try simp only [Act.put, List.setIfInBounds_toArray, List.set_cons_zero, List.set_cons_succ, List.getElem_toArray, List.getElem_cons_succ, List.getElem_cons_zero]
            refine wpAnyH_take (i := 3) (v := .slice ((some ⟨g, o, none⟩)) L K) rfl (by kernel_rfl) (by kernel_rfl) (by kernel_rfl) (fun _ _ _ h => h) (Or.inl ⟨by kernel_rfl, ?_⟩) hHeld ?_
            · intro w' hSw; go_simp
            try simp only [Act.put, List.setIfInBounds_toArray, List.set_cons_zero, List.set_cons_succ, List.getElem_toArray, List.getElem_cons_succ, List.getElem_cons_zero]
            refine wpAnyH_take (i := 6) (v := .slice ((some ⟨g, o, none⟩)) K K) rfl (by kernel_rfl) (by kernel_rfl) (by kernel_rfl) (fun _ _ _ h => h) (Or.inl ⟨by kernel_rfl, ?_⟩) hHeld ?_
            · intro w' hSw; go_simp
            try simp only [Act.put, List.setIfInBounds_toArray, List.set_cons_zero, List.set_cons_succ, List.getElem_toArray, List.getElem_cons_succ, List.getElem_cons_zero]
            refine wpAnyH_take (i := 7) (v := .int .i64 ((L : Int))) rfl (by kernel_rfl) (by kernel_rfl) (by kernel_rfl) (fun _ _ _ h => h) (Or.inl ⟨by kernel_rfl, ?_⟩) hHeld ?_
            · intro w' hSw; go_simp
            try simp only [Act.put, List.setIfInBounds_toArray, List.set_cons_zero, List.set_cons_succ, List.getElem_toArray, List.getElem_cons_succ, List.getElem_cons_zero]
            refine wpAnyH_take (i := 8) (v := .slice ((some ⟨g, o2, none⟩)) K2 K2) rfl (by kernel_rfl) (by kernel_rfl) (by kernel_rfl) (fun _ _ _ h => h) (Or.inl ⟨by kernel_rfl, ?_⟩) hHeld ?_
            · intro w' hSw; go_simp
            try simp only [Act.put, List.setIfInBounds_toArray, List.set_cons_zero, List.set_cons_succ, List.getElem_toArray, List.getElem_cons_succ, List.getElem_cons_zero]
            refine wpAnyH_ready (rs := [4]) (by kernel_rfl) (by simp) ?_
            refine AllReadyH.cons rfl (fun KK hK' => ?_) AllReadyH.nil
            go_simp
            obtain ⟨u1, hVu1, A9, bb, -⟩ := boxed u0 28 #[.slice (some ⟨g, o, none⟩) L K]
            obtain ⟨g9, hg9⟩ : ∃ g, u0.heap.size = g := ⟨_, rfl⟩
            rw [hg9] at A9
            try rw [hVu1]
            try rw [hg9]
            replace A1 := A1.below bb
            replace G := G.below bb
            clear bb hVu1 hg9
            clear hHeld
            refine hK'.out _ _ (trivial) (fun hHeld => ?_)
            clear hK' KK
            try simp only [List.setIfInBounds_toArray, List.set_cons_zero, List.set_cons_succ]
            refine wpAnyH_ready (rs := [5]) (by kernel_rfl) (by simp) ?_
            refine AllReadyH.cons rfl (fun KK hK' => ?_) AllReadyH.nil
            have hown := G.own
            have hkk : w.heap.size + 1 ≤ u1.heap.size := by have := A1.lt; have := HQ.out; omega
            refine step_append_at _ (by rfl) _ _ _ (by rfl) (w.heap.size + 1) 28 i0 _ 1 24 Try.underlying50 hj0 hz0 hz1 hz2 rfl (by omega) (.slice (some ⟨gl, 0, none⟩) j cl) j (lvL g N i lp j) (by rfl) hown ⟨g9, 0, none⟩ 1 1 [.slice (some ⟨g, o, none⟩) L K] (by rfl) (by rfl) (news1s A9) (by simp [Value.oneCell']) (by unfold maxLen; omega) (by omega) hkk ?_
            intro v2 u2 hown2 hgrow2 hne2 hat2
            obtain ⟨gn, cn, rfl⟩ : ∃ g6 c6, v2 = .slice (some ⟨g6, 0, none⟩) (j + 1) c6 := by
              rcases hown2.2 with ⟨e1, -⟩ | ⟨g6, c6, cur6, e1, -⟩
              · exact absurd (hne2.1 e1).1 (fun h => by cases h)
              · exact ⟨g6, c6, e1⟩
            have G3 := G.grow hown2 hgrow2 (fun h => by cases h)
            have A3 : At 30 u2 q1 #[.string s, .slice (some ⟨g, 0, none⟩) N N, .slice (some ⟨h, 0, none⟩) M M] := (hgrow2.block q1 A1.lt (fun e => by have := (gs_ge G.own e.symm).1; have := HQ.out; omega)).trans A1
            clear hown hown2 hgrow2 hne2 hat2 A9 hkk A1 G
            clear hHeld
            refine hK'.out _ _ (trivial) (fun hHeld => ?_)
            clear hK' KK
            try simp only [List.setIfInBounds_toArray, List.set_cons_zero, List.set_cons_succ]
            refine wpAnyH_take (i := 9) (v := .slice ((some ⟨gn, 0, none⟩)) ((j + 1)) cn) rfl (by kernel_rfl) (by kernel_rfl) (by kernel_rfl) (fun _ _ _ h => h) (Or.inl ⟨by kernel_rfl, ?_⟩) hHeld ?_
            · intro w' hSw; go_simp
            try simp only [Act.put, List.setIfInBounds_toArray, List.set_cons_zero, List.set_cons_succ, List.getElem_toArray, List.getElem_cons_succ, List.getElem_cons_zero]
            refine wpAnyH_take (i := 10) (v := .slice ((some ⟨g, o2, none⟩)) K2 K2) rfl (by kernel_rfl) (by kernel_rfl) (by kernel_rfl) (fun _ _ _ h => h) (Or.inl ⟨by kernel_rfl, ?_⟩) hHeld ?_
            · intro w' hSw; go_simp
            try simp only [Act.put, List.setIfInBounds_toArray, List.set_cons_zero, List.set_cons_succ, List.getElem_toArray, List.getElem_cons_succ, List.getElem_cons_zero]
            refine wpAnyH_done (by kernel_rfl) ?_ _
            clear hHeld
            have HG : Hid (Gl w u2 (.slice (some ⟨gn, 0, none⟩) (j + 1) cn) (j + 1) (lvL g N i lp (j + 1))) := by
              show Gl _ _ _ _ (lvL g N i lp j ++ [lvV g N i lp j])
              rw [HV.out]
              exact G3
            clear G3
            go_wp2
            exact ⟨⟨j + 1, x + L, K2, o2, by omega, by go_num, HX2.out, HK2.out, HO3.out, rfl, HL2.out, HG.out, A3⟩, by simp [intOf]; omega⟩
          · have hjM' : ¬ (j : Int) < (M : Int) := by omega
            obtain rfl : j = M := by omega
            have hst := slice_to (g := g) (o := 0) (n := N) (c := N) (k := i) (by omega)
            obtain ⟨c0, c1, c2, -⟩ := A1.open3
            have B := G.b
            have HC : Hid (∀ k, k < j → wr.cell? ⟨gl, k, none⟩ = some (lvV g N i lp k)) := show ∀ k, k < j → wr.cell? ⟨gl, k, none⟩ = some (lvV g N i lp k) from fun k hk => HGC k _ hk (lvL_at g N i lp hk)
            clear HGC
            by_cases hK0' : K = 0
            · obtain rfl : b = true := hb.out.2 ⟨HL.out, by rw [HX.out]; omega⟩
              have hq : ((K : Int) == 0) = true := by simp [hK0']
              clear hK0' G A1
              go_wp2
              exact bodyPost_ret (v := .tuple #[.slice (some ⟨g, 0, none⟩) i N, .slice (some ⟨gl, 0, none⟩) j cl, .bool true]) (by simp [results, Try.results27, go_sem]) rfl ⟨_, _, rfl, (fun _ => ⟨rfl, _, _, rfl, gll, HC.out⟩), B⟩
            · obtain rfl := no_of hb (fun KK => hK0' (by have := KK.2; rw [HX.out] at this; omega))
              have hq : ((K : Int) == 0) = false := beq_eq_false_iff_ne.2 (by omega)
              clear hK0' G A1
              go_wp2
              exact bodyPost_ret (v := .tuple #[.slice (some ⟨g, 0, none⟩) i N, .slice (some ⟨gl, 0, none⟩) j cl, .bool false]) (by simp [results, Try.results27, go_sem]) rfl ⟨_, _, rfl, (fun h => by cases h), B⟩
    · have hiN' : ¬ (i : Int) < (N : Int) := by omega
      obtain rfl : i = F := by omega
      clear D
      go_wp2_with fail
      clear c0 c1 c2
      obtain ⟨o1, ho1, hsl⟩ := slice_from (g := g) (o := 0) (n := N) (c := N) (k := i) (by omega) (Nat.le_refl _)
      obtain ⟨K0, hK0⟩ : ∃ K, N - i = K := ⟨_, rfl⟩
      rw [hK0] at hsl
      obtain ⟨u0, hu0, bb⟩ : ∃ uu, wr.drew = uu ∧ Below wr.heap.size wr uu := ⟨_, rfl, (Below.refl _ _).drew⟩
      replace A1 := A1.below bb
      replace B := B.trans (bb.mono B.size)
      have Au := A1
      clear bb
      refine wp_region_held_drew (S := Kb u0) (by kernel_rfl) (by rw [hu0]; exact Below.refl _ _) (fun hHeld => ?_)
      rw [hu0] at hHeld ⊢
      clear hu0
      have bu : Kb u0 u0 := Below.refl _ _
      change wpAnyH _ _ _ _ _ 7 #[false, false, false, false, false, false, false] _ _
      refine wpAnyH_take (i := 1) (v := .pointer (some ⟨q1, 1, none⟩)) rfl (by kernel_rfl) (by kernel_rfl) (by kernel_rfl) (fun _ _ _ h => h) (Or.inl ⟨by kernel_rfl, ?_⟩) hHeld ?_
      · intro w' hSw; go_simp
      try simp only [Act.put, List.setIfInBounds_toArray, List.set_cons_zero, List.set_cons_succ, List.getElem_toArray, List.getElem_cons_succ, List.getElem_cons_zero]
      refine wpAnyH_take (i := 2) (v := .slice ((some ⟨g, 0, none⟩)) N N) rfl (by kernel_rfl) (by kernel_rfl) (by kernel_rfl) (fun _ _ _ h => h) (Or.inl ⟨by kernel_rfl, ?_⟩) hHeld ?_
      · intro w' hSw; obtain ⟨z0, z1, z2, -⟩ := (Au.below hSw).open3; go_simp
      try simp only [Act.put, List.setIfInBounds_toArray, List.set_cons_zero, List.set_cons_succ, List.getElem_toArray, List.getElem_cons_succ, List.getElem_cons_zero]
      refine wpAnyH_take (i := 3) (v := .int .i64 ((i : Int))) rfl (by kernel_rfl) (by kernel_rfl) (by kernel_rfl) (fun _ _ _ h => h) (Or.inl ⟨by kernel_rfl, ?_⟩) hHeld ?_
      · intro w' hSw; go_simp
      try simp only [Act.put, List.setIfInBounds_toArray, List.set_cons_zero, List.set_cons_succ, List.getElem_toArray, List.getElem_cons_succ, List.getElem_cons_zero]
      refine wpAnyH_take (i := 4) (v := .slice ((some ⟨g, o1, none⟩)) K0 K0) rfl (by kernel_rfl) (by kernel_rfl) (by kernel_rfl) (fun _ _ _ h => h) (Or.inl ⟨by kernel_rfl, ?_⟩) hHeld ?_
      · intro w' hSw; go_simp
      try simp only [Act.put, List.setIfInBounds_toArray, List.set_cons_zero, List.set_cons_succ, List.getElem_toArray, List.getElem_cons_succ, List.getElem_cons_zero]
      refine wpAnyH_ready (rs := [0]) (by kernel_rfl) (by simp) ?_
      refine AllReadyH.cons rfl (fun KK hK' => ?_) AllReadyH.nil
      go_simp
      obtain ⟨u1, hVu1, A9, bb, -⟩ := boxed u0 28 #[]
      obtain ⟨g9, hg9⟩ : ∃ g, u0.heap.size = g := ⟨_, rfl⟩
      rw [hg9] at A9
      try rw [hVu1]
      try rw [hg9]
      have hwg : w.heap.size + 1 ≤ g9 := by have := A1.lt; have := HQ.out; omega
      replace A1 := A1.below bb
      replace B := B.trans (bb.mono B.size)
      replace bu : Kb u0 u1 := bu.trans (bb.mono bu.size)
      clear bb hVu1 hg9
      clear hHeld
      refine hK'.out _ _ (bu) (fun hHeld => ?_)
      clear hK' KK
      try simp only [List.setIfInBounds_toArray, List.set_cons_zero]
      refine wpAnyH_take (i := 5) (v := .slice ((some ⟨g9, 0, none⟩)) 0 0) rfl (by kernel_rfl) (by kernel_rfl) (by kernel_rfl) (fun _ _ _ h => h) (Or.inl ⟨by kernel_rfl, ?_⟩) hHeld ?_
      · intro w' hSw; go_simp
      try simp only [Act.put, List.setIfInBounds_toArray, List.set_cons_zero, List.set_cons_succ, List.getElem_toArray, List.getElem_cons_succ, List.getElem_cons_zero]
      refine wpAnyH_take (i := 6) (v := .slice ((some ⟨g, o1, none⟩)) K0 K0) rfl (by kernel_rfl) (by kernel_rfl) (by kernel_rfl) (fun _ _ _ h => h) (Or.inl ⟨by kernel_rfl, ?_⟩) hHeld ?_
      · intro w' hSw; go_simp
      try simp only [Act.put, List.setIfInBounds_toArray, List.set_cons_zero, List.set_cons_succ, List.getElem_toArray, List.getElem_cons_succ, List.getElem_cons_zero]
      refine wpAnyH_done (by kernel_rfl) ?_ _
      clear hHeld
      clear bu Au
      have G0 : Gl w u1 (.slice (some ⟨g9, 0, none⟩) 0 0) 0 [] := ⟨⟨rfl, .inr ⟨g9, 0, #[], rfl, hwg, A9, Nat.le_refl _, Nat.zero_le _, rfl, rfl⟩⟩, (fun h => by cases h), B⟩
      obtain ⟨c0, c1, c2, -⟩ := A1.open3
      clear hsl A9 hwg B hi
      go_wp2
      clear c0 c1 c2
      go_loopw [6, 7, 33] (fun t u v wr => ∃ (j x K o : Nat), j ≤ M ∧ v = .int .i64 (j : Int) ∧ atL i lp j = x ∧ x + K = N ∧ (x < N → o = x * 3) ∧ u = .slice (some ⟨g, o, none⟩) K K ∧ (∀ k, k < j → (1 ≤ lp k ∧ lp k ≤ (N : Int) - atL i lp k) ∧ OlOk (atL i lp k) (lp k).toNat rw) ∧ Gl w wr t j (lvL g N i lp j) ∧ At 30 wr q1 #[.string s, .slice (some ⟨g, 0, none⟩) N N, .slice (some ⟨h, 0, none⟩) M M]) (fun _ _ v _ => M - (intOf v).toNat)
      case atStart => exact ⟨0, i, K0, o1, Nat.zero_le _, rfl, rfl, by omega, (fun h => by have := ho1 h; omega), rfl, (fun k hk => by omega), G0, A1⟩
      case round =>
        clear G0 A1
        obtain ⟨j, x, K, o, hj, rfl, hx, hxK, ho, rfl, hall, G, A1⟩ := hrel
        have HL : Hid (∀ k, k < j → (1 ≤ lp k ∧ lp k ≤ (N : Int) - atL i lp k) ∧ OlOk (atL i lp k) (lp k).toNat rw) := hall
        have HX : Hid (atL i lp j = x) := hx
        have HO : Hid (x < N → o = x * 3) := ho
        clear hall hx ho
        obtain ⟨gl, cl, rfl, gll, glB, GC⟩ := G.open
        have HGC := GC
        clear GC
        have hK' : (K : Int) ≤ 1048576 := by omega
        by_cases hjM : j < M
        · have hjM' : (j : Int) < (M : Int) := by omega
          have e0 := Made.row (HD.out.below G.b).lo j hjM
          rw [Nat.zero_add] at e0
          have l64 := hl64 j hjM
          obtain ⟨l, hl⟩ : ∃ l, lp j = l := ⟨_, rfl⟩
          have Hl : Hid (lp j = l) := hl
          rw [hl] at e0 l64
          clear hl HGC
          have NO : ¬ ((1 ≤ l ∧ l ≤ (N : Int) - x) ∧ OlOk x l.toNat rw) → b = false := fun hno => no_of hb (fun KK => hno (by
            have := KK.1 j hjM
            rw [HX.out, Hl.out] at this
            exact this))
          have B := G.b
          by_cases h1 : l < 1
          · obtain rfl := NO (fun k => by have := k.1.1; omega)
            clear NO G A1
            go_wp2
            exact bodyPost_ret (v := .tuple #[.slice none 0 0, .slice none 0 0, .bool false]) (by simp [results, Try.results27, go_sem]) rfl ⟨_, _, rfl, (fun h => by cases h), B⟩
          by_cases h2 : (K : Int) < l
          · obtain rfl := NO (fun k => by have := k.1.2; omega)
            clear NO G A1
            go_wp2
            exact bodyPost_ret (v := .tuple #[.slice none 0 0, .slice none 0 0, .bool false]) (by simp [results, Try.results27, go_sem]) rfl ⟨_, _, rfl, (fun h => by cases h), B⟩
          obtain ⟨L, rfl⟩ : ∃ L : Nat, l = (L : Int) := ⟨l.toNat, by omega⟩
          have hst := slice_to (g := g) (o := o) (n := K) (c := K) (k := L) (by omega)
          have HO2 : Hid (o = x * 3) := HO.out (by omega)
          obtain ⟨y1, hy1⟩ := bool_of (OlOk x L rw)
          have OL := oneLoop_any (C := K) (HD.out.below B).it HO2.out (show x + L ≤ N by omega) (by omega) hN y1 hy1
          have HY : Hid (y1 = true ↔ OlOk x L rw) := hy1
          clear hy1
          go_wp2_with fail
          refine OL.mono ?_
          rintro e w5 ⟨rfl, b5⟩
          replace G := G.below b5
          replace A1 := A1.below b5
          replace B := B.trans (b5.mono B.size)
          clear OL b5 e0 gll glB
          cases y1
          · obtain rfl := NO (fun k => iff_no HY.out (by have := k.2; rw [Int.toNat_natCast] at this; exact this))
            clear NO G A1 HY
            go_wp2
            exact bodyPost_ret (v := .tuple #[.slice none 0 0, .slice none 0 0, .bool false]) (by simp [results, Try.results27, go_sem]) rfl ⟨_, _, rfl, (fun h => by cases h), B⟩
          have HY1 : Hid (OlOk x L rw) := HY.out.1 rfl
          clear HY NO B
          obtain ⟨o2, ho2, hsf⟩ := slice_from (g := g) (o := o) (n := K) (c := K) (k := L) (by omega) (Nat.le_refl _)
          obtain ⟨K2, hK2⟩ : ∃ K2, K - L = K2 := ⟨_, rfl⟩
          rw [hK2] at hsf
          have HV : Hid (lvV g N i lp j = .slice (some ⟨g, o, none⟩) L K) := by
            show Value.slice (some ⟨g, atL i lp j * 3, none⟩) (lp j).toNat (N - atL i lp j) = _
            rw [HX.out, Hl.out, Int.toNat_natCast, HO2.out, show N - x = K by omega]
          have HX2 : Hid (atL i lp (j + 1) = x + L) := by
            show atL i lp j + (lp j).toNat = x + L
            rw [HX.out, Hl.out, Int.toNat_natCast]
          have HL2 : Hid (∀ k, k < j + 1 → (1 ≤ lp k ∧ lp k ≤ (N : Int) - atL i lp k) ∧ OlOk (atL i lp k) (lp k).toNat rw) := show ∀ k, k < j + 1 → (1 ≤ lp k ∧ lp k ≤ (N : Int) - atL i lp k) ∧ OlOk (atL i lp k) (lp k).toNat rw from fun k hk => by
            by_cases e : k = j
            · rw [e, HX.out, Hl.out, Int.toNat_natCast]
              exact ⟨by omega, HY1.out⟩
            · exact HL.out k (by omega)
          have HO3 : Hid (x + L < N → o2 = (x + L) * 3) := show x + L < N → o2 = (x + L) * 3 from fun h => by have := ho2 (by omega); have := HO2.out; omega
          have HK2 : Hid (x + L + K2 = N) := by show _ = _; omega
          clear HL HY1 hK2 ho2
          go_wp2_with fail
          obtain ⟨u0, hu0, bb⟩ : ∃ uu, w5.drew = uu ∧ Below w5.heap.size w5 uu := ⟨_, rfl, (Below.refl _ _).drew⟩
          replace A1 := A1.below bb
          replace G := G.below bb
          clear bb
          refine wp_region_held_drew (S := AnyW) (by kernel_rfl) (by rw [hu0]; exact trivial) (fun hHeld => ?_)
          rw [hu0] at hHeld ⊢
          clear hu0
          change wpAnyH _ _ _ _ _ 11 #[false, false, false, false, false, false, false, false, false, false, false] _ _
          refine wpAnyH_take (i := 0) (v := .slice ((some ⟨gl, 0, none⟩)) j cl) rfl (by kernel_rfl) (by kernel_rfl) (by kernel_rfl) (fun _ _ _ h => h) (Or.inl ⟨by kernel_rfl, ?_⟩) hHeld ?_
          · intro w' hSw; go_simp
          try simp only [Act.put, List.setIfInBounds_toArray, List.set_cons_zero, List.set_cons_succ, List.getElem_toArray, List.getElem_cons_zero]
          refine wpAnyH_take (i := 1) (v := .slice ((some ⟨g, o, none⟩)) K K) rfl (by kernel_rfl) (by kernel_rfl) (by kernel_rfl) (fun _ _ _ h => h) (Or.inl ⟨by kernel_rfl, ?_⟩) hHeld ?_
          · intro w' hSw; go_simp
          try simp only [Act.put, List.setIfInBounds_toArray, List.set_cons_zero, List.set_cons_succ, List.getElem_toArray, List.getElem_cons_succ, List.getElem_cons_zero]
          refine wpAnyH_take (i := 2) (v := .int .i64 ((L : Int))) rfl (by kernel_rfl) (by kernel_rfl) (by kernel_rfl) (fun _ _ _ h => h) (Or.inl ⟨by kernel_rfl, ?_⟩) hHeld ?_
          · intro w' hSw; go_simp
          try simp only [Act.put, List.setIfInBounds_toArray, List.set_cons_zero, List.set_cons_succ, List.getElem_toArray, List.getElem_cons_succ, List.getElem_cons_zero]
          refine wpAnyH_take (i := 3) (v := .slice ((some ⟨g, o, none⟩)) L K) rfl (by kernel_rfl) (by kernel_rfl) (by kernel_rfl) (fun _ _ _ h => h) (Or.inl ⟨by kernel_rfl, ?_⟩) hHeld ?_
          · intro w' hSw; go_simp
          try simp only [Act.put, List.setIfInBounds_toArray, List.set_cons_zero, List.set_cons_succ, List.getElem_toArray, List.getElem_cons_succ, List.getElem_cons_zero]
          refine wpAnyH_take (i := 6) (v := .slice ((some ⟨g, o, none⟩)) K K) rfl (by kernel_rfl) (by kernel_rfl) (by kernel_rfl) (fun _ _ _ h => h) (Or.inl ⟨by kernel_rfl, ?_⟩) hHeld ?_
          · intro w' hSw; go_simp
          try simp only [Act.put, List.setIfInBounds_toArray, List.set_cons_zero, List.set_cons_succ, List.getElem_toArray, List.getElem_cons_succ, List.getElem_cons_zero]
          refine wpAnyH_take (i := 7) (v := .int .i64 ((L : Int))) rfl (by kernel_rfl) (by kernel_rfl) (by kernel_rfl) (fun _ _ _ h => h) (Or.inl ⟨by kernel_rfl, ?_⟩) hHeld ?_
          · intro w' hSw; go_simp
          try simp only [Act.put, List.setIfInBounds_toArray, List.set_cons_zero, List.set_cons_succ, List.getElem_toArray, List.getElem_cons_succ, List.getElem_cons_zero]
          refine wpAnyH_take (i := 8) (v := .slice ((some ⟨g, o2, none⟩)) K2 K2) rfl (by kernel_rfl) (by kernel_rfl) (by kernel_rfl) (fun _ _ _ h => h) (Or.inl ⟨by kernel_rfl, ?_⟩) hHeld ?_
          · intro w' hSw; go_simp
          try simp only [Act.put, List.setIfInBounds_toArray, List.set_cons_zero, List.set_cons_succ, List.getElem_toArray, List.getElem_cons_succ, List.getElem_cons_zero]
          refine wpAnyH_ready (rs := [4]) (by kernel_rfl) (by simp) ?_
          refine AllReadyH.cons rfl (fun KK hK' => ?_) AllReadyH.nil
          go_simp
          obtain ⟨u1, hVu1, A9, bb, -⟩ := boxed u0 28 #[.slice (some ⟨g, o, none⟩) L K]
          obtain ⟨g9, hg9⟩ : ∃ g, u0.heap.size = g := ⟨_, rfl⟩
          rw [hg9] at A9
          try rw [hVu1]
          try rw [hg9]
          replace A1 := A1.below bb
          replace G := G.below bb
          clear bb hVu1 hg9
          clear hHeld
          refine hK'.out _ _ (trivial) (fun hHeld => ?_)
          clear hK' KK
          try simp only [List.setIfInBounds_toArray, List.set_cons_zero, List.set_cons_succ]
          refine wpAnyH_ready (rs := [5]) (by kernel_rfl) (by simp) ?_
          refine AllReadyH.cons rfl (fun KK hK' => ?_) AllReadyH.nil
          have hown := G.own
          have hkk : w.heap.size + 1 ≤ u1.heap.size := by have := A1.lt; have := HQ.out; omega
          refine step_append_at _ (by rfl) _ _ _ (by rfl) (w.heap.size + 1) 28 i0 _ 1 24 Try.underlying50 hj0 hz0 hz1 hz2 rfl (by omega) (.slice (some ⟨gl, 0, none⟩) j cl) j (lvL g N i lp j) (by rfl) hown ⟨g9, 0, none⟩ 1 1 [.slice (some ⟨g, o, none⟩) L K] (by rfl) (by rfl) (news1s A9) (by simp [Value.oneCell']) (by unfold maxLen; omega) (by omega) hkk ?_
          intro v2 u2 hown2 hgrow2 hne2 hat2
          obtain ⟨gn, cn, rfl⟩ : ∃ g6 c6, v2 = .slice (some ⟨g6, 0, none⟩) (j + 1) c6 := by
            rcases hown2.2 with ⟨e1, -⟩ | ⟨g6, c6, cur6, e1, -⟩
            · exact absurd (hne2.1 e1).1 (fun h => by cases h)
            · exact ⟨g6, c6, e1⟩
          have G3 := G.grow hown2 hgrow2 (fun h => by cases h)
          have A3 : At 30 u2 q1 #[.string s, .slice (some ⟨g, 0, none⟩) N N, .slice (some ⟨h, 0, none⟩) M M] := (hgrow2.block q1 A1.lt (fun e => by have := (gs_ge G.own e.symm).1; have := HQ.out; omega)).trans A1
          clear hown hown2 hgrow2 hne2 hat2 A9 hkk A1 G
          clear hHeld
          refine hK'.out _ _ (trivial) (fun hHeld => ?_)
          clear hK' KK
          try simp only [List.setIfInBounds_toArray, List.set_cons_zero, List.set_cons_succ]
          refine wpAnyH_take (i := 9) (v := .slice ((some ⟨gn, 0, none⟩)) ((j + 1)) cn) rfl (by kernel_rfl) (by kernel_rfl) (by kernel_rfl) (fun _ _ _ h => h) (Or.inl ⟨by kernel_rfl, ?_⟩) hHeld ?_
          · intro w' hSw; go_simp
          try simp only [Act.put, List.setIfInBounds_toArray, List.set_cons_zero, List.set_cons_succ, List.getElem_toArray, List.getElem_cons_succ, List.getElem_cons_zero]
          refine wpAnyH_take (i := 10) (v := .slice ((some ⟨g, o2, none⟩)) K2 K2) rfl (by kernel_rfl) (by kernel_rfl) (by kernel_rfl) (fun _ _ _ h => h) (Or.inl ⟨by kernel_rfl, ?_⟩) hHeld ?_
          · intro w' hSw; go_simp
          try simp only [Act.put, List.setIfInBounds_toArray, List.set_cons_zero, List.set_cons_succ, List.getElem_toArray, List.getElem_cons_succ, List.getElem_cons_zero]
          refine wpAnyH_done (by kernel_rfl) ?_ _
          clear hHeld
          have HG : Hid (Gl w u2 (.slice (some ⟨gn, 0, none⟩) (j + 1) cn) (j + 1) (lvL g N i lp (j + 1))) := by
            show Gl _ _ _ _ (lvL g N i lp j ++ [lvV g N i lp j])
            rw [HV.out]
            exact G3
          clear G3
          go_wp2
          exact ⟨⟨j + 1, x + L, K2, o2, by omega, by go_num, HX2.out, HK2.out, HO3.out, rfl, HL2.out, HG.out, A3⟩, by simp [intOf]; omega⟩
        · have hjM' : ¬ (j : Int) < (M : Int) := by omega
          obtain rfl : j = M := by omega
          have hst := slice_to (g := g) (o := 0) (n := N) (c := N) (k := i) (by omega)
          obtain ⟨c0, c1, c2, -⟩ := A1.open3
          have B := G.b
          have HC : Hid (∀ k, k < j → wr.cell? ⟨gl, k, none⟩ = some (lvV g N i lp k)) := show ∀ k, k < j → wr.cell? ⟨gl, k, none⟩ = some (lvV g N i lp k) from fun k hk => HGC k _ hk (lvL_at g N i lp hk)
          clear HGC
          by_cases hK0' : K = 0
          · obtain rfl : b = true := hb.out.2 ⟨HL.out, by rw [HX.out]; omega⟩
            have hq : ((K : Int) == 0) = true := by simp [hK0']
            clear hK0' G A1
            go_wp2
            exact bodyPost_ret (v := .tuple #[.slice (some ⟨g, 0, none⟩) i N, .slice (some ⟨gl, 0, none⟩) j cl, .bool true]) (by simp [results, Try.results27, go_sem]) rfl ⟨_, _, rfl, (fun _ => ⟨rfl, _, _, rfl, gll, HC.out⟩), B⟩
          · obtain rfl := no_of hb (fun KK => hK0' (by have := KK.2; rw [HX.out] at this; omega))
            have hq : ((K : Int) == 0) = false := beq_eq_false_iff_ne.2 (by omega)
            clear hK0' G A1
            go_wp2
            exact bodyPost_ret (v := .tuple #[.slice (some ⟨g, 0, none⟩) i N, .slice (some ⟨gl, 0, none⟩) j cl, .bool false]) (by simp [results, Try.results27, go_sem]) rfl ⟨_, _, rfl, (fun h => by cases h), B⟩
end Go.Proofs.Ytdhfoekfejcceaa
