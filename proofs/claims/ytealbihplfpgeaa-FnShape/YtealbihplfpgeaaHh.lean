/-
  The corners one after the other, by the specification: walked.
-/
import Derived.Test.YtealbihplfpgeaaHg
import Derived.Test.YtealbihplfpgeaaHd
import Derived.Maps.AppendAt
import Derived.Lib.SliceRun
namespace Go.Proofs.Ytealbihplfpgeaa
open Go.RowKit

theorem step_append_at {P : Program} (w : World) {ops : Array Oper} {o : Oper} {a : Act} {K : Act → World → Prop} {Q : Exit → Act → World → Prop} {E : Prop} (hgd : o.guard = none) (s x : Operand) (t : TypeId)
    (ho : o.op = .call { callee := .builtin .append, args := #[s, x], argTypes := #[t, t] })
    (base : Nat) (e : TypeId) (i : TypeInfo) (z : Value) (size bytes : Nat) (ht : P.underlying t = some (.slice e)) (hi : P.info? e = some i) (hz : i.zero = some z)
    (hsize : i.size = size) (hby : i.bytes = bytes) (hzs : z.cells.size = size) (hsz : 0 < size)
    (v : Value) (n : Nat) (xs : List Value) (hs : a.eval s = v) (hown : w.ownsRow base e size v n xs)
    (ad : Addr) (m c : Nat) (news : List Value) (hx : a.eval x = .slice (some ad) m c) (hl : news.length = m * size) (hnews : ∀ j u, news[j]? = some u → w.cell? (ad.add j) = some u) (h1 : ∀ u ∈ news, u.oneCell' = true)
    (h63 : n + m ≤ maxLen) (hbytes : (n + m) * bytes ≤ 140737488355328) (hbase : base ≤ w.heap.size)
    (h : ∀ v' w', w'.ownsRow base e size v' (n + m) (xs ++ news) → w.grownBy w' v.ownBlock → (v' = .slice none 0 0 ↔ v = .slice none 0 0 ∧ m = 0) → (v'.ownBlock = v.ownBlock ∨ v'.ownBlock = some w.heap.size) → K (a.put o.dst v') w') :
    if Region.wanted o (yielded ops a.tmps) = true then Oper.wp P o a w K Q else E := by
  have hw : Region.wanted o (yielded ops a.tmps) = true := by simp [Region.wanted, hgd]
  rw [if_pos hw]
  obtain ⟨v', w', hr, h2, h3, h4, h5⟩ := run_append_own_at (P := P) w base t o.type e i z size bytes ht hi hz hsize hby hzs hsz v n xs hown ad m c news hl hnews h1 h63 hbytes hbase
  unfold Oper.wp execOp
  simp only [ho, resolve, invoke, builtin, Sem.run_bind, Sem.run_pure, Result.andThen_ok, List.map_toArray, List.map_cons, List.map_nil, hs, hx, hr]
  exact h v' w' h2 h3 h4 h5
section Shape
variable {n : Nat} {f : Nat → Int}
theorem SOk.nxOne (S : SOk n f) {i k k' : Nat} (hk : k < n) (hk' : k' < n) (h : Nx f n i k) (h' : Nx f n i k') : k' = k := by
  have h1 := h.2 k' hk' h'.1
  have h2 := h'.2 k hk h.1
  have s1 := E_swap f i k k'
  have s2 := L_swap f k k'
  rcases S.line hk hk' (show Lf f k k' = 0 by omega) with e | ⟨e1, e2⟩
  · exact e
  · have x := opp_L e1 e2 i
    have y := L_swap f k i
    have := h.1
    have := h'.1
    omega
/-- The facet that ends i's stretch on the left. -/
noncomputable def nxt (f : Nat → Int) (n i : Nat) : Nat := @dite Nat (∃ k, k < n ∧ Nx f n i k) (Classical.propDecidable _) (fun h => Classical.choose h) (fun _ => 0)
theorem SOk.nxtIs (S : SOk n f) {i : Nat} (hi : i < n) : nxt f n i < n ∧ Nx f n i (nxt f n i) := by
  have h := S.next hi
  unfold nxt
  rw [dif_pos h]
  exact Classical.choose_spec h
/-- Facets that show, from a on. -/
noncomputable def sq (f : Nat → Int) (n a : Nat) : Nat → Nat
  | 0 => a
  | t + 1 => nxt f n (sq f n a t)
theorem SOk.sqIs (S : SOk n f) {a : Nat} (ha : a < n) (sh : Sh f n a) : ∀ t, sq f n a t < n ∧ Sh f n (sq f n a t)
  | 0 => ⟨ha, sh⟩
  | t + 1 => by
    have ih := S.sqIs ha sh t
    have q := S.nxtIs ih.1
    exact ⟨q.1, S.shNext ih.1 ih.2 q.1 q.2⟩
noncomputable def sqP (f : Nat → Int) (n a t : Nat) : List (Nat × Nat) := (List.range t).map (fun t => (sq f n a t, sq f n a (t + 1)))
theorem sqP_succ (a t : Nat) : sqP f n a (t + 1) = sqP f n a t ++ [(sq f n a t, sq f n a (t + 1))] := by simp [sqP, List.range_succ]
theorem sqP_len (a t : Nat) : (sqP f n a t).length = t := by simp [sqP]
/-- What is told of the next one to the left of a, among the first k that show. -/
def NxS (f : Nat → Int) (n a : Nat) (s : Nat → Nat) (k : Nat) (v : Int) : Prop := (v = -1 ∧ ∀ j, j < k → ¬ 0 < Lf f a (s j)) ∨ ∃ x : Nat, v = x ∧ x < n ∧ Sh f n x ∧ 0 < Lf f a x ∧ ∀ j, j < k → 0 < Lf f a (s j) → Lf f (s j) x ≤ 0
theorem NxS.skip {a k : Nat} {s : Nat → Nat} {v : Int} (h : NxS f n a s k v) (hl : Lf f a (s k) ≤ 0) : NxS f n a s (k + 1) v := by
  rcases h with ⟨h1, h2⟩ | ⟨x, h1, h2, h3, h4, h5⟩
  · exact .inl ⟨h1, fun j hj => by by_cases e : j = k; rw [e]; omega; exact h2 j (by omega)⟩
  · exact .inr ⟨x, h1, h2, h3, h4, fun j hj hp => by by_cases e : j = k; rw [e] at hp; omega; exact h5 j (by omega) hp⟩
theorem NxS.stay {a k x : Nat} {s : Nat → Nat} (h : NxS f n a s k (x : Int)) (hl : Lf f (s k) x ≤ 0) : NxS f n a s (k + 1) (x : Int) := by
  rcases h with ⟨h1, h2⟩ | ⟨y, h1, h2, h3, h4, h5⟩
  · omega
  · obtain rfl : y = x := by omega
    exact .inr ⟨y, rfl, h2, h3, h4, fun j hj hp => by by_cases e : j = k; rw [e]; exact hl; exact h5 j (by omega) hp⟩
theorem NxS.first {a k : Nat} {s : Nat → Nat} (h : NxS f n a s k (-1)) (h1 : s k < n) (h2 : Sh f n (s k)) (hl : 0 < Lf f a (s k)) : NxS f n a s (k + 1) (s k : Int) := by
  rcases h with ⟨-, h3⟩ | ⟨y, h3, -⟩
  · refine .inr ⟨s k, rfl, h1, h2, hl, fun j hj hp => ?_⟩
    by_cases e : j = k
    · rw [e, L_self]; exact Int.le_refl _
    · exact absurd hp (h3 j (by omega))
  · omega
theorem NxS.turn {a k x : Nat} {s : Nat → Nat} (h : NxS f n a s k (x : Int)) (h1 : s k < n) (h2 : Sh f n (s k)) (hl : 0 < Lf f a (s k)) (hx : 0 < Lf f (s k) x) : NxS f n a s (k + 1) (s k : Int) := by
  rcases h with ⟨h3, -⟩ | ⟨y, h3, h4, h5, h6, h7⟩
  · omega
  · obtain rfl : y = x := by omega
    refine .inr ⟨s k, rfl, h1, h2, hl, fun j hj hp => ?_⟩
    by_cases e : j = k
    · rw [e, L_self]; exact Int.le_refl _
    · have := L_swap f y (s k)
      exact half_tr hp h6 hl (h7 j (by omega) hp) (by omega)
theorem SOk.nxsEnd (S : SOk n f) {a M : Nat} {s : Nat → Nat} {v : Int} (ha : a < n) (sh : Sh f n a) (hs : ∀ j, j < n → Sh f n j → ∃ t, t < M ∧ s t = j) (h : NxS f n a s M v) : v = (nxt f n a : Int) := by
  obtain ⟨q1, q2⟩ := S.nxtIs ha
  have q3 := S.shNext ha sh q1 q2
  rcases h with ⟨-, h2⟩ | ⟨x, rfl, h2, h3, h4, h5⟩
  · obtain ⟨t, ht, e⟩ := hs _ q1 q3
    have := h2 t ht
    rw [e] at this
    exact absurd q2.1 this
  · have := S.nextIs ha sh h2 h3 h4 (fun j hj shj hp => by
      obtain ⟨t, ht, rfl⟩ := hs j hj shj
      have := h5 t ht hp
      omega)
    rw [S.nxOne h2 q1 this q2]
end Shape
/-- The numbers of the facets that show, in their list. -/
noncomputable def sI (f : Nat → Int) (n k : Nat) : Nat := (shl f n).getD k 0
/-- They lie in block q. -/
def ShAt (f : Nat → Int) (n M q : Nat) (w : World) : Prop := ∃ cur : Array Value, At 2 w q cur ∧ ∀ k, k < M → cur[k]? = some (.int .i64 (sI f n k : Int))
theorem ShAt.below {f : Nat → Int} {n M q : Nat} {w w' : World} (h : ShAt f n M q w) (hb : Below w.heap.size w w') : ShAt f n M q w' := by
  obtain ⟨cur, h1, h2⟩ := h
  exact ⟨cur, h1.below hb, h2⟩
theorem ShAt.get {f : Nat → Int} {n M q : Nat} {w : World} (h : ShAt f n M q w) {k : Nat} (hk : k < M) : w.cell? ⟨q, k, none⟩ = some (.int .i64 (sI f n k : Int)) := by
  obtain ⟨cur, h1, h2⟩ := h
  exact h1.cell k (h2 k hk)
theorem ShAt.keep {w0 w w' : World} {B : Nat} {v : Value} {m : Nat} {l : List Int} {f : Nat → Int} {n M q : Nat} (s : Gat w0 w B 33 3 v m l) (hg : w.grownBy w' v.ownBlock) (h : ShAt f n M q w) : ShAt f n M q w' := by
  obtain ⟨cur, h1, h2⟩ := h
  exact ⟨cur, s.keep hg (by decide) h1, h2⟩
theorem Gat.shAt {w0 w : World} {B : Nat} {v : Value} {f : Nat → Int} {n : Nat} (s : Gat w0 w B 2 1 v (shl f n).length (toI (shl f n))) : ∃ q c, v = .slice (some ⟨q, 0, none⟩) (shl f n).length c ∧ B ≤ q ∧ ShAt f n (shl f n).length q w := by
  rcases s.own.2 with ⟨e, _⟩ | ⟨g, c, cur, e, hb, hh, hc1, hc2, hsz, ht⟩
  · exact absurd e s.nn
  · refine ⟨g, c, e, hb, cur, hh, fun i hi => ?_⟩
    have a1 : (lCells (toI (shl f n)))[i]? = some (.int .i64 (sI f n i : Int)) := by simp [lCells, toI, sI, hi]
    rw [← ht] at a1
    rw [List.getElem?_take_of_lt (by omega)] at a1
    simpa using a1
theorem sI_in {f : Nat → Int} {n k : Nat} (hk : k < (shl f n).length) : sI f n k < n ∧ Sh f n (sI f n k) := by
  have : sI f n k ∈ shl f n := by simp [sI, hk]
  exact mem_shl.1 this
theorem sI_all {f : Nat → Int} {n j : Nat} (hj : j < n) (sh : Sh f n j) : ∃ t, t < (shl f n).length ∧ sI f n t = j := by
  obtain ⟨t, ht, e⟩ := List.mem_iff_getElem.1 (mem_shl.2 ⟨hj, sh⟩)
  exact ⟨t, ht, by simp [sI, ht, e]⟩
theorem own_mono {w : World} {B C : Nat} {e : TypeId} {k : Nat} {v : Value} {n : Nat} {xs : List Value} (h : w.ownsRow B e k v n xs) (hC : C ≤ B) : w.ownsRow C e k v n xs := by
  refine ⟨h.1, h.2.imp id ?_⟩
  rintro ⟨g, cap, cur, rfl, h1, h2⟩
  exact ⟨g, cap, cur, rfl, Nat.le_trans hC h1, h2⟩
theorem newsL {w : World} {b o : Nat} {l : List Int} (h : ∀ j, j < l.length → w.cell? ⟨b, o + j, none⟩ = some (.int .i64 (l.getD j 0))) : ∀ j u, (lCells l)[j]? = some u → w.cell? ((⟨b, o, none⟩ : Addr).add j) = some u := by
  intro j u hu
  have hj : j < l.length := by
    have := (List.getElem?_eq_some_iff.1 hu).1
    simpa [lCells] using this
  have hc := h j hj
  have e : (lCells l)[j]? = some (.int .i64 (l.getD j 0)) := by simp [lCells, hj]
  rw [e] at hu
  rw [hu] at hc
  by_cases e : j = 0
  · subst e; simpa [Addr.add] using hc
  · simpa [Addr.add, e] using hc
theorem tris_get (f : Nat → Int) : ∀ (l : List (Nat × Nat)) (j : Nat) (hj : j < l.length), (tris f l).getD (j * 3) 0 = cX f l[j].1 l[j].2 ∧ (tris f l).getD (j * 3 + 1) 0 = cY f l[j].1 l[j].2 ∧ (tris f l).getD (j * 3 + 2) 0 = cD f l[j].1 l[j].2
  | [], j, hj => by simp at hj
  | p :: l, 0, _ => by simp [tris, tri]
  | p :: l, j + 1, hj => by
    have ih := tris_get f l j (by simpa using hj)
    have e : tris f (p :: l) = tri f p ++ tris f l := by simp [tris]
    have e2 : (tri f p).length = 3 := rfl
    rw [e]
    simp only [List.getElem_cons_succ]
    refine ⟨?_, ?_, ?_⟩
    · rw [← ih.1]; simp only [List.getD_eq_getElem?_getD]; rw [List.getElem?_append_right (by omega)]; congr 2; omega
    · rw [← ih.2.1]; simp only [List.getD_eq_getElem?_getD]; rw [List.getElem?_append_right (by omega)]; congr 2; omega
    · rw [← ih.2.2]; simp only [List.getD_eq_getElem?_getD]; rw [List.getElem?_append_right (by omega)]; congr 2; omega
set_option maxRecDepth 100000 in
set_option maxHeartbeats 8000000 in
theorem specCorners_yes {w : World} {g n c : Nat} {f : Nat → Int} (S : SOk n f) (h : Trips w g n f) {M a0 : Nat} (hM : (shl f n).length = M) (ha0 : sI f n 0 = a0) (hpos : 0 < M) : Calls Try.prog 19 #[.slice (some ⟨g, 0, none⟩) n c] w fun e w' => ∃ v r, e = .returned v ∧ r ≤ M ∧ Gat w w' w.heap.size 33 3 v M (tris f ((sqP f n a0 M).drop r ++ (sqP f n a0 M).take r)) := by
  have hn := S.hi
  have hn' : (n : Int) ≤ 40 := by omega
  have hMn : (shl f n).length ≤ n := shTo_le f n n
  obtain ⟨i0, hi0, hz0, hz1, hz2⟩ := info_parts infoCorner
  obtain ⟨V, hV, A0, B, -⟩ := boxed w 33 #[]
  have R : Gat w V w.heap.size 33 3 (.slice (some ⟨w.heap.size, 0, none⟩) 0 0) 0 [] := Gat.start A0 B
  have hbs : ∀ w, (Instr.buildSlice 30 0 #[]).run Try.prog w = .ok (.slice (some ⟨w.heap.size, 0, none⟩) 0 0) (w.alloc (.cells #[] 33)) := fun _ => by kernel_rfl
  go_enter Try.func19, Try.ntmps19
  go_wp2_with fail
  refine (specShows_yes S (h.below B)).mono ?_
  rintro e w1 ⟨v, rfl, G⟩
  obtain ⟨gs, cs, rfl, -, T⟩ := G.shAt
  replace R := R.below G.b
  clear hV A0 B G
  have sin := fun k (hk : k < (shl f n).length) => sI_in hk
  have sall := fun j (hj : j < n) (sh : Sh f n j) => sI_all hj sh
  rw [hM] at T hMn sin sall ⊢
  have hM0 : ¬ (M : Int) = 0 := by omega
  have hM1 : (0 : Int) < (M : Int) := by omega
  have hM2 : ((M : Int) == 0) = false := by rw [beq_eq_false_iff_ne]; exact hM0
  have a0in := sin 0 (by omega)
  have c0 := T.get (k := 0) (by omega)
  rw [ha0] at c0 a0in
  clear hM ha0
  have sqin := S.sqIs a0in.1 a0in.2
  go_wp2
  clear c0
  go_loopw [3, 5, 6] (fun s q r wr => ∃ (t a : Nat), t ≤ M ∧ sq f n a0 t = a ∧ q = .int .i64 (a : Int) ∧ r = .int .i64 (t : Int) ∧ ShAt f n M gs wr ∧ Gat w wr w.heap.size 33 3 s t (tris f (sqP f n a0 t))) (fun _ _ r _ => M - (intOf r).toNat)
  case atStart => exact ⟨0, a0, Nat.zero_le _, rfl, rfl, rfl, T, R⟩
  case round =>
    clear R T
    obtain ⟨t, a, ht', hsq, rfl, rfl, T, R⟩ := hrel
    by_cases ht : t < M
    · have htlt : (t : Int) < (M : Int) := by omega
      have ain := sqin t
      rw [hsq] at ain
      have ha := ain.1
      have ra := Rt.in (S.right a ha)
      go_wp2
      go_loopw [7, 8] (fun s q wr => ∃ (v : Int) (k : Nat), k ≤ M ∧ s = .int .i64 v ∧ q = .int .i64 (k : Int) ∧ NxS f n a (sI f n) k v ∧ ShAt f n M gs wr ∧ Gat w wr w.heap.size 33 3 u3 t (tris f (sqP f n a0 t))) (fun _ q _ => M - (intOf q).toNat)
      case atStart => exact ⟨-1, 0, Nat.zero_le _, rfl, rfl, .inl ⟨rfl, fun j hj => by omega⟩, T, R⟩
      case round =>
        clear R T
        obtain ⟨v, k, hk', rfl, rfl, hN, T, R⟩ := hrel
        by_cases hk : k < M
        · have hklt : (k : Int) < (M : Int) := by omega
          have bin := sin k hk
          obtain ⟨b, hb'⟩ : ∃ b, sI f n k = b := ⟨_, rfl⟩
          have n1 := fun z => hN.skip (k := k) z
          have n2 : v = -1 → 0 < Lf f a b → NxS f n a (sI f n) (k + 1) (b : Int) := fun e z => by subst e; rw [← hb'] at z ⊢; exact hN.first bin.1 bin.2 z
          have n3 : ∀ x : Nat, v = x → Lf f b x ≤ 0 → NxS f n a (sI f n) (k + 1) (x : Int) := fun x e z => by subst e; rw [← hb'] at z; exact hN.stay z
          have n4 : ∀ x : Nat, v = x → 0 < Lf f a b → 0 < Lf f b x → NxS f n a (sI f n) (k + 1) (b : Int) := fun x e z1 z2 => by subst e; rw [← hb'] at z1 z2 ⊢; exact hN.turn bin.1 bin.2 z1 z2
          have n5 : v = -1 ∨ ∃ x : Nat, v = x ∧ x < n := by
            rcases hN with ⟨h1, -⟩ | ⟨x, h1, h2, -⟩
            · exact .inl h1
            · exact .inr ⟨x, h1, h2⟩
          rw [hb'] at bin n1
          have hb := bin.1
          have rb := Rt.in (S.right b hb)
          have L := h.below R.b
          obtain ⟨C, hC⟩ : ∃ C, Lf f a b = C := ⟨_, rfl⟩
          rw [hC] at n1 n2 n4
          have HN : Hid ((C ≤ 0 → NxS f n a (sI f n) (k + 1) v) ∧ (v = -1 → 0 < C → NxS f n a (sI f n) (k + 1) (b : Int)) ∧ (∀ x : Nat, v = x → Lf f b x ≤ 0 → NxS f n a (sI f n) (k + 1) (x : Int)) ∧ (∀ x : Nat, v = x → 0 < C → 0 < Lf f b x → NxS f n a (sI f n) (k + 1) (b : Int))) := ⟨n1, n2, n3, n4⟩
          clear hN n1 n2 n3 n4 bin
          go_wp2_with fail
          obtain ⟨u0, hu0, bb⟩ : ∃ uu, wr.drew = uu ∧ Below wr.heap.size wr uu := ⟨_, rfl, (Below.refl _ _).drew⟩
          replace L := L.below bb
          replace T := T.below bb
          replace R := R.below bb
          clear bb
          refine wp_region_held_drew (S := Kb u0) (by kernel_rfl) (by rw [hu0]; exact Below.refl _ _) (fun hHeld => ?_)
          rw [hu0] at hHeld ⊢
          clear hu0
          have bu : Kb u0 u0 := Below.refl _ _
          change wpAnyH _ _ _ _ _ 13 #[false, false, false, false, false, false, false, false, false, false, false, false, false] _ _
          refine wpAnyH_take (i := 0) (v := .slice (some ⟨g, 0, none⟩) n c) rfl (by kernel_rfl) (by kernel_rfl) (by kernel_rfl) (fun _ _ _ h => h) (Or.inl ⟨by kernel_rfl, ?_⟩) hHeld ?_
          · intro w' hSw; go_simp
          try simp only [Act.put, List.setIfInBounds_toArray, List.set_cons_zero, List.set_cons_succ, List.getElem_toArray, List.getElem_cons_zero]
          refine wpAnyH_take (i := 1) (v := .int .i64 (a : Int)) rfl (by kernel_rfl) (by kernel_rfl) (by kernel_rfl) (fun _ _ _ h => h) (Or.inl ⟨by kernel_rfl, ?_⟩) hHeld ?_
          · intro w' hSw; go_simp
          try simp only [Act.put, List.setIfInBounds_toArray, List.set_cons_zero, List.set_cons_succ, List.getElem_toArray, List.getElem_cons_succ, List.getElem_cons_zero]
          refine wpAnyH_take (i := 2) (v := .pointer (some ⟨g, a * 3, none⟩)) rfl (by kernel_rfl) (by kernel_rfl) (by kernel_rfl) (fun _ _ _ h => h) (Or.inl ⟨by kernel_rfl, ?_⟩) hHeld ?_
          · intro w' hSw; go_simp
          try simp only [Act.put, List.setIfInBounds_toArray, List.set_cons_zero, List.set_cons_succ, List.getElem_toArray, List.getElem_cons_succ, List.getElem_cons_zero]
          refine wpAnyH_take (i := 3) (v := fV (f (a * 3)) (f (a * 3 + 1)) (f (a * 3 + 2))) rfl (by kernel_rfl) (by kernel_rfl) (by kernel_rfl) (fun _ _ _ h => h) (Or.inl ⟨by kernel_rfl, ?_⟩) hHeld ?_
          · intro w' hSw; have zz := (L.below hSw).open a ha; obtain ⟨z0, z1, z2⟩ := zz; go_simp
          try simp only [Act.put, List.setIfInBounds_toArray, List.set_cons_zero, List.set_cons_succ, List.getElem_toArray, List.getElem_cons_succ, List.getElem_cons_zero]
          refine wpAnyH_take (i := 4) (v := .slice (some ⟨g, 0, none⟩) n c) rfl (by kernel_rfl) (by kernel_rfl) (by kernel_rfl) (fun _ _ _ h => h) (Or.inl ⟨by kernel_rfl, ?_⟩) hHeld ?_
          · intro w' hSw; go_simp
          try simp only [Act.put, List.setIfInBounds_toArray, List.set_cons_zero, List.set_cons_succ, List.getElem_toArray, List.getElem_cons_succ, List.getElem_cons_zero]
          refine wpAnyH_take (i := 5) (v := .slice (some ⟨gs, 0, none⟩) M cs) rfl (by kernel_rfl) (by kernel_rfl) (by kernel_rfl) (fun _ _ _ h => h) (Or.inl ⟨by kernel_rfl, ?_⟩) hHeld ?_
          · intro w' hSw; go_simp
          try simp only [Act.put, List.setIfInBounds_toArray, List.set_cons_zero, List.set_cons_succ, List.getElem_toArray, List.getElem_cons_succ, List.getElem_cons_zero]
          refine wpAnyH_take (i := 6) (v := .int .i64 (k : Int)) rfl (by kernel_rfl) (by kernel_rfl) (by kernel_rfl) (fun _ _ _ h => h) (Or.inl ⟨by kernel_rfl, ?_⟩) hHeld ?_
          · intro w' hSw; go_simp
          try simp only [Act.put, List.setIfInBounds_toArray, List.set_cons_zero, List.set_cons_succ, List.getElem_toArray, List.getElem_cons_succ, List.getElem_cons_zero]
          refine wpAnyH_take (i := 7) (v := .pointer (some ⟨gs, k, none⟩)) rfl (by kernel_rfl) (by kernel_rfl) (by kernel_rfl) (fun _ _ _ h => h) (Or.inl ⟨by kernel_rfl, ?_⟩) hHeld ?_
          · intro w' hSw; go_simp
          try simp only [Act.put, List.setIfInBounds_toArray, List.set_cons_zero, List.set_cons_succ, List.getElem_toArray, List.getElem_cons_succ, List.getElem_cons_zero]
          refine wpAnyH_take (i := 8) (v := .int .i64 (b : Int)) rfl (by kernel_rfl) (by kernel_rfl) (by kernel_rfl) (fun _ _ _ h => h) (Or.inl ⟨by kernel_rfl, ?_⟩) hHeld ?_
          · intro w' hSw; have zz := (T.below hSw).get hk; rw [hb'] at zz; go_simp
          try simp only [Act.put, List.setIfInBounds_toArray, List.set_cons_zero, List.set_cons_succ, List.getElem_toArray, List.getElem_cons_succ, List.getElem_cons_zero]
          refine wpAnyH_take (i := 9) (v := .pointer (some ⟨g, b * 3, none⟩)) rfl (by kernel_rfl) (by kernel_rfl) (by kernel_rfl) (fun _ _ _ h => h) (Or.inl ⟨by kernel_rfl, ?_⟩) hHeld ?_
          · intro w' hSw; go_simp
          try simp only [Act.put, List.setIfInBounds_toArray, List.set_cons_zero, List.set_cons_succ, List.getElem_toArray, List.getElem_cons_succ, List.getElem_cons_zero]
          refine wpAnyH_take (i := 10) (v := fV (f (b * 3)) (f (b * 3 + 1)) (f (b * 3 + 2))) rfl (by kernel_rfl) (by kernel_rfl) (by kernel_rfl) (fun _ _ _ h => h) (Or.inl ⟨by kernel_rfl, ?_⟩) hHeld ?_
          · intro w' hSw; have zz := (L.below hSw).open b hb; obtain ⟨z0, z1, z2⟩ := zz; go_simp
          try simp only [Act.put, List.setIfInBounds_toArray, List.set_cons_zero, List.set_cons_succ, List.getElem_toArray, List.getElem_cons_succ, List.getElem_cons_zero]
          refine wpAnyH_ready (rs := [11]) (by kernel_rfl) (by simp) ?_
          refine AllReadyH.cons rfl (fun KK hK' => ?_) AllReadyH.nil
          go_simp
          refine (cross_any _ _ _ _ _ _ _ ra.1 ra.2.1 rb.1 rb.2.1).mono ?_
          rintro e u1 ⟨rfl, bb⟩
          rw [show cr (f (a * 3)) (f (a * 3 + 1)) (f (b * 3)) (f (b * 3 + 1)) = C from hC]
          replace bu : Kb u0 u1 := bu.trans (bb.mono bu.size)
          clear bb
          try go_wp2_with fail
          clear hHeld
          refine hK'.out _ _ bu (fun hHeld => ?_)
          clear hK' KK
          try simp only [List.setIfInBounds_toArray, List.set_cons_zero, List.set_cons_succ]
          refine wpAnyH_ready (rs := [12]) (by kernel_rfl) (by simp) ?_
          refine AllReadyH.cons rfl (fun KK hK' => ?_) AllReadyH.nil
          go_simp
          clear hHeld
          refine hK'.out _ _ (bu) (fun hHeld => ?_)
          clear hK' KK
          try simp only [List.setIfInBounds_toArray, List.set_cons_zero, List.set_cons_succ]
          refine wpAnyH_done (by kernel_rfl) ?_ _
          clear hHeld
          replace L := L.below bu
          replace T := T.below bu
          replace R := R.below bu
          clear bu
          by_cases hc : C ≤ 0
          · have H := HN.out.1 hc
            clear HN hC n5 L
            go_wp2
            exact ⟨⟨v, k + 1, by omega, rfl, by go_num, H, T, R⟩, by simp [intOf]; omega⟩
          · have hcp : 0 < C := by omega
            go_wp2_with fail
            rcases n5 with rfl | ⟨x, rfl, hx⟩
            · have H := HN.out.2.1 rfl hcp
              clear HN hC
              obtain ⟨v0, hu0, bb⟩ : ∃ uu, u1.drew = uu ∧ Below u1.heap.size u1 uu := ⟨_, rfl, (Below.refl _ _).drew⟩
              replace L := L.below bb
              replace T := T.below bb
              replace R := R.below bb
              clear bb
              refine wp_region_held_drew (S := Kb v0) (by kernel_rfl) (by rw [hu0]; exact Below.refl _ _) (fun hHeld => ?_)
              rw [hu0] at hHeld ⊢
              clear hu0
              have bu : Kb v0 v0 := Below.refl _ _
              change wpAnyH _ _ _ _ _ 17 #[false, false, false, false, false, false, false, false, false, false, false, false, false, false, false, false, false] _ _
              refine wpAnyH_take (i := 0) (v := .int .i64 (-1)) rfl (by kernel_rfl) (by kernel_rfl) (by kernel_rfl) (fun _ _ _ h => h) (Or.inl ⟨by kernel_rfl, ?_⟩) hHeld ?_
              · intro w' hSw; go_simp
              try simp only [Act.put, List.setIfInBounds_toArray, List.set_cons_zero, List.set_cons_succ, List.getElem_toArray, List.getElem_cons_zero]
              refine wpAnyH_take (i := 1) (v := .bool true) rfl (by kernel_rfl) (by kernel_rfl) (by kernel_rfl) (fun _ _ _ h => h) (Or.inl ⟨by kernel_rfl, ?_⟩) hHeld ?_
              · intro w' hSw; go_simp
              try simp only [Act.put, List.setIfInBounds_toArray, List.set_cons_zero, List.set_cons_succ, List.getElem_toArray, List.getElem_cons_succ, List.getElem_cons_zero]
              refine wpAnyH_take (i := 2) (v := .bool true) rfl (by kernel_rfl) (by kernel_rfl) (by kernel_rfl) (fun _ _ _ h => h) (Or.inl ⟨by kernel_rfl, ?_⟩) hHeld ?_
              · intro w' hSw; go_simp
              try simp only [Act.put, List.setIfInBounds_toArray, List.set_cons_zero, List.set_cons_succ, List.getElem_toArray, List.getElem_cons_succ, List.getElem_cons_zero]
              refine wpAnyH_take (i := 3) (v := undef) rfl (by kernel_rfl) (by kernel_rfl) (by kernel_rfl) (fun _ _ _ h => h) (Or.inr ⟨by kernel_rfl, rfl⟩) hHeld ?_
              try simp only [Act.put, List.setIfInBounds_toArray, List.set_cons_zero, List.set_cons_succ, List.getElem_toArray, List.getElem_cons_succ, List.getElem_cons_zero]
              refine wpAnyH_take (i := 4) (v := undef) rfl (by kernel_rfl) (by kernel_rfl) (by kernel_rfl) (fun _ _ _ h => h) (Or.inr ⟨by kernel_rfl, rfl⟩) hHeld ?_
              try simp only [Act.put, List.setIfInBounds_toArray, List.set_cons_zero, List.set_cons_succ, List.getElem_toArray, List.getElem_cons_succ, List.getElem_cons_zero]
              refine wpAnyH_take (i := 5) (v := undef) rfl (by kernel_rfl) (by kernel_rfl) (by kernel_rfl) (fun _ _ _ h => h) (Or.inr ⟨by kernel_rfl, rfl⟩) hHeld ?_
              try simp only [Act.put, List.setIfInBounds_toArray, List.set_cons_zero, List.set_cons_succ, List.getElem_toArray, List.getElem_cons_succ, List.getElem_cons_zero]
              refine wpAnyH_take (i := 6) (v := undef) rfl (by kernel_rfl) (by kernel_rfl) (by kernel_rfl) (fun _ _ _ h => h) (Or.inr ⟨by kernel_rfl, rfl⟩) hHeld ?_
              try simp only [Act.put, List.setIfInBounds_toArray, List.set_cons_zero, List.set_cons_succ, List.getElem_toArray, List.getElem_cons_succ, List.getElem_cons_zero]
              refine wpAnyH_take (i := 7) (v := undef) rfl (by kernel_rfl) (by kernel_rfl) (by kernel_rfl) (fun _ _ _ h => h) (Or.inr ⟨by kernel_rfl, rfl⟩) hHeld ?_
              try simp only [Act.put, List.setIfInBounds_toArray, List.set_cons_zero, List.set_cons_succ, List.getElem_toArray, List.getElem_cons_succ, List.getElem_cons_zero]
              refine wpAnyH_take (i := 8) (v := undef) rfl (by kernel_rfl) (by kernel_rfl) (by kernel_rfl) (fun _ _ _ h => h) (Or.inr ⟨by kernel_rfl, rfl⟩) hHeld ?_
              try simp only [Act.put, List.setIfInBounds_toArray, List.set_cons_zero, List.set_cons_succ, List.getElem_toArray, List.getElem_cons_succ, List.getElem_cons_zero]
              refine wpAnyH_take (i := 9) (v := undef) rfl (by kernel_rfl) (by kernel_rfl) (by kernel_rfl) (fun _ _ _ h => h) (Or.inr ⟨by kernel_rfl, rfl⟩) hHeld ?_
              try simp only [Act.put, List.setIfInBounds_toArray, List.set_cons_zero, List.set_cons_succ, List.getElem_toArray, List.getElem_cons_succ, List.getElem_cons_zero]
              refine wpAnyH_take (i := 10) (v := undef) rfl (by kernel_rfl) (by kernel_rfl) (by kernel_rfl) (fun _ _ _ h => h) (Or.inr ⟨by kernel_rfl, rfl⟩) hHeld ?_
              try simp only [Act.put, List.setIfInBounds_toArray, List.set_cons_zero, List.set_cons_succ, List.getElem_toArray, List.getElem_cons_succ, List.getElem_cons_zero]
              refine wpAnyH_take (i := 11) (v := undef) rfl (by kernel_rfl) (by kernel_rfl) (by kernel_rfl) (fun _ _ _ h => h) (Or.inr ⟨by kernel_rfl, rfl⟩) hHeld ?_
              try simp only [Act.put, List.setIfInBounds_toArray, List.set_cons_zero, List.set_cons_succ, List.getElem_toArray, List.getElem_cons_succ, List.getElem_cons_zero]
              refine wpAnyH_take (i := 12) (v := undef) rfl (by kernel_rfl) (by kernel_rfl) (by kernel_rfl) (fun _ _ _ h => h) (Or.inr ⟨by kernel_rfl, rfl⟩) hHeld ?_
              try simp only [Act.put, List.setIfInBounds_toArray, List.set_cons_zero, List.set_cons_succ, List.getElem_toArray, List.getElem_cons_succ, List.getElem_cons_zero]
              refine wpAnyH_take (i := 13) (v := undef) rfl (by kernel_rfl) (by kernel_rfl) (by kernel_rfl) (fun _ _ _ h => h) (Or.inr ⟨by kernel_rfl, rfl⟩) hHeld ?_
              try simp only [Act.put, List.setIfInBounds_toArray, List.set_cons_zero, List.set_cons_succ, List.getElem_toArray, List.getElem_cons_succ, List.getElem_cons_zero]
              refine wpAnyH_take (i := 14) (v := undef) rfl (by kernel_rfl) (by kernel_rfl) (by kernel_rfl) (fun _ _ _ h => h) (Or.inr ⟨by kernel_rfl, rfl⟩) hHeld ?_
              try simp only [Act.put, List.setIfInBounds_toArray, List.set_cons_zero, List.set_cons_succ, List.getElem_toArray, List.getElem_cons_succ, List.getElem_cons_zero]
              refine wpAnyH_take (i := 15) (v := undef) rfl (by kernel_rfl) (by kernel_rfl) (by kernel_rfl) (fun _ _ _ h => h) (Or.inr ⟨by kernel_rfl, rfl⟩) hHeld ?_
              try simp only [Act.put, List.setIfInBounds_toArray, List.set_cons_zero, List.set_cons_succ, List.getElem_toArray, List.getElem_cons_succ, List.getElem_cons_zero]
              refine wpAnyH_ready (rs := [16]) (by kernel_rfl) (by simp) ?_
              refine AllReadyH.cons rfl (fun KK hK' => ?_) AllReadyH.nil
              go_simp
              clear hHeld
              refine hK'.out _ _ (bu) (fun hHeld => ?_)
              clear hK' KK
              try simp only [List.setIfInBounds_toArray, List.set_cons_zero, List.set_cons_succ]
              refine wpAnyH_done (by kernel_rfl) ?_ _
              clear hHeld
              replace L := L.below bu
              replace T := T.below bu
              replace R := R.below bu
              clear bu
              have z0 := T.get hk
              rw [hb'] at z0
              clear L
              go_wp2
              exact ⟨⟨(b : Int), k + 1, by omega, rfl, by go_num, H, T, R⟩, by simp [intOf]; omega⟩
            · have rx := Rt.in (S.right x hx)
              have hxn : ¬ (x : Int) < 0 := by omega
              obtain ⟨E, hE⟩ : ∃ C, Lf f b x = C := ⟨_, rfl⟩
              have n3 := HN.out.2.2.1 x rfl
              have n4 := HN.out.2.2.2 x rfl hcp
              rw [hE] at n3 n4
              clear HN hC
              by_cases he : 0 < E
              · have H := n4 he
                obtain ⟨dd1, hdd1⟩ : ∃ d, d = true := ⟨true, rfl⟩
                have hdd2 : decide (0 < E) = dd1 := by rw [hdd1]; simpa using he
                clear n3 n4
                obtain ⟨v0, hu0, bb⟩ : ∃ uu, u1.drew = uu ∧ Below u1.heap.size u1 uu := ⟨_, rfl, (Below.refl _ _).drew⟩
                replace L := L.below bb
                replace T := T.below bb
                replace R := R.below bb
                clear bb
                refine wp_region_held_drew (S := Kb v0) (by kernel_rfl) (by rw [hu0]; exact Below.refl _ _) (fun hHeld => ?_)
                rw [hu0] at hHeld ⊢
                clear hu0
                have bu : Kb v0 v0 := Below.refl _ _
                change wpAnyH _ _ _ _ _ 17 #[false, false, false, false, false, false, false, false, false, false, false, false, false, false, false, false, false] _ _
                refine wpAnyH_take (i := 0) (v := .int .i64 (x : Int)) rfl (by kernel_rfl) (by kernel_rfl) (by kernel_rfl) (fun _ _ _ h => h) (Or.inl ⟨by kernel_rfl, ?_⟩) hHeld ?_
                · intro w' hSw; go_simp
                try simp only [Act.put, List.setIfInBounds_toArray, List.set_cons_zero, List.set_cons_succ, List.getElem_toArray, List.getElem_cons_zero]
                refine wpAnyH_take (i := 1) (v := .bool false) rfl (by kernel_rfl) (by kernel_rfl) (by kernel_rfl) (fun _ _ _ h => h) (Or.inl ⟨by kernel_rfl, ?_⟩) hHeld ?_
                · intro w' hSw; go_simp
                try simp only [Act.put, List.setIfInBounds_toArray, List.set_cons_zero, List.set_cons_succ, List.getElem_toArray, List.getElem_cons_succ, List.getElem_cons_zero]
                refine wpAnyH_take (i := 2) (v := .bool false) rfl (by kernel_rfl) (by kernel_rfl) (by kernel_rfl) (fun _ _ _ h => h) (Or.inl ⟨by kernel_rfl, ?_⟩) hHeld ?_
                · intro w' hSw; go_simp
                try simp only [Act.put, List.setIfInBounds_toArray, List.set_cons_zero, List.set_cons_succ, List.getElem_toArray, List.getElem_cons_succ, List.getElem_cons_zero]
                refine wpAnyH_take (i := 3) (v := .slice (some ⟨g, 0, none⟩) n c) rfl (by kernel_rfl) (by kernel_rfl) (by kernel_rfl) (fun _ _ _ h => h) (Or.inl ⟨by kernel_rfl, ?_⟩) hHeld ?_
                · intro w' hSw; go_simp
                try simp only [Act.put, List.setIfInBounds_toArray, List.set_cons_zero, List.set_cons_succ, List.getElem_toArray, List.getElem_cons_succ, List.getElem_cons_zero]
                refine wpAnyH_take (i := 4) (v := .slice (some ⟨gs, 0, none⟩) M cs) rfl (by kernel_rfl) (by kernel_rfl) (by kernel_rfl) (fun _ _ _ h => h) (Or.inl ⟨by kernel_rfl, ?_⟩) hHeld ?_
                · intro w' hSw; go_simp
                try simp only [Act.put, List.setIfInBounds_toArray, List.set_cons_zero, List.set_cons_succ, List.getElem_toArray, List.getElem_cons_succ, List.getElem_cons_zero]
                refine wpAnyH_take (i := 5) (v := .int .i64 (k : Int)) rfl (by kernel_rfl) (by kernel_rfl) (by kernel_rfl) (fun _ _ _ h => h) (Or.inl ⟨by kernel_rfl, ?_⟩) hHeld ?_
                · intro w' hSw; go_simp
                try simp only [Act.put, List.setIfInBounds_toArray, List.set_cons_zero, List.set_cons_succ, List.getElem_toArray, List.getElem_cons_succ, List.getElem_cons_zero]
                refine wpAnyH_take (i := 6) (v := .pointer (some ⟨gs, k, none⟩)) rfl (by kernel_rfl) (by kernel_rfl) (by kernel_rfl) (fun _ _ _ h => h) (Or.inl ⟨by kernel_rfl, ?_⟩) hHeld ?_
                · intro w' hSw; go_simp
                try simp only [Act.put, List.setIfInBounds_toArray, List.set_cons_zero, List.set_cons_succ, List.getElem_toArray, List.getElem_cons_succ, List.getElem_cons_zero]
                refine wpAnyH_take (i := 7) (v := .int .i64 (b : Int)) rfl (by kernel_rfl) (by kernel_rfl) (by kernel_rfl) (fun _ _ _ h => h) (Or.inl ⟨by kernel_rfl, ?_⟩) hHeld ?_
                · intro w' hSw; have zz := (T.below hSw).get hk; rw [hb'] at zz; go_simp
                try simp only [Act.put, List.setIfInBounds_toArray, List.set_cons_zero, List.set_cons_succ, List.getElem_toArray, List.getElem_cons_succ, List.getElem_cons_zero]
                refine wpAnyH_take (i := 8) (v := .pointer (some ⟨g, b * 3, none⟩)) rfl (by kernel_rfl) (by kernel_rfl) (by kernel_rfl) (fun _ _ _ h => h) (Or.inl ⟨by kernel_rfl, ?_⟩) hHeld ?_
                · intro w' hSw; go_simp
                try simp only [Act.put, List.setIfInBounds_toArray, List.set_cons_zero, List.set_cons_succ, List.getElem_toArray, List.getElem_cons_succ, List.getElem_cons_zero]
                refine wpAnyH_take (i := 9) (v := fV (f (b * 3)) (f (b * 3 + 1)) (f (b * 3 + 2))) rfl (by kernel_rfl) (by kernel_rfl) (by kernel_rfl) (fun _ _ _ h => h) (Or.inl ⟨by kernel_rfl, ?_⟩) hHeld ?_
                · intro w' hSw; have zz := (L.below hSw).open b hb; obtain ⟨z0, z1, z2⟩ := zz; go_simp
                try simp only [Act.put, List.setIfInBounds_toArray, List.set_cons_zero, List.set_cons_succ, List.getElem_toArray, List.getElem_cons_succ, List.getElem_cons_zero]
                refine wpAnyH_take (i := 10) (v := .slice (some ⟨g, 0, none⟩) n c) rfl (by kernel_rfl) (by kernel_rfl) (by kernel_rfl) (fun _ _ _ h => h) (Or.inl ⟨by kernel_rfl, ?_⟩) hHeld ?_
                · intro w' hSw; go_simp
                try simp only [Act.put, List.setIfInBounds_toArray, List.set_cons_zero, List.set_cons_succ, List.getElem_toArray, List.getElem_cons_succ, List.getElem_cons_zero]
                refine wpAnyH_take (i := 11) (v := .int .i64 (x : Int)) rfl (by kernel_rfl) (by kernel_rfl) (by kernel_rfl) (fun _ _ _ h => h) (Or.inl ⟨by kernel_rfl, ?_⟩) hHeld ?_
                · intro w' hSw; go_simp
                try simp only [Act.put, List.setIfInBounds_toArray, List.set_cons_zero, List.set_cons_succ, List.getElem_toArray, List.getElem_cons_succ, List.getElem_cons_zero]
                refine wpAnyH_take (i := 12) (v := .pointer (some ⟨g, x * 3, none⟩)) rfl (by kernel_rfl) (by kernel_rfl) (by kernel_rfl) (fun _ _ _ h => h) (Or.inl ⟨by kernel_rfl, ?_⟩) hHeld ?_
                · intro w' hSw; go_simp
                try simp only [Act.put, List.setIfInBounds_toArray, List.set_cons_zero, List.set_cons_succ, List.getElem_toArray, List.getElem_cons_succ, List.getElem_cons_zero]
                refine wpAnyH_take (i := 13) (v := fV (f (x * 3)) (f (x * 3 + 1)) (f (x * 3 + 2))) rfl (by kernel_rfl) (by kernel_rfl) (by kernel_rfl) (fun _ _ _ h => h) (Or.inl ⟨by kernel_rfl, ?_⟩) hHeld ?_
                · intro w' hSw; have zz := (L.below hSw).open x hx; obtain ⟨z0, z1, z2⟩ := zz; go_simp
                try simp only [Act.put, List.setIfInBounds_toArray, List.set_cons_zero, List.set_cons_succ, List.getElem_toArray, List.getElem_cons_succ, List.getElem_cons_zero]
                refine wpAnyH_ready (rs := [14]) (by kernel_rfl) (by simp) ?_
                refine AllReadyH.cons rfl (fun KK hK' => ?_) AllReadyH.nil
                go_simp
                refine (cross_any _ _ _ _ _ _ _ rb.1 rb.2.1 rx.1 rx.2.1).mono ?_
                rintro e v1 ⟨rfl, bb⟩
                rw [show cr (f (b * 3)) (f (b * 3 + 1)) (f (x * 3)) (f (x * 3 + 1)) = E from hE]
                replace bu : Kb v0 v1 := bu.trans (bb.mono bu.size)
                clear bb
                try go_wp2_with fail
                clear hHeld
                refine hK'.out _ _ bu (fun hHeld => ?_)
                clear hK' KK
                try simp only [List.setIfInBounds_toArray, List.set_cons_zero, List.set_cons_succ]
                refine wpAnyH_take (i := 15) (v := .bool dd1) rfl (by kernel_rfl) (by kernel_rfl) (by kernel_rfl) (fun _ _ _ h => h) (Or.inl ⟨by kernel_rfl, ?_⟩) hHeld ?_
                · intro w' hSw; go_simp
                try simp only [Act.put, List.setIfInBounds_toArray, List.set_cons_zero, List.set_cons_succ, List.getElem_toArray, List.getElem_cons_succ, List.getElem_cons_zero]
                refine wpAnyH_ready (rs := [16]) (by kernel_rfl) (by simp) ?_
                refine AllReadyH.cons rfl (fun KK hK' => ?_) AllReadyH.nil
                go_simp
                clear hHeld
                refine hK'.out _ _ (bu) (fun hHeld => ?_)
                clear hK' KK
                try simp only [List.setIfInBounds_toArray, List.set_cons_zero, List.set_cons_succ]
                refine wpAnyH_done (by kernel_rfl) ?_ _
                clear hHeld
                replace L := L.below bu
                replace T := T.below bu
                replace R := R.below bu
                clear bu
                have z0 := T.get hk
                rw [hb'] at z0
                subst hdd1
                clear L
                go_wp2
                exact ⟨⟨(b : Int), k + 1, by omega, rfl, by go_num, H, T, R⟩, by simp [intOf]; omega⟩
              · have H := n3 (by omega)
                obtain ⟨dd1, hdd1⟩ : ∃ d, d = false := ⟨false, rfl⟩
                have hdd2 : decide (0 < E) = dd1 := by rw [hdd1]; simpa using he
                clear n3 n4
                obtain ⟨v0, hu0, bb⟩ : ∃ uu, u1.drew = uu ∧ Below u1.heap.size u1 uu := ⟨_, rfl, (Below.refl _ _).drew⟩
                replace L := L.below bb
                replace T := T.below bb
                replace R := R.below bb
                clear bb
                refine wp_region_held_drew (S := Kb v0) (by kernel_rfl) (by rw [hu0]; exact Below.refl _ _) (fun hHeld => ?_)
                rw [hu0] at hHeld ⊢
                clear hu0
                have bu : Kb v0 v0 := Below.refl _ _
                change wpAnyH _ _ _ _ _ 17 #[false, false, false, false, false, false, false, false, false, false, false, false, false, false, false, false, false] _ _
                refine wpAnyH_take (i := 0) (v := .int .i64 (x : Int)) rfl (by kernel_rfl) (by kernel_rfl) (by kernel_rfl) (fun _ _ _ h => h) (Or.inl ⟨by kernel_rfl, ?_⟩) hHeld ?_
                · intro w' hSw; go_simp
                try simp only [Act.put, List.setIfInBounds_toArray, List.set_cons_zero, List.set_cons_succ, List.getElem_toArray, List.getElem_cons_zero]
                refine wpAnyH_take (i := 1) (v := .bool false) rfl (by kernel_rfl) (by kernel_rfl) (by kernel_rfl) (fun _ _ _ h => h) (Or.inl ⟨by kernel_rfl, ?_⟩) hHeld ?_
                · intro w' hSw; go_simp
                try simp only [Act.put, List.setIfInBounds_toArray, List.set_cons_zero, List.set_cons_succ, List.getElem_toArray, List.getElem_cons_succ, List.getElem_cons_zero]
                refine wpAnyH_take (i := 2) (v := .bool false) rfl (by kernel_rfl) (by kernel_rfl) (by kernel_rfl) (fun _ _ _ h => h) (Or.inl ⟨by kernel_rfl, ?_⟩) hHeld ?_
                · intro w' hSw; go_simp
                try simp only [Act.put, List.setIfInBounds_toArray, List.set_cons_zero, List.set_cons_succ, List.getElem_toArray, List.getElem_cons_succ, List.getElem_cons_zero]
                refine wpAnyH_take (i := 3) (v := .slice (some ⟨g, 0, none⟩) n c) rfl (by kernel_rfl) (by kernel_rfl) (by kernel_rfl) (fun _ _ _ h => h) (Or.inl ⟨by kernel_rfl, ?_⟩) hHeld ?_
                · intro w' hSw; go_simp
                try simp only [Act.put, List.setIfInBounds_toArray, List.set_cons_zero, List.set_cons_succ, List.getElem_toArray, List.getElem_cons_succ, List.getElem_cons_zero]
                refine wpAnyH_take (i := 4) (v := .slice (some ⟨gs, 0, none⟩) M cs) rfl (by kernel_rfl) (by kernel_rfl) (by kernel_rfl) (fun _ _ _ h => h) (Or.inl ⟨by kernel_rfl, ?_⟩) hHeld ?_
                · intro w' hSw; go_simp
                try simp only [Act.put, List.setIfInBounds_toArray, List.set_cons_zero, List.set_cons_succ, List.getElem_toArray, List.getElem_cons_succ, List.getElem_cons_zero]
                refine wpAnyH_take (i := 5) (v := .int .i64 (k : Int)) rfl (by kernel_rfl) (by kernel_rfl) (by kernel_rfl) (fun _ _ _ h => h) (Or.inl ⟨by kernel_rfl, ?_⟩) hHeld ?_
                · intro w' hSw; go_simp
                try simp only [Act.put, List.setIfInBounds_toArray, List.set_cons_zero, List.set_cons_succ, List.getElem_toArray, List.getElem_cons_succ, List.getElem_cons_zero]
                refine wpAnyH_take (i := 6) (v := .pointer (some ⟨gs, k, none⟩)) rfl (by kernel_rfl) (by kernel_rfl) (by kernel_rfl) (fun _ _ _ h => h) (Or.inl ⟨by kernel_rfl, ?_⟩) hHeld ?_
                · intro w' hSw; go_simp
                try simp only [Act.put, List.setIfInBounds_toArray, List.set_cons_zero, List.set_cons_succ, List.getElem_toArray, List.getElem_cons_succ, List.getElem_cons_zero]
                refine wpAnyH_take (i := 7) (v := .int .i64 (b : Int)) rfl (by kernel_rfl) (by kernel_rfl) (by kernel_rfl) (fun _ _ _ h => h) (Or.inl ⟨by kernel_rfl, ?_⟩) hHeld ?_
                · intro w' hSw; have zz := (T.below hSw).get hk; rw [hb'] at zz; go_simp
                try simp only [Act.put, List.setIfInBounds_toArray, List.set_cons_zero, List.set_cons_succ, List.getElem_toArray, List.getElem_cons_succ, List.getElem_cons_zero]
                refine wpAnyH_take (i := 8) (v := .pointer (some ⟨g, b * 3, none⟩)) rfl (by kernel_rfl) (by kernel_rfl) (by kernel_rfl) (fun _ _ _ h => h) (Or.inl ⟨by kernel_rfl, ?_⟩) hHeld ?_
                · intro w' hSw; go_simp
                try simp only [Act.put, List.setIfInBounds_toArray, List.set_cons_zero, List.set_cons_succ, List.getElem_toArray, List.getElem_cons_succ, List.getElem_cons_zero]
                refine wpAnyH_take (i := 9) (v := fV (f (b * 3)) (f (b * 3 + 1)) (f (b * 3 + 2))) rfl (by kernel_rfl) (by kernel_rfl) (by kernel_rfl) (fun _ _ _ h => h) (Or.inl ⟨by kernel_rfl, ?_⟩) hHeld ?_
                · intro w' hSw; have zz := (L.below hSw).open b hb; obtain ⟨z0, z1, z2⟩ := zz; go_simp
                try simp only [Act.put, List.setIfInBounds_toArray, List.set_cons_zero, List.set_cons_succ, List.getElem_toArray, List.getElem_cons_succ, List.getElem_cons_zero]
                refine wpAnyH_take (i := 10) (v := .slice (some ⟨g, 0, none⟩) n c) rfl (by kernel_rfl) (by kernel_rfl) (by kernel_rfl) (fun _ _ _ h => h) (Or.inl ⟨by kernel_rfl, ?_⟩) hHeld ?_
                · intro w' hSw; go_simp
                try simp only [Act.put, List.setIfInBounds_toArray, List.set_cons_zero, List.set_cons_succ, List.getElem_toArray, List.getElem_cons_succ, List.getElem_cons_zero]
                refine wpAnyH_take (i := 11) (v := .int .i64 (x : Int)) rfl (by kernel_rfl) (by kernel_rfl) (by kernel_rfl) (fun _ _ _ h => h) (Or.inl ⟨by kernel_rfl, ?_⟩) hHeld ?_
                · intro w' hSw; go_simp
                try simp only [Act.put, List.setIfInBounds_toArray, List.set_cons_zero, List.set_cons_succ, List.getElem_toArray, List.getElem_cons_succ, List.getElem_cons_zero]
                refine wpAnyH_take (i := 12) (v := .pointer (some ⟨g, x * 3, none⟩)) rfl (by kernel_rfl) (by kernel_rfl) (by kernel_rfl) (fun _ _ _ h => h) (Or.inl ⟨by kernel_rfl, ?_⟩) hHeld ?_
                · intro w' hSw; go_simp
                try simp only [Act.put, List.setIfInBounds_toArray, List.set_cons_zero, List.set_cons_succ, List.getElem_toArray, List.getElem_cons_succ, List.getElem_cons_zero]
                refine wpAnyH_take (i := 13) (v := fV (f (x * 3)) (f (x * 3 + 1)) (f (x * 3 + 2))) rfl (by kernel_rfl) (by kernel_rfl) (by kernel_rfl) (fun _ _ _ h => h) (Or.inl ⟨by kernel_rfl, ?_⟩) hHeld ?_
                · intro w' hSw; have zz := (L.below hSw).open x hx; obtain ⟨z0, z1, z2⟩ := zz; go_simp
                try simp only [Act.put, List.setIfInBounds_toArray, List.set_cons_zero, List.set_cons_succ, List.getElem_toArray, List.getElem_cons_succ, List.getElem_cons_zero]
                refine wpAnyH_ready (rs := [14]) (by kernel_rfl) (by simp) ?_
                refine AllReadyH.cons rfl (fun KK hK' => ?_) AllReadyH.nil
                go_simp
                refine (cross_any _ _ _ _ _ _ _ rb.1 rb.2.1 rx.1 rx.2.1).mono ?_
                rintro e v1 ⟨rfl, bb⟩
                rw [show cr (f (b * 3)) (f (b * 3 + 1)) (f (x * 3)) (f (x * 3 + 1)) = E from hE]
                replace bu : Kb v0 v1 := bu.trans (bb.mono bu.size)
                clear bb
                try go_wp2_with fail
                clear hHeld
                refine hK'.out _ _ bu (fun hHeld => ?_)
                clear hK' KK
                try simp only [List.setIfInBounds_toArray, List.set_cons_zero, List.set_cons_succ]
                refine wpAnyH_take (i := 15) (v := .bool dd1) rfl (by kernel_rfl) (by kernel_rfl) (by kernel_rfl) (fun _ _ _ h => h) (Or.inl ⟨by kernel_rfl, ?_⟩) hHeld ?_
                · intro w' hSw; go_simp
                try simp only [Act.put, List.setIfInBounds_toArray, List.set_cons_zero, List.set_cons_succ, List.getElem_toArray, List.getElem_cons_succ, List.getElem_cons_zero]
                refine wpAnyH_ready (rs := [16]) (by kernel_rfl) (by simp) ?_
                refine AllReadyH.cons rfl (fun KK hK' => ?_) AllReadyH.nil
                go_simp
                clear hHeld
                refine hK'.out _ _ (bu) (fun hHeld => ?_)
                clear hK' KK
                try simp only [List.setIfInBounds_toArray, List.set_cons_zero, List.set_cons_succ]
                refine wpAnyH_done (by kernel_rfl) ?_ _
                clear hHeld
                replace L := L.below bu
                replace T := T.below bu
                replace R := R.below bu
                clear bu
                subst hdd1
                clear L
                go_wp2
                exact ⟨⟨(x : Int), k + 1, by omega, rfl, by go_num, H, T, R⟩, by simp [intOf]; omega⟩
        · have hklt : ¬ (k : Int) < (M : Int) := by omega
          obtain rfl : k = M := by omega
          have hv := S.nxsEnd ha ain.2 sall hN
          have q1 := S.nxtIs ha
          have hsq2 : sq f n a0 (t + 1) = nxt f n a := by rw [← hsq]; rfl
          have hP : tris f (sqP f n a0 (t + 1)) = tris f (sqP f n a0 t) ++ tris f [(a, nxt f n a)] := by rw [sqP_succ, tris_app, hsq, hsq2]
          have htri : tris f [(a, nxt f n a)] = [cX f a (nxt f n a), cY f a (nxt f n a), cD f a (nxt f n a)] := by simp [tris, tri]
          rw [htri] at hP
          have q5 := cn_at q1.2.1
          obtain ⟨b, hb'⟩ : ∃ b, nxt f n a = b := ⟨_, rfl⟩
          rw [hb'] at hv q1 hsq2 hP q5
          subst hv
          have hb := q1.1
          have rb := Rt.in (S.right b hb)
          obtain ⟨X, hX⟩ : ∃ X, cX f a b = X := ⟨_, rfl⟩
          obtain ⟨Y, hY⟩ : ∃ X, cY f a b = X := ⟨_, rfl⟩
          obtain ⟨D, hD⟩ : ∃ X, cD f a b = X := ⟨_, rfl⟩
          rw [hX, hY, hD] at q5 hP
          clear hN hX hY hD htri hb' q1
          go_wp2_with fail
          obtain ⟨u0, hu0, bb⟩ : ∃ uu, wr.drew = uu ∧ Below wr.heap.size wr uu := ⟨_, rfl, (Below.refl _ _).drew⟩
          replace T := T.below bb
          replace R := R.below bb
          have bu : Kb w u0 := R.b
          clear bb
          refine wp_region_held_drew (S := Kb w) (by kernel_rfl) (by rw [hu0]; exact bu) (fun hHeld => ?_)
          rw [hu0] at hHeld ⊢
          clear hu0
          change wpAnyH _ _ _ _ _ 13 #[false, false, false, false, false, false, false, false, false, false, false, false, false] _ _
          refine wpAnyH_take (i := 0) (v := u3) rfl (by kernel_rfl) (by kernel_rfl) (by kernel_rfl) (fun _ _ _ h => h) (Or.inl ⟨by kernel_rfl, ?_⟩) hHeld ?_
          · intro w' hSw; go_simp
          try simp only [Act.put, List.setIfInBounds_toArray, List.set_cons_zero, List.set_cons_succ, List.getElem_toArray, List.getElem_cons_zero]
          refine wpAnyH_take (i := 1) (v := .slice (some ⟨g, 0, none⟩) n c) rfl (by kernel_rfl) (by kernel_rfl) (by kernel_rfl) (fun _ _ _ h => h) (Or.inl ⟨by kernel_rfl, ?_⟩) hHeld ?_
          · intro w' hSw; go_simp
          try simp only [Act.put, List.setIfInBounds_toArray, List.set_cons_zero, List.set_cons_succ, List.getElem_toArray, List.getElem_cons_succ, List.getElem_cons_zero]
          refine wpAnyH_take (i := 2) (v := .int .i64 (a : Int)) rfl (by kernel_rfl) (by kernel_rfl) (by kernel_rfl) (fun _ _ _ h => h) (Or.inl ⟨by kernel_rfl, ?_⟩) hHeld ?_
          · intro w' hSw; go_simp
          try simp only [Act.put, List.setIfInBounds_toArray, List.set_cons_zero, List.set_cons_succ, List.getElem_toArray, List.getElem_cons_succ, List.getElem_cons_zero]
          refine wpAnyH_take (i := 3) (v := .pointer (some ⟨g, a * 3, none⟩)) rfl (by kernel_rfl) (by kernel_rfl) (by kernel_rfl) (fun _ _ _ h => h) (Or.inl ⟨by kernel_rfl, ?_⟩) hHeld ?_
          · intro w' hSw; go_simp
          try simp only [Act.put, List.setIfInBounds_toArray, List.set_cons_zero, List.set_cons_succ, List.getElem_toArray, List.getElem_cons_succ, List.getElem_cons_zero]
          refine wpAnyH_take (i := 4) (v := fV (f (a * 3)) (f (a * 3 + 1)) (f (a * 3 + 2))) rfl (by kernel_rfl) (by kernel_rfl) (by kernel_rfl) (fun _ _ _ h => h) (Or.inl ⟨by kernel_rfl, ?_⟩) hHeld ?_
          · intro w' hSw; have zz := (h.below hSw).open a ha; obtain ⟨z0, z1, z2⟩ := zz; have lq := Nat.lt_of_lt_of_le h.1 (Below.size hSw); go_simp
          try simp only [Act.put, List.setIfInBounds_toArray, List.set_cons_zero, List.set_cons_succ, List.getElem_toArray, List.getElem_cons_succ, List.getElem_cons_zero]
          refine wpAnyH_take (i := 5) (v := .slice (some ⟨g, 0, none⟩) n c) rfl (by kernel_rfl) (by kernel_rfl) (by kernel_rfl) (fun _ _ _ h => h) (Or.inl ⟨by kernel_rfl, ?_⟩) hHeld ?_
          · intro w' hSw; go_simp
          try simp only [Act.put, List.setIfInBounds_toArray, List.set_cons_zero, List.set_cons_succ, List.getElem_toArray, List.getElem_cons_succ, List.getElem_cons_zero]
          refine wpAnyH_take (i := 6) (v := .int .i64 (b : Int)) rfl (by kernel_rfl) (by kernel_rfl) (by kernel_rfl) (fun _ _ _ h => h) (Or.inl ⟨by kernel_rfl, ?_⟩) hHeld ?_
          · intro w' hSw; go_simp
          try simp only [Act.put, List.setIfInBounds_toArray, List.set_cons_zero, List.set_cons_succ, List.getElem_toArray, List.getElem_cons_succ, List.getElem_cons_zero]
          refine wpAnyH_take (i := 7) (v := .pointer (some ⟨g, b * 3, none⟩)) rfl (by kernel_rfl) (by kernel_rfl) (by kernel_rfl) (fun _ _ _ h => h) (Or.inl ⟨by kernel_rfl, ?_⟩) hHeld ?_
          · intro w' hSw; go_simp
          try simp only [Act.put, List.setIfInBounds_toArray, List.set_cons_zero, List.set_cons_succ, List.getElem_toArray, List.getElem_cons_succ, List.getElem_cons_zero]
          refine wpAnyH_take (i := 8) (v := fV (f (b * 3)) (f (b * 3 + 1)) (f (b * 3 + 2))) rfl (by kernel_rfl) (by kernel_rfl) (by kernel_rfl) (fun _ _ _ h => h) (Or.inl ⟨by kernel_rfl, ?_⟩) hHeld ?_
          · intro w' hSw; have zz := (h.below hSw).open b hb; obtain ⟨z0, z1, z2⟩ := zz; have lq := Nat.lt_of_lt_of_le h.1 (Below.size hSw); go_simp
          try simp only [Act.put, List.setIfInBounds_toArray, List.set_cons_zero, List.set_cons_succ, List.getElem_toArray, List.getElem_cons_succ, List.getElem_cons_zero]
          refine wpAnyH_ready (rs := [9]) (by kernel_rfl) (by simp) ?_
          refine AllReadyH.cons rfl (fun KK hK' => ?_) AllReadyH.nil
          go_simp
          refine (meet_any _ _ _ _ _ _ _ X Y D _ ra.1 ra.2.1 (by omega) rb.1 rb.2.1 (by omega) q5).mono ?_
          rintro e u1 ⟨rfl, bb⟩
          replace T := T.below bb
          replace R := R.below bb
          replace bu : Kb w u1 := bu.trans (bb.mono bu.size)
          clear bb
          try go_wp2_with fail
          clear hHeld
          refine hK'.out _ _ bu (fun hHeld => ?_)
          clear hK' KK
          try simp only [List.setIfInBounds_toArray, List.set_cons_zero, List.set_cons_succ]
          refine wpAnyH_ready (rs := [10]) (by kernel_rfl) (by simp) ?_
          refine AllReadyH.cons rfl (fun KK hK' => ?_) AllReadyH.nil
          go_simp
          obtain ⟨V9, hV9, A9, b10, -⟩ := boxed u1 33 #[.int .i64 X, .int .i64 Y, .int .i64 D]
          rw [hV9]
          obtain ⟨g9, hg9⟩ : ∃ g, u1.heap.size = g := ⟨_, rfl⟩
          rw [hg9] at A9 ⊢
          replace T := T.below b10
          replace R := R.below b10
          replace bu : Kb w V9 := bu.trans (b10.mono bu.size)
          clear hV9 hg9 b10
          clear hHeld
          refine hK'.out _ _ bu (fun hHeld => ?_)
          clear hK' KK
          try simp only [List.setIfInBounds_toArray, List.set_cons_zero, List.set_cons_succ]
          refine wpAnyH_ready (rs := [11]) (by kernel_rfl) (by simp) ?_
          refine AllReadyH.cons rfl (fun KK hK' => ?_) AllReadyH.nil
          refine step_append_at _ (by rfl) _ _ _ (by rfl) w.heap.size 33 i0 _ 3 24 Try.underlying30 hi0 hz0 hz1 hz2 rfl (by omega) u3 t (lCells (tris f (sqP f n a0 t))) (by rfl) R.own ⟨g9, 0, none⟩ 1 1 (lCells [X, Y, D]) (by rfl) (by rfl) (news3 A9) (lCells_one _) (by unfold maxLen; omega) (by omega) R.o3 ?_
          intro v2 w5 hown2 hgrow2 hne2 _
          have R2 := R.grow hown2 hgrow2 (fun h => R.nn (hne2.1 h).1)
          replace T := ShAt.keep R hgrow2 T
          clear hown2 hgrow2 hne2 R bu A9
          have bu : Kb w w5 := R2.b
          clear hHeld
          refine hK'.out _ _ bu (fun hHeld => ?_)
          clear hK' KK
          try simp only [List.setIfInBounds_toArray, List.set_cons_zero, List.set_cons_succ]
          refine wpAnyH_ready (rs := [12]) (by kernel_rfl) (by simp) ?_
          refine AllReadyH.cons rfl (fun KK hK' => ?_) AllReadyH.nil
          go_simp
          clear hHeld
          refine hK'.out _ _ (bu) (fun hHeld => ?_)
          clear hK' KK
          try simp only [List.setIfInBounds_toArray, List.set_cons_zero, List.set_cons_succ]
          refine wpAnyH_done (by kernel_rfl) ?_ _
          clear hHeld
          clear bu
          go_wp2
          refine ⟨⟨t + 1, b, by omega, hsq2, rfl, by go_num, T, ?_⟩, by simp [intOf]; omega⟩
          rw [hP]; exact R2
    · have htlt : ¬ (t : Int) < (M : Int) := by omega
      obtain rfl : M = t := by omega
      clear T
      obtain ⟨go, co, hu3, hgo, hco, lgo, cells⟩ := R.open
      subst hu3
      obtain ⟨fo, hfo⟩ : ∃ fo : Nat → Int, (fun j => (tris f (sqP f n a0 M)).getD j 0) = fo := ⟨_, rfl⟩
      have L : Trips wr go M fo := ⟨lgo, fun j hj => by rw [← hfo]; exact cells j (by rw [tris_len, sqP_len]; exact hj)⟩
      have bnd : ∀ j, j < M → (-100000 ≤ fo (j * 3) ∧ fo (j * 3) ≤ 100000) ∧ (-100000 ≤ fo (j * 3 + 1) ∧ fo (j * 3 + 1) ≤ 100000) ∧ (-5000 ≤ fo (j * 3 + 2) ∧ fo (j * 3 + 2) ≤ 5000) := fun j hj => by
        have hj' : j < (sqP f n a0 M).length := by rw [sqP_len]; exact hj
        obtain ⟨e1, e2, e3⟩ := tris_get f (sqP f n a0 M) j hj'
        have q1 := sqin j
        have q2 := S.nxtIs q1.1
        have e4 : (sqP f n a0 M)[j] = (sq f n a0 j, nxt f n (sq f n a0 j)) := by simp [sqP, sq]
        rw [e4] at e1 e2 e3
        rw [← hfo]
        have := S.c_in q1.1 q2.1 q2.2.1
        simp only [e1, e2, e3]
        exact this
      have HF : Hid (∀ j, fo j = (tris f (sqP f n a0 M)).getD j 0) := fun j => by rw [← hfo]
      clear cells hfo lgo
      go_wp2_with fail
      clear htlt
      go_loopw [9, 10] (fun s q wr => ∃ r i : Nat, r < M ∧ i ≤ M ∧ 1 ≤ i ∧ s = .int .i64 (r : Int) ∧ q = .int .i64 (i : Int) ∧ Trips wr go M fo ∧ Gat w wr w.heap.size 33 3 (.slice (some ⟨go, 0, none⟩) M co) M (tris f (sqP f n a0 M))) (fun _ q _ => M - (intOf q).toNat)
      case atStart => exact ⟨0, 1, by omega, by omega, Nat.le_refl _, rfl, rfl, L, R⟩
      case round =>
        clear L R
        obtain ⟨r, i, hr, hi', hi1, rfl, rfl, L, R⟩ := hrel
        by_cases hi : i < M
        · have hilt : (i : Int) < (M : Int) := by omega
          have bi := bnd i hi
          have br := bnd r hr
          have mb1 := mul_bound bi.1 br.2.2
          have mb2 := mul_bound br.1 bi.2.2
          have mw1 : IntKind.i64.wrap (fo (i * 3) * fo (r * 3 + 2)) = fo (i * 3) * fo (r * 3 + 2) := IntWalk.i64_in _ (by omega)
          obtain ⟨m1, mq1⟩ : ∃ m, fo (i * 3) * fo (r * 3 + 2) = m := ⟨_, rfl⟩
          rw [mq1] at mw1 mb1
          have mw2 : IntKind.i64.wrap (fo (r * 3) * fo (i * 3 + 2)) = fo (r * 3) * fo (i * 3 + 2) := IntWalk.i64_in _ (by omega)
          obtain ⟨m2, mq2⟩ : ∃ m, fo (r * 3) * fo (i * 3 + 2) = m := ⟨_, rfl⟩
          rw [mq2] at mw2 mb2
          have mw3 : IntKind.i64.wrap (m1 - m2) = m1 - m2 := IntWalk.i64_in _ (by omega)
          obtain ⟨m3, mq3⟩ : ∃ m, m1 - m2 = m := ⟨_, rfl⟩
          rw [mq3] at mw3
          have pb1 := mul_bound bi.2.1 br.2.2
          have pb2 := mul_bound br.2.1 bi.2.2
          have pw1 : IntKind.i64.wrap (fo (i * 3 + 1) * fo (r * 3 + 2)) = fo (i * 3 + 1) * fo (r * 3 + 2) := IntWalk.i64_in _ (by omega)
          obtain ⟨p1, pq1⟩ : ∃ m, fo (i * 3 + 1) * fo (r * 3 + 2) = m := ⟨_, rfl⟩
          rw [pq1] at pw1 pb1
          have pw2 : IntKind.i64.wrap (fo (r * 3 + 1) * fo (i * 3 + 2)) = fo (r * 3 + 1) * fo (i * 3 + 2) := IntWalk.i64_in _ (by omega)
          obtain ⟨p2, pq2⟩ : ∃ m, fo (r * 3 + 1) * fo (i * 3 + 2) = m := ⟨_, rfl⟩
          rw [pq2] at pw2 pb2
          have pw3 : IntKind.i64.wrap (p1 - p2) = p1 - p2 := IntWalk.i64_in _ (by omega)
          obtain ⟨p3, pq3⟩ : ∃ m, p1 - p2 = m := ⟨_, rfl⟩
          rw [pq3] at pw3
          go_wp2_with fail
          obtain ⟨u0, hu0, bb⟩ : ∃ uu, wr.drew = uu ∧ Below wr.heap.size wr uu := ⟨_, rfl, (Below.refl _ _).drew⟩
          replace L := L.below bb
          replace R := R.below bb
          clear bb
          refine wp_region_held_drew (S := Kb u0) (by kernel_rfl) (by rw [hu0]; exact Below.refl _ _) (fun hHeld => ?_)
          rw [hu0] at hHeld ⊢
          clear hu0
          have bu : Kb u0 u0 := Below.refl _ _
          change wpAnyH _ _ _ _ _ 24 #[false, false, false, false, false, false, false, false, false, false, false, false, false, false, false, false, false, false, false, false, false, false, false, false] _ _
          refine wpAnyH_take (i := 0) (v := .slice (some ⟨go, 0, none⟩) M co) rfl (by kernel_rfl) (by kernel_rfl) (by kernel_rfl) (fun _ _ _ h => h) (Or.inl ⟨by kernel_rfl, ?_⟩) hHeld ?_
          · intro w' hSw; go_simp
          try simp only [Act.put, List.setIfInBounds_toArray, List.set_cons_zero, List.set_cons_succ, List.getElem_toArray, List.getElem_cons_zero]
          refine wpAnyH_take (i := 1) (v := .int .i64 (i : Int)) rfl (by kernel_rfl) (by kernel_rfl) (by kernel_rfl) (fun _ _ _ h => h) (Or.inl ⟨by kernel_rfl, ?_⟩) hHeld ?_
          · intro w' hSw; go_simp
          try simp only [Act.put, List.setIfInBounds_toArray, List.set_cons_zero, List.set_cons_succ, List.getElem_toArray, List.getElem_cons_succ, List.getElem_cons_zero]
          refine wpAnyH_take (i := 2) (v := .pointer (some ⟨go, i * 3, none⟩)) rfl (by kernel_rfl) (by kernel_rfl) (by kernel_rfl) (fun _ _ _ h => h) (Or.inl ⟨by kernel_rfl, ?_⟩) hHeld ?_
          · intro w' hSw; go_simp
          try simp only [Act.put, List.setIfInBounds_toArray, List.set_cons_zero, List.set_cons_succ, List.getElem_toArray, List.getElem_cons_succ, List.getElem_cons_zero]
          refine wpAnyH_take (i := 3) (v := .pointer (some ⟨go, i * 3, none⟩)) rfl (by kernel_rfl) (by kernel_rfl) (by kernel_rfl) (fun _ _ _ h => h) (Or.inl ⟨by kernel_rfl, ?_⟩) hHeld ?_
          · intro w' hSw; go_simp
          try simp only [Act.put, List.setIfInBounds_toArray, List.set_cons_zero, List.set_cons_succ, List.getElem_toArray, List.getElem_cons_succ, List.getElem_cons_zero]
          refine wpAnyH_take (i := 4) (v := .int .i64 (fo (i * 3))) rfl (by kernel_rfl) (by kernel_rfl) (by kernel_rfl) (fun _ _ _ h => h) (Or.inl ⟨by kernel_rfl, ?_⟩) hHeld ?_
          · intro w' hSw; have zz := (L.below hSw).open i hi; obtain ⟨z0, z1, z2⟩ := zz; go_simp
          try simp only [Act.put, List.setIfInBounds_toArray, List.set_cons_zero, List.set_cons_succ, List.getElem_toArray, List.getElem_cons_succ, List.getElem_cons_zero]
          refine wpAnyH_take (i := 5) (v := .slice (some ⟨go, 0, none⟩) M co) rfl (by kernel_rfl) (by kernel_rfl) (by kernel_rfl) (fun _ _ _ h => h) (Or.inl ⟨by kernel_rfl, ?_⟩) hHeld ?_
          · intro w' hSw; go_simp
          try simp only [Act.put, List.setIfInBounds_toArray, List.set_cons_zero, List.set_cons_succ, List.getElem_toArray, List.getElem_cons_succ, List.getElem_cons_zero]
          refine wpAnyH_take (i := 6) (v := .int .i64 (r : Int)) rfl (by kernel_rfl) (by kernel_rfl) (by kernel_rfl) (fun _ _ _ h => h) (Or.inl ⟨by kernel_rfl, ?_⟩) hHeld ?_
          · intro w' hSw; go_simp
          try simp only [Act.put, List.setIfInBounds_toArray, List.set_cons_zero, List.set_cons_succ, List.getElem_toArray, List.getElem_cons_succ, List.getElem_cons_zero]
          refine wpAnyH_take (i := 7) (v := .pointer (some ⟨go, r * 3, none⟩)) rfl (by kernel_rfl) (by kernel_rfl) (by kernel_rfl) (fun _ _ _ h => h) (Or.inl ⟨by kernel_rfl, ?_⟩) hHeld ?_
          · intro w' hSw; go_simp
          try simp only [Act.put, List.setIfInBounds_toArray, List.set_cons_zero, List.set_cons_succ, List.getElem_toArray, List.getElem_cons_succ, List.getElem_cons_zero]
          refine wpAnyH_take (i := 8) (v := .pointer (some ⟨go, r * 3 + 2, none⟩)) rfl (by kernel_rfl) (by kernel_rfl) (by kernel_rfl) (fun _ _ _ h => h) (Or.inl ⟨by kernel_rfl, ?_⟩) hHeld ?_
          · intro w' hSw; go_simp
          try simp only [Act.put, List.setIfInBounds_toArray, List.set_cons_zero, List.set_cons_succ, List.getElem_toArray, List.getElem_cons_succ, List.getElem_cons_zero]
          refine wpAnyH_take (i := 9) (v := .int .i64 (fo (r * 3 + 2))) rfl (by kernel_rfl) (by kernel_rfl) (by kernel_rfl) (fun _ _ _ h => h) (Or.inl ⟨by kernel_rfl, ?_⟩) hHeld ?_
          · intro w' hSw; have zz := (L.below hSw).open r hr; obtain ⟨z0, z1, z2⟩ := zz; go_simp
          try simp only [Act.put, List.setIfInBounds_toArray, List.set_cons_zero, List.set_cons_succ, List.getElem_toArray, List.getElem_cons_succ, List.getElem_cons_zero]
          refine wpAnyH_take (i := 10) (v := .int .i64 m1) rfl (by kernel_rfl) (by kernel_rfl) (by kernel_rfl) (fun _ _ _ h => h) (Or.inl ⟨by kernel_rfl, ?_⟩) hHeld ?_
          · intro w' hSw; go_simp
          try simp only [Act.put, List.setIfInBounds_toArray, List.set_cons_zero, List.set_cons_succ, List.getElem_toArray, List.getElem_cons_succ, List.getElem_cons_zero]
          refine wpAnyH_take (i := 11) (v := .slice (some ⟨go, 0, none⟩) M co) rfl (by kernel_rfl) (by kernel_rfl) (by kernel_rfl) (fun _ _ _ h => h) (Or.inl ⟨by kernel_rfl, ?_⟩) hHeld ?_
          · intro w' hSw; go_simp
          try simp only [Act.put, List.setIfInBounds_toArray, List.set_cons_zero, List.set_cons_succ, List.getElem_toArray, List.getElem_cons_succ, List.getElem_cons_zero]
          refine wpAnyH_take (i := 12) (v := .int .i64 (r : Int)) rfl (by kernel_rfl) (by kernel_rfl) (by kernel_rfl) (fun _ _ _ h => h) (Or.inl ⟨by kernel_rfl, ?_⟩) hHeld ?_
          · intro w' hSw; go_simp
          try simp only [Act.put, List.setIfInBounds_toArray, List.set_cons_zero, List.set_cons_succ, List.getElem_toArray, List.getElem_cons_succ, List.getElem_cons_zero]
          refine wpAnyH_take (i := 13) (v := .pointer (some ⟨go, r * 3, none⟩)) rfl (by kernel_rfl) (by kernel_rfl) (by kernel_rfl) (fun _ _ _ h => h) (Or.inl ⟨by kernel_rfl, ?_⟩) hHeld ?_
          · intro w' hSw; go_simp
          try simp only [Act.put, List.setIfInBounds_toArray, List.set_cons_zero, List.set_cons_succ, List.getElem_toArray, List.getElem_cons_succ, List.getElem_cons_zero]
          refine wpAnyH_take (i := 14) (v := .pointer (some ⟨go, r * 3, none⟩)) rfl (by kernel_rfl) (by kernel_rfl) (by kernel_rfl) (fun _ _ _ h => h) (Or.inl ⟨by kernel_rfl, ?_⟩) hHeld ?_
          · intro w' hSw; go_simp
          try simp only [Act.put, List.setIfInBounds_toArray, List.set_cons_zero, List.set_cons_succ, List.getElem_toArray, List.getElem_cons_succ, List.getElem_cons_zero]
          refine wpAnyH_take (i := 15) (v := .int .i64 (fo (r * 3))) rfl (by kernel_rfl) (by kernel_rfl) (by kernel_rfl) (fun _ _ _ h => h) (Or.inl ⟨by kernel_rfl, ?_⟩) hHeld ?_
          · intro w' hSw; have zz := (L.below hSw).open r hr; obtain ⟨z0, z1, z2⟩ := zz; go_simp
          try simp only [Act.put, List.setIfInBounds_toArray, List.set_cons_zero, List.set_cons_succ, List.getElem_toArray, List.getElem_cons_succ, List.getElem_cons_zero]
          refine wpAnyH_take (i := 16) (v := .slice (some ⟨go, 0, none⟩) M co) rfl (by kernel_rfl) (by kernel_rfl) (by kernel_rfl) (fun _ _ _ h => h) (Or.inl ⟨by kernel_rfl, ?_⟩) hHeld ?_
          · intro w' hSw; go_simp
          try simp only [Act.put, List.setIfInBounds_toArray, List.set_cons_zero, List.set_cons_succ, List.getElem_toArray, List.getElem_cons_succ, List.getElem_cons_zero]
          refine wpAnyH_take (i := 17) (v := .int .i64 (i : Int)) rfl (by kernel_rfl) (by kernel_rfl) (by kernel_rfl) (fun _ _ _ h => h) (Or.inl ⟨by kernel_rfl, ?_⟩) hHeld ?_
          · intro w' hSw; go_simp
          try simp only [Act.put, List.setIfInBounds_toArray, List.set_cons_zero, List.set_cons_succ, List.getElem_toArray, List.getElem_cons_succ, List.getElem_cons_zero]
          refine wpAnyH_take (i := 18) (v := .pointer (some ⟨go, i * 3, none⟩)) rfl (by kernel_rfl) (by kernel_rfl) (by kernel_rfl) (fun _ _ _ h => h) (Or.inl ⟨by kernel_rfl, ?_⟩) hHeld ?_
          · intro w' hSw; go_simp
          try simp only [Act.put, List.setIfInBounds_toArray, List.set_cons_zero, List.set_cons_succ, List.getElem_toArray, List.getElem_cons_succ, List.getElem_cons_zero]
          refine wpAnyH_take (i := 19) (v := .pointer (some ⟨go, i * 3 + 2, none⟩)) rfl (by kernel_rfl) (by kernel_rfl) (by kernel_rfl) (fun _ _ _ h => h) (Or.inl ⟨by kernel_rfl, ?_⟩) hHeld ?_
          · intro w' hSw; go_simp
          try simp only [Act.put, List.setIfInBounds_toArray, List.set_cons_zero, List.set_cons_succ, List.getElem_toArray, List.getElem_cons_succ, List.getElem_cons_zero]
          refine wpAnyH_take (i := 20) (v := .int .i64 (fo (i * 3 + 2))) rfl (by kernel_rfl) (by kernel_rfl) (by kernel_rfl) (fun _ _ _ h => h) (Or.inl ⟨by kernel_rfl, ?_⟩) hHeld ?_
          · intro w' hSw; have zz := (L.below hSw).open i hi; obtain ⟨z0, z1, z2⟩ := zz; go_simp
          try simp only [Act.put, List.setIfInBounds_toArray, List.set_cons_zero, List.set_cons_succ, List.getElem_toArray, List.getElem_cons_succ, List.getElem_cons_zero]
          refine wpAnyH_take (i := 21) (v := .int .i64 m2) rfl (by kernel_rfl) (by kernel_rfl) (by kernel_rfl) (fun _ _ _ h => h) (Or.inl ⟨by kernel_rfl, ?_⟩) hHeld ?_
          · intro w' hSw; go_simp
          try simp only [Act.put, List.setIfInBounds_toArray, List.set_cons_zero, List.set_cons_succ, List.getElem_toArray, List.getElem_cons_succ, List.getElem_cons_zero]
          refine wpAnyH_take (i := 22) (v := .int .i64 m3) rfl (by kernel_rfl) (by kernel_rfl) (by kernel_rfl) (fun _ _ _ h => h) (Or.inl ⟨by kernel_rfl, ?_⟩) hHeld ?_
          · intro w' hSw; go_simp
          try simp only [Act.put, List.setIfInBounds_toArray, List.set_cons_zero, List.set_cons_succ, List.getElem_toArray, List.getElem_cons_succ, List.getElem_cons_zero]
          refine wpAnyH_ready (rs := [23]) (by kernel_rfl) (by simp) ?_
          refine AllReadyH.cons rfl (fun KK hK' => ?_) AllReadyH.nil
          go_simp
          clear hHeld
          refine hK'.out _ _ (bu) (fun hHeld => ?_)
          clear hK' KK
          try simp only [List.setIfInBounds_toArray, List.set_cons_zero, List.set_cons_succ]
          refine wpAnyH_done (by kernel_rfl) ?_ _
          clear hHeld
          replace L := L.below bu
          replace R := R.below bu
          clear bu
          go_wp2_with fail
          obtain ⟨v0, hu0, bb⟩ : ∃ uu, u0.drew = uu ∧ Below u0.heap.size u0 uu := ⟨_, rfl, (Below.refl _ _).drew⟩
          replace L := L.below bb
          replace R := R.below bb
          clear bb
          refine wp_region_held_drew (S := Kb v0) (by kernel_rfl) (by rw [hu0]; exact Below.refl _ _) (fun hHeld => ?_)
          rw [hu0] at hHeld ⊢
          clear hu0
          have bu : Kb v0 v0 := Below.refl _ _
          change wpAnyH _ _ _ _ _ 24 #[false, false, false, false, false, false, false, false, false, false, false, false, false, false, false, false, false, false, false, false, false, false, false, false] _ _
          refine wpAnyH_take (i := 0) (v := .slice (some ⟨go, 0, none⟩) M co) rfl (by kernel_rfl) (by kernel_rfl) (by kernel_rfl) (fun _ _ _ h => h) (Or.inl ⟨by kernel_rfl, ?_⟩) hHeld ?_
          · intro w' hSw; go_simp
          try simp only [Act.put, List.setIfInBounds_toArray, List.set_cons_zero, List.set_cons_succ, List.getElem_toArray, List.getElem_cons_zero]
          refine wpAnyH_take (i := 1) (v := .int .i64 (i : Int)) rfl (by kernel_rfl) (by kernel_rfl) (by kernel_rfl) (fun _ _ _ h => h) (Or.inl ⟨by kernel_rfl, ?_⟩) hHeld ?_
          · intro w' hSw; go_simp
          try simp only [Act.put, List.setIfInBounds_toArray, List.set_cons_zero, List.set_cons_succ, List.getElem_toArray, List.getElem_cons_succ, List.getElem_cons_zero]
          refine wpAnyH_take (i := 2) (v := .pointer (some ⟨go, i * 3, none⟩)) rfl (by kernel_rfl) (by kernel_rfl) (by kernel_rfl) (fun _ _ _ h => h) (Or.inl ⟨by kernel_rfl, ?_⟩) hHeld ?_
          · intro w' hSw; go_simp
          try simp only [Act.put, List.setIfInBounds_toArray, List.set_cons_zero, List.set_cons_succ, List.getElem_toArray, List.getElem_cons_succ, List.getElem_cons_zero]
          refine wpAnyH_take (i := 3) (v := .pointer (some ⟨go, i * 3 + 1, none⟩)) rfl (by kernel_rfl) (by kernel_rfl) (by kernel_rfl) (fun _ _ _ h => h) (Or.inl ⟨by kernel_rfl, ?_⟩) hHeld ?_
          · intro w' hSw; go_simp
          try simp only [Act.put, List.setIfInBounds_toArray, List.set_cons_zero, List.set_cons_succ, List.getElem_toArray, List.getElem_cons_succ, List.getElem_cons_zero]
          refine wpAnyH_take (i := 4) (v := .int .i64 (fo (i * 3 + 1))) rfl (by kernel_rfl) (by kernel_rfl) (by kernel_rfl) (fun _ _ _ h => h) (Or.inl ⟨by kernel_rfl, ?_⟩) hHeld ?_
          · intro w' hSw; have zz := (L.below hSw).open i hi; obtain ⟨z0, z1, z2⟩ := zz; go_simp
          try simp only [Act.put, List.setIfInBounds_toArray, List.set_cons_zero, List.set_cons_succ, List.getElem_toArray, List.getElem_cons_succ, List.getElem_cons_zero]
          refine wpAnyH_take (i := 5) (v := .slice (some ⟨go, 0, none⟩) M co) rfl (by kernel_rfl) (by kernel_rfl) (by kernel_rfl) (fun _ _ _ h => h) (Or.inl ⟨by kernel_rfl, ?_⟩) hHeld ?_
          · intro w' hSw; go_simp
          try simp only [Act.put, List.setIfInBounds_toArray, List.set_cons_zero, List.set_cons_succ, List.getElem_toArray, List.getElem_cons_succ, List.getElem_cons_zero]
          refine wpAnyH_take (i := 6) (v := .int .i64 (r : Int)) rfl (by kernel_rfl) (by kernel_rfl) (by kernel_rfl) (fun _ _ _ h => h) (Or.inl ⟨by kernel_rfl, ?_⟩) hHeld ?_
          · intro w' hSw; go_simp
          try simp only [Act.put, List.setIfInBounds_toArray, List.set_cons_zero, List.set_cons_succ, List.getElem_toArray, List.getElem_cons_succ, List.getElem_cons_zero]
          refine wpAnyH_take (i := 7) (v := .pointer (some ⟨go, r * 3, none⟩)) rfl (by kernel_rfl) (by kernel_rfl) (by kernel_rfl) (fun _ _ _ h => h) (Or.inl ⟨by kernel_rfl, ?_⟩) hHeld ?_
          · intro w' hSw; go_simp
          try simp only [Act.put, List.setIfInBounds_toArray, List.set_cons_zero, List.set_cons_succ, List.getElem_toArray, List.getElem_cons_succ, List.getElem_cons_zero]
          refine wpAnyH_take (i := 8) (v := .pointer (some ⟨go, r * 3 + 2, none⟩)) rfl (by kernel_rfl) (by kernel_rfl) (by kernel_rfl) (fun _ _ _ h => h) (Or.inl ⟨by kernel_rfl, ?_⟩) hHeld ?_
          · intro w' hSw; go_simp
          try simp only [Act.put, List.setIfInBounds_toArray, List.set_cons_zero, List.set_cons_succ, List.getElem_toArray, List.getElem_cons_succ, List.getElem_cons_zero]
          refine wpAnyH_take (i := 9) (v := .int .i64 (fo (r * 3 + 2))) rfl (by kernel_rfl) (by kernel_rfl) (by kernel_rfl) (fun _ _ _ h => h) (Or.inl ⟨by kernel_rfl, ?_⟩) hHeld ?_
          · intro w' hSw; have zz := (L.below hSw).open r hr; obtain ⟨z0, z1, z2⟩ := zz; go_simp
          try simp only [Act.put, List.setIfInBounds_toArray, List.set_cons_zero, List.set_cons_succ, List.getElem_toArray, List.getElem_cons_succ, List.getElem_cons_zero]
          refine wpAnyH_take (i := 10) (v := .int .i64 p1) rfl (by kernel_rfl) (by kernel_rfl) (by kernel_rfl) (fun _ _ _ h => h) (Or.inl ⟨by kernel_rfl, ?_⟩) hHeld ?_
          · intro w' hSw; go_simp
          try simp only [Act.put, List.setIfInBounds_toArray, List.set_cons_zero, List.set_cons_succ, List.getElem_toArray, List.getElem_cons_succ, List.getElem_cons_zero]
          refine wpAnyH_take (i := 11) (v := .slice (some ⟨go, 0, none⟩) M co) rfl (by kernel_rfl) (by kernel_rfl) (by kernel_rfl) (fun _ _ _ h => h) (Or.inl ⟨by kernel_rfl, ?_⟩) hHeld ?_
          · intro w' hSw; go_simp
          try simp only [Act.put, List.setIfInBounds_toArray, List.set_cons_zero, List.set_cons_succ, List.getElem_toArray, List.getElem_cons_succ, List.getElem_cons_zero]
          refine wpAnyH_take (i := 12) (v := .int .i64 (r : Int)) rfl (by kernel_rfl) (by kernel_rfl) (by kernel_rfl) (fun _ _ _ h => h) (Or.inl ⟨by kernel_rfl, ?_⟩) hHeld ?_
          · intro w' hSw; go_simp
          try simp only [Act.put, List.setIfInBounds_toArray, List.set_cons_zero, List.set_cons_succ, List.getElem_toArray, List.getElem_cons_succ, List.getElem_cons_zero]
          refine wpAnyH_take (i := 13) (v := .pointer (some ⟨go, r * 3, none⟩)) rfl (by kernel_rfl) (by kernel_rfl) (by kernel_rfl) (fun _ _ _ h => h) (Or.inl ⟨by kernel_rfl, ?_⟩) hHeld ?_
          · intro w' hSw; go_simp
          try simp only [Act.put, List.setIfInBounds_toArray, List.set_cons_zero, List.set_cons_succ, List.getElem_toArray, List.getElem_cons_succ, List.getElem_cons_zero]
          refine wpAnyH_take (i := 14) (v := .pointer (some ⟨go, r * 3 + 1, none⟩)) rfl (by kernel_rfl) (by kernel_rfl) (by kernel_rfl) (fun _ _ _ h => h) (Or.inl ⟨by kernel_rfl, ?_⟩) hHeld ?_
          · intro w' hSw; go_simp
          try simp only [Act.put, List.setIfInBounds_toArray, List.set_cons_zero, List.set_cons_succ, List.getElem_toArray, List.getElem_cons_succ, List.getElem_cons_zero]
          refine wpAnyH_take (i := 15) (v := .int .i64 (fo (r * 3 + 1))) rfl (by kernel_rfl) (by kernel_rfl) (by kernel_rfl) (fun _ _ _ h => h) (Or.inl ⟨by kernel_rfl, ?_⟩) hHeld ?_
          · intro w' hSw; have zz := (L.below hSw).open r hr; obtain ⟨z0, z1, z2⟩ := zz; go_simp
          try simp only [Act.put, List.setIfInBounds_toArray, List.set_cons_zero, List.set_cons_succ, List.getElem_toArray, List.getElem_cons_succ, List.getElem_cons_zero]
          refine wpAnyH_take (i := 16) (v := .slice (some ⟨go, 0, none⟩) M co) rfl (by kernel_rfl) (by kernel_rfl) (by kernel_rfl) (fun _ _ _ h => h) (Or.inl ⟨by kernel_rfl, ?_⟩) hHeld ?_
          · intro w' hSw; go_simp
          try simp only [Act.put, List.setIfInBounds_toArray, List.set_cons_zero, List.set_cons_succ, List.getElem_toArray, List.getElem_cons_succ, List.getElem_cons_zero]
          refine wpAnyH_take (i := 17) (v := .int .i64 (i : Int)) rfl (by kernel_rfl) (by kernel_rfl) (by kernel_rfl) (fun _ _ _ h => h) (Or.inl ⟨by kernel_rfl, ?_⟩) hHeld ?_
          · intro w' hSw; go_simp
          try simp only [Act.put, List.setIfInBounds_toArray, List.set_cons_zero, List.set_cons_succ, List.getElem_toArray, List.getElem_cons_succ, List.getElem_cons_zero]
          refine wpAnyH_take (i := 18) (v := .pointer (some ⟨go, i * 3, none⟩)) rfl (by kernel_rfl) (by kernel_rfl) (by kernel_rfl) (fun _ _ _ h => h) (Or.inl ⟨by kernel_rfl, ?_⟩) hHeld ?_
          · intro w' hSw; go_simp
          try simp only [Act.put, List.setIfInBounds_toArray, List.set_cons_zero, List.set_cons_succ, List.getElem_toArray, List.getElem_cons_succ, List.getElem_cons_zero]
          refine wpAnyH_take (i := 19) (v := .pointer (some ⟨go, i * 3 + 2, none⟩)) rfl (by kernel_rfl) (by kernel_rfl) (by kernel_rfl) (fun _ _ _ h => h) (Or.inl ⟨by kernel_rfl, ?_⟩) hHeld ?_
          · intro w' hSw; go_simp
          try simp only [Act.put, List.setIfInBounds_toArray, List.set_cons_zero, List.set_cons_succ, List.getElem_toArray, List.getElem_cons_succ, List.getElem_cons_zero]
          refine wpAnyH_take (i := 20) (v := .int .i64 (fo (i * 3 + 2))) rfl (by kernel_rfl) (by kernel_rfl) (by kernel_rfl) (fun _ _ _ h => h) (Or.inl ⟨by kernel_rfl, ?_⟩) hHeld ?_
          · intro w' hSw; have zz := (L.below hSw).open i hi; obtain ⟨z0, z1, z2⟩ := zz; go_simp
          try simp only [Act.put, List.setIfInBounds_toArray, List.set_cons_zero, List.set_cons_succ, List.getElem_toArray, List.getElem_cons_succ, List.getElem_cons_zero]
          refine wpAnyH_take (i := 21) (v := .int .i64 p2) rfl (by kernel_rfl) (by kernel_rfl) (by kernel_rfl) (fun _ _ _ h => h) (Or.inl ⟨by kernel_rfl, ?_⟩) hHeld ?_
          · intro w' hSw; go_simp
          try simp only [Act.put, List.setIfInBounds_toArray, List.set_cons_zero, List.set_cons_succ, List.getElem_toArray, List.getElem_cons_succ, List.getElem_cons_zero]
          refine wpAnyH_take (i := 22) (v := .int .i64 p3) rfl (by kernel_rfl) (by kernel_rfl) (by kernel_rfl) (fun _ _ _ h => h) (Or.inl ⟨by kernel_rfl, ?_⟩) hHeld ?_
          · intro w' hSw; go_simp
          try simp only [Act.put, List.setIfInBounds_toArray, List.set_cons_zero, List.set_cons_succ, List.getElem_toArray, List.getElem_cons_succ, List.getElem_cons_zero]
          refine wpAnyH_ready (rs := [23]) (by kernel_rfl) (by simp) ?_
          refine AllReadyH.cons rfl (fun KK hK' => ?_) AllReadyH.nil
          go_simp
          clear hHeld
          refine hK'.out _ _ (bu) (fun hHeld => ?_)
          clear hK' KK
          try simp only [List.setIfInBounds_toArray, List.set_cons_zero, List.set_cons_succ]
          refine wpAnyH_done (by kernel_rfl) ?_ _
          clear hHeld
          replace L := L.below bu
          replace R := R.below bu
          clear bu
          clear mb1 mb2 pb1 pb2 mw1 mw2 mw3 pw1 pw2 pw3 mq1 mq2 mq3 pq1 pq2 pq3 bi br
          by_cases h1 : m3 < 0
          · go_wp2
            exact ⟨⟨i, i + 1, hi, by omega, by omega, rfl, by go_num, L, R⟩, by simp [intOf]; omega⟩
          · by_cases h2 : m3 = 0
            · subst h2
              by_cases h3 : p3 < 0
              · go_wp2
                exact ⟨⟨i, i + 1, hi, by omega, by omega, rfl, by go_num, L, R⟩, by simp [intOf]; omega⟩
              · go_wp2
                exact ⟨⟨r, i + 1, hr, by omega, by omega, rfl, by go_num, L, R⟩, by simp [intOf]; omega⟩
            · have h2' : (m3 == 0) = false := by rw [beq_eq_false_iff_ne]; exact h2
              go_wp2
              exact ⟨⟨r, i + 1, hr, by omega, by omega, rfl, by go_num, L, R⟩, by simp [intOf]; omega⟩
        · have hilt : ¬ (i : Int) < (M : Int) := by omega
          have hrM : (r : Int) ≤ (M : Int) := by omega
          have hrc : (r : Int) ≤ (co : Int) := by omega
          have hrM' : ((M : Int) - (r : Int)) = ((M - r : Nat) : Int) := by omega
          have tk := tris_len f ((sqP f n a0 M).take r)
          have td := tris_len f ((sqP f n a0 M).drop r)
          have tl := tris_len f (sqP f n a0 M)
          have ta : tris f (sqP f n a0 M) = tris f ((sqP f n a0 M).take r) ++ tris f ((sqP f n a0 M).drop r) := by rw [← tris_app, List.take_append_drop]
          rw [List.length_take, sqP_len, Nat.min_eq_left (by omega)] at tk
          rw [List.length_drop, sqP_len] at td
          rw [sqP_len] at tl
          have HL : Hid ((∀ j, j < r * 3 → (tris f ((sqP f n a0 M).take r)).getD j 0 = fo j) ∧ (∀ j, j < (M - r) * 3 → (tris f ((sqP f n a0 M).drop r)).getD j 0 = fo (r * 3 + j))) := by
            refine ⟨fun j hj => ?_, fun j hj => ?_⟩
            · rw [HF.out j, ta]; simp only [List.getD_eq_getElem?_getD]; rw [List.getElem?_append_left (by omega)]
            · rw [HF.out (r * 3 + j), ta]; simp only [List.getD_eq_getElem?_getD]; rw [List.getElem?_append_right (by omega), tk, Nat.add_sub_cancel_left]
          have sz : M ≤ 40 := by omega
          clear bnd HF ta tl hilt
          go_wp2_with fail
          obtain ⟨u0, hu0, bb⟩ : ∃ uu, wr.drew = uu ∧ Below wr.heap.size wr uu := ⟨_, rfl, (Below.refl _ _).drew⟩
          replace L := L.below bb
          replace R := R.below bb
          clear bb
          refine wp_region_held_drew (S := AnyW) (by kernel_rfl) trivial (fun hHeld => ?_)
          rw [hu0] at hHeld ⊢
          clear hu0
          change wpAnyH _ _ _ _ _ 10 #[false, false, false, false, false, false, false, false, false, false] _ _
          refine wpAnyH_take (i := 1) (v := .slice (some ⟨go, 0, none⟩) M co) rfl (by kernel_rfl) (by kernel_rfl) (by kernel_rfl) (fun _ _ _ h => h) (Or.inl ⟨by kernel_rfl, ?_⟩) hHeld ?_
          · intro w' hSw; go_simp
          try simp only [Act.put, List.setIfInBounds_toArray, List.set_cons_zero, List.set_cons_succ, List.getElem_toArray, List.getElem_cons_succ, List.getElem_cons_zero]
          refine wpAnyH_take (i := 2) (v := .int .i64 (r : Int)) rfl (by kernel_rfl) (by kernel_rfl) (by kernel_rfl) (fun _ _ _ h => h) (Or.inl ⟨by kernel_rfl, ?_⟩) hHeld ?_
          · intro w' hSw; go_simp
          try simp only [Act.put, List.setIfInBounds_toArray, List.set_cons_zero, List.set_cons_succ, List.getElem_toArray, List.getElem_cons_succ, List.getElem_cons_zero]
          refine wpAnyH_take (i := 3) (v := .slice (some ⟨go, r * 3, none⟩) (M - r) (co - r)) rfl (by kernel_rfl) (by kernel_rfl) (by kernel_rfl) (fun _ _ _ h => h) (Or.inl ⟨by kernel_rfl, ?_⟩) hHeld ?_
          · intro w' hSw; go_simp; try omega
          try simp only [Act.put, List.setIfInBounds_toArray, List.set_cons_zero, List.set_cons_succ, List.getElem_toArray, List.getElem_cons_succ, List.getElem_cons_zero]
          refine wpAnyH_take (i := 5) (v := .slice (some ⟨go, 0, none⟩) M co) rfl (by kernel_rfl) (by kernel_rfl) (by kernel_rfl) (fun _ _ _ h => h) (Or.inl ⟨by kernel_rfl, ?_⟩) hHeld ?_
          · intro w' hSw; go_simp
          try simp only [Act.put, List.setIfInBounds_toArray, List.set_cons_zero, List.set_cons_succ, List.getElem_toArray, List.getElem_cons_succ, List.getElem_cons_zero]
          refine wpAnyH_take (i := 6) (v := .int .i64 (r : Int)) rfl (by kernel_rfl) (by kernel_rfl) (by kernel_rfl) (fun _ _ _ h => h) (Or.inl ⟨by kernel_rfl, ?_⟩) hHeld ?_
          · intro w' hSw; go_simp
          try simp only [Act.put, List.setIfInBounds_toArray, List.set_cons_zero, List.set_cons_succ, List.getElem_toArray, List.getElem_cons_succ, List.getElem_cons_zero]
          refine wpAnyH_take (i := 7) (v := .slice (some ⟨go, 0, none⟩) r co) rfl (by kernel_rfl) (by kernel_rfl) (by kernel_rfl) (fun _ _ _ h => h) (Or.inl ⟨by kernel_rfl, ?_⟩) hHeld ?_
          · intro w' hSw; go_simp
          try simp only [Act.put, List.setIfInBounds_toArray, List.set_cons_zero, List.set_cons_succ, List.getElem_toArray, List.getElem_cons_succ, List.getElem_cons_zero]
          refine wpAnyH_ready (rs := [0]) (by kernel_rfl) (by simp) ?_
          refine AllReadyH.cons rfl (fun KK hK' => ?_) AllReadyH.nil
          go_simp
          obtain ⟨V9, hV9, A9, b10, -⟩ := boxed u0 33 #[]
          rw [hV9]
          have lgo := L.1
          obtain ⟨p, hp⟩ : ∃ g, u0.heap.size = g := ⟨_, rfl⟩
          rw [hp] at A9 lgo ⊢
          replace L := L.below b10
          have bw : Below w.heap.size w V9 := R.b.trans (b10.mono R.b.size)
          have hpw : w.heap.size ≤ p := by rw [← hp]; exact R.b.size
          clear hV9 hp b10 R
          have O1 : V9.ownsRow p 33 3 (.slice (some ⟨p, 0, none⟩) 0 0) 0 [] := ⟨rfl, .inr ⟨p, 0, #[], rfl, Nat.le_refl _, A9, Nat.le_refl _, Nat.zero_le _, rfl, rfl⟩⟩
          have lp := A9.lt
          clear A9
          clear hHeld
          refine hK'.out _ _ trivial (fun hHeld => ?_)
          clear hK' KK
          try simp only [List.setIfInBounds_toArray, List.set_cons_zero]
          refine wpAnyH_ready (rs := [4]) (by kernel_rfl) (by simp) ?_
          refine AllReadyH.cons rfl (fun KK hK' => ?_) AllReadyH.nil
          refine step_append_at _ (by rfl) _ _ _ (by rfl) p 33 i0 _ 3 24 Try.underlying30 hi0 hz0 hz1 hz2 rfl (by omega) (.slice (some ⟨p, 0, none⟩) 0 0) 0 [] (by rfl) O1 ⟨go, r * 3, none⟩ (M - r) (co - r) (lCells (tris f ((sqP f n a0 M).drop r))) (by rfl) (by rw [lCells, List.length_map, td]) (newsL (fun j hj => by rw [HL.out.2 j (by omega)]; exact L.2 _ (by omega))) (lCells_one _) (by unfold maxLen; omega) (by omega) (by omega) ?_
          intro v2 w5 hown hgrow hne _
          have bg : Below p V9 w5 := Below.grown (Below.refl _ _) hgrow (by omega) (fun x hx => ownBlock_ge O1 hx)
          have L5 : Trips w5 go M fo := ⟨Nat.lt_of_lt_of_le L.1 bg.size, fun j hj => (bg.cell (p := ⟨go, j, none⟩) lgo).trans (L.2 j hj)⟩
          have O2 : w5.ownsRow p 33 3 v2 (M - r) (lCells (tris f ((sqP f n a0 M).drop r))) := by simpa using hown
          have nv2 : v2 ≠ .slice none 0 0 := fun h => nn_some _ _ _ (hne.1 h).1
          replace bw : Below w.heap.size w w5 := bw.trans (bg.mono hpw)
          have lp5 : p ≤ w5.heap.size := Nat.le_trans (Nat.le_of_lt lp) bg.size
          clear hown hgrow hne bg O1 L
          clear hHeld
          refine hK'.out _ _ trivial (fun hHeld => ?_)
          clear hK' KK
          try simp only [List.setIfInBounds_toArray, List.set_cons_zero, List.set_cons_succ]
          refine wpAnyH_ready (rs := [8]) (by kernel_rfl) (by simp) ?_
          refine AllReadyH.cons rfl (fun KK hK' => ?_) AllReadyH.nil
          refine step_append_at _ (by rfl) _ _ _ (by rfl) p 33 i0 _ 3 24 Try.underlying30 hi0 hz0 hz1 hz2 rfl (by omega) v2 (M - r) (lCells (tris f ((sqP f n a0 M).drop r))) (by rfl) O2 ⟨go, 0, none⟩ r co (lCells (tris f ((sqP f n a0 M).take r))) (by rfl) (by rw [lCells, List.length_map, tk]) (newsL (fun j hj => by rw [HL.out.1 j (by omega), Nat.zero_add]; exact L5.2 _ (by omega))) (lCells_one _) (by unfold maxLen; omega) (by omega) lp5 ?_
          intro v3 w6 hown hgrow hne _
          have bg : Below p w5 w6 := Below.grown (Below.refl _ _) hgrow lp5 (fun x hx => ownBlock_ge O2 hx)
          have nv3 : v3 ≠ .slice none 0 0 := fun h => nv2 (hne.1 h).1
          have GG : Gat w w6 w.heap.size 33 3 v3 M (tris f ((sqP f n a0 M).drop r ++ (sqP f n a0 M).take r)) := ⟨own_mono (by rw [tris_app, lCells, List.map_append]; rw [show M - r + r = M by omega] at hown; exact hown) hpw, nv3, bw.trans (bg.mono hpw), Nat.le_refl _, Nat.le_trans bw.size bg.size⟩
          clear hown hgrow hne bg O2 L5
          clear hHeld
          refine hK'.out _ _ trivial (fun hHeld => ?_)
          clear hK' KK
          try simp only [List.setIfInBounds_toArray, List.set_cons_zero, List.set_cons_succ]
          refine wpAnyH_ready (rs := [9]) (by kernel_rfl) (by simp) ?_
          refine AllReadyH.cons rfl (fun KK hK' => ?_) AllReadyH.nil
          go_simp
          clear hHeld
          refine hK'.out _ _ (trivial) (fun hHeld => ?_)
          clear hK' KK
          try simp only [List.setIfInBounds_toArray, List.set_cons_zero, List.set_cons_succ]
          refine wpAnyH_done (by kernel_rfl) ?_ _
          clear hHeld
          clear HL tk td
          go_wp2
          exact bodyPost_ret (v := v3) (by simp [results, Try.results19, go_sem]) rfl ⟨_, r, rfl, by omega, GG⟩
end Go.Proofs.Ytealbihplfpgeaa
