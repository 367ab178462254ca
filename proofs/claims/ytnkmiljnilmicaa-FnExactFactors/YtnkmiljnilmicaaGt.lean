/-
  Regions that draw their order, within a round; own lists of texts; how Factors ends. No function of the program.
-/
import Derived.Test.YtnkmiljnilmicaaFc2
import Derived.RangeFuncBox
import Derived.Maps.AppendAt
namespace Go.Proofs.Ytnkmiljnilmicaa
open Go.RowKit Go.Shelf

/-- What is walked plainly, holds in a round too: an operation. -/
theorem oper_in {l n : Nat} {P : Program} {o : Oper} {a : Act} {w : World} {K K' : Act → World → Prop} {Q : Exit → Act → World → Prop} (hd : ∀ c, o.op ≠ .defer c) (hK : ∀ a w, K a w → K' a w) (h : o.wp P a w K Q) : o.wpIn (Fence.wide.inRound l) n P a w K' Q := by
  refine ⟨fun _ _ => trivial, ?_⟩
  rw [Fence.inRound_round, Oper.semAt_some l _ _ hd]
  unfold Oper.wp at h
  generalize (execOp a.eval o).run P w = r at *
  cases r with
  | ok x w' =>
    cases x <;> simp only [Oper.upon, Oper.uponIn] at h ⊢
    case value v => exact hK _ _ h
    case skip => exact hK _ _ h
    case defer d => exact hK _ _ h
    case enter f args =>
      refine ⟨fun k => by simp [Fence.wide] at k, CallsIn.inRound l (callsIn_wide.2 (Calls.mono h ?_))⟩
      intro e w'' he
      cases e with
      | returned v => exact hK _ _ he
      | panicked c => exact he
      | outgrown => exact he
    case row row args =>
      refine ⟨fun k => by simp [Fence.wide] at k, fun c cs hroom => ?_⟩
      obtain ⟨v, w'', r, s⟩ := h c cs
      exact ⟨v, w'', hK _ _ r, stepsIn_wide.2 s⟩
  | halt x w' =>
    cases x <;> simp only [Oper.upon, Oper.uponIn] at h ⊢
    exact h
theorem any_in {l n : Nat} {P : Program} {md : Region.Mode} {ops : Array Oper} {Q : Exit → Act → World → Prop} (hd : ∀ (i : Nat) o, ops[i]? = some o → ∀ c, o.op ≠ .defer c) (hQ : ¬ LetsOut Q) : ∀ (fuel : Nat) (listed : Array Bool) (a : Act) (w : World), wpAny P md ops Q fuel listed a w → wpAnyIn (Fence.wide.inRound l) n P md ops Q fuel listed a w
  | 0, _, _, _, h => h
  | fuel + 1, listed, a, w, h => by
    refine ⟨h.1, fun i hi => ?_⟩
    have h2 := h.2 i hi
    unfold wpOp at h2
    unfold wpOpIn
    split at h2
    · next e => rw [e]; exact any_in hd hQ fuel _ _ _ h2
    · next o e =>
      rw [e]
      simp only
      split at h2
      · next hw =>
        rw [if_pos hw]
        exact oper_in (hd i o e) (fun a w => any_in hd hQ fuel _ a w) (h2.resolve_right fun k => hQ k.2)
      · next hw =>
        rw [if_neg hw]
        exact ⟨fun _ _ => trivial, any_in hd hQ fuel _ _ _ h2⟩
def noDefer (o : Oper) : Bool := match o.op with | .defer _ => false | _ => true
theorem noDefer_all {ops : Array Oper} (h : ops.all noDefer = true) : ∀ (i : Nat) o, ops[i]? = some o → ∀ c, o.op ≠ .defer c := fun i o e c ec => by
  have h1 := (Array.all_eq_true_iff_forall_mem.1 h) o (Array.mem_of_getElem? e)
  simp [noDefer, ec] at h1
/-- A region that draws its order, in a round. -/
theorem region_held_in {S : World → Prop} {l n : Nat} {P : Program} {ops : Array Oper} {Q : Exit → Act → World → Prop} {id : Nat} {a : Act} {w : World} (hm : P.follows .mixedOrders = true) (hS : S w.drew) (hd : ops.all noDefer = true) (hQ : ¬ LetsOut Q)
    (h : S w.drew → wpAnyH P .any ops Q S ops.size (Array.replicate ops.size false) a w.drew) : (Code.region id ops true).wpIn (Fence.wide.inRound l) n P Q a w :=
  wpIn_region_any hm (any_in (noDefer_all hd) hQ _ _ _ _ (wpAny_of_held _ _ _ _ (h hS)))

theorem step_append_at {P : Program} (w : World) {ops : Array Oper} {o : Oper} {a : Act} {K : Act → World → Prop} {Q : Exit → Act → World → Prop} {E : Prop} (hgd : o.guard = none) (s x : Operand) (t : TypeId)
    (ho : o.op = .call { callee := .builtin .append, args := #[s, x], argTypes := #[t, t] })
    (base : Nat) (e : TypeId) (i : TypeInfo) (z : Value) (size bytes : Nat) (ht : P.underlying t = some (.slice e)) (hi : P.info? e = some i) (hz : i.zero = some z)
    (hsize : i.size = size) (hby : i.bytes = bytes) (hzs : z.cells.size = size) (hsz : 0 < size)
    (v : Value) (n : Nat) (xs : List Value) (hs : a.eval s = v) (hown : w.ownsRow base e size v n xs)
    (ad : Addr) (m c : Nat) (news : List Value) (hx : a.eval x = .slice (some ad) m c) (hl : news.length = m * size) (hnews : ∀ j u, news[j]? = some u → w.cell? (ad.add j) = some u) (h1 : ∀ u ∈ news, u.oneCell' = true)
    (h63 : n + m ≤ maxLen) (hbytes : (n + m) * bytes ≤ 140737488355328) (hbase : base ≤ w.heap.size)
    (h : ∀ v' w', w'.ownsRow base e size v' (n + m) (xs ++ news) → w.grownBy w' v.ownBlock → (v' = .slice none 0 0 ↔ v = .slice none 0 0 ∧ m = 0) → (v'.ownBlock = v.ownBlock ∨ v'.ownBlock = some w.heap.size) → K (a.put o.dst v') w') :
    if Region.wanted o (yielded ops a.tmps) = true then Oper.wp P o a w K Q else E := by
  have hw : Region.wanted o (yielded ops a.tmps) = true := by simp [Region.wanted, hgd]
  rw [if_pos hw]
  obtain ⟨v', w', hr, h2, h3, h4, h5⟩ := run_append_own_at (P := P) w base t o.type e i z size bytes ht hi hz hsize hby hzs hsz v n xs hown ad m c news hl hnews h1 h63 hbytes hbase
  unfold Oper.wp execOp
  simp only [ho, resolve, invoke, builtin, Sem.run_bind, Sem.run_pure, Result.andThen_ok, List.map_toArray, List.map_cons, List.map_nil, hs, hx, hr]
  exact h v' w' h2 h3 h4 h5
theorem own_belT {t : TypeId} {w w' : World} {B K n : Nat} {v : Value} {xs : List Value} (h : w.ownsRow B t K v n xs) (hb : Below w.heap.size w w') : w'.ownsRow B t K v n xs := by
  rcases h with ⟨h0, ⟨h1, h2⟩ | ⟨g, c, cur, e, hg, hh, hr⟩⟩
  · exact ⟨h0, .inl ⟨h1, h2⟩⟩
  · exact ⟨h0, .inr ⟨g, c, cur, e, hg, (hb.block g (Array.getElem?_eq_some_iff.1 hh).1).trans hh, hr⟩⟩
/-- An own list of texts. -/
def TxL (w : World) (B : Nat) (v : Value) (l : List ByteArray) : Prop := w.ownsRow B 9 1 v l.length (l.map Value.string) ∧ v ≠ .slice none 0 0
theorem TxL.below {w w' : World} {B : Nat} {v : Value} {l : List ByteArray} (h : TxL w B v l) (hb : Below w.heap.size w w') : TxL w' B v l := ⟨own_belT h.1 hb, h.2⟩
theorem TxL.open {w : World} {B : Nat} {v : Value} {l : List ByteArray} (h : TxL w B v l) : ∃ g c, v = .slice (some ⟨g, 0, none⟩) l.length c ∧ (∀ (j : Nat) x, l[j]? = some x → w.cell? ⟨g, j, none⟩ = some (.string x)) ∧ g < w.heap.size ∧ B ≤ g ∧ l.length ≤ c := by
  rcases h.1.2 with ⟨e1, -⟩ | ⟨g, c, cur, rfl, hb, hh, hc1, hc2, hsz, ht⟩
  · exact absurd e1 h.2
  · refine ⟨g, c, rfl, fun j x hx => ?_, (Array.getElem?_eq_some_iff.1 hh).1, hb, hc1⟩
    have hj : j < l.length := (List.getElem?_eq_some_iff.1 hx).1
    have a1 : (l.map Value.string)[j]? = some (.string x) := by rw [List.getElem?_map, hx]; rfl
    rw [← ht, List.getElem?_take_of_lt (by omega)] at a1
    simpa [World.cell?, hh] using a1
/-- The distinct stretches, in order. -/
def FacD (s : ByteArray) (n : Nat) (D : List ByteArray) : Prop := (∀ x, x ∈ D ↔ ∃ i, i + n ≤ s.size ∧ x = sx s n i) ∧ (D.map fun x => x.data.toList).Pairwise (· < ·)
/-- How Factors ends. -/
def FaE (w : World) (s : ByteArray) (n : Nat) (e : Ending) (w' : World) : Prop :=
  (∃ D g c, FacD s n D ∧ e = .returned (.slice (some ⟨g, 0, none⟩) D.length c) ∧ w.heap.size ≤ g ∧ g < w'.heap.size ∧ D.length ≤ c ∧ (∀ (j : Nat) x, D[j]? = some x → w'.cell? ⟨g, j, none⟩ = some (.string x)) ∧ TxL w' w.heap.size (.slice (some ⟨g, 0, none⟩) D.length c) D) ∧ Below w.heap.size w w'
theorem own_kpT {t : TypeId} {w w' : World} {B K n : Nat} {v : Value} {xs : List Value} (h : w.ownsRow B t K v n xs) (hb : ∀ k, v.ownBlock = some k → w'.heap[k]? = w.heap[k]?) : w'.ownsRow B t K v n xs := by
  rcases h with ⟨h0, ⟨h1, h2⟩ | ⟨g, c, cur, rfl, hg, hh, hr⟩⟩
  · exact ⟨h0, .inl ⟨h1, h2⟩⟩
  · exact ⟨h0, .inr ⟨g, c, cur, rfl, hg, (hb g rfl).trans hh, hr⟩⟩
theorem TxL.kp {w w' : World} {B : Nat} {v : Value} {l : List ByteArray} (h : TxL w B v l) (hb : ∀ k, v.ownBlock = some k → w'.heap[k]? = w.heap[k]?) : TxL w' B v l := ⟨own_kpT h.1 hb, h.2⟩
theorem TxL.at {w : World} {B k : Nat} {v : Value} {l : List ByteArray} (h : TxL w B v l) (hk : v.ownBlock = some k) : ∃ cur, At 9 w k cur := by
  rcases h.1.2 with ⟨e1, -⟩ | ⟨g, c, cur, rfl, hb, hh, -⟩
  · exact absurd e1 h.2
  · obtain rfl : g = k := Option.some.inj hk
    exact ⟨cur, hh⟩
/-- A text more, where it is not there. -/
noncomputable def ddF (D : List ByteArray) (x : ByteArray) : List ByteArray := @ite _ (x ∈ D) (Classical.propDecidable _) D (D ++ [x])
theorem ddF_yes {D : List ByteArray} {x : ByteArray} (h : x ∈ D) : ddF D x = D := by unfold ddF; rw [if_pos h]
theorem ddF_no {D : List ByteArray} {x : ByteArray} (h : x ∉ D) : ddF D x = D ++ [x] := by unfold ddF; rw [if_neg h]
theorem ddF_mem (D : List ByteArray) (y x : ByteArray) : x ∈ ddF D y ↔ x ∈ D ∨ x = y := by
  by_cases h : y ∈ D
  · rw [ddF_yes h]
    exact ⟨.inl, fun e => e.elim id fun e => e ▸ h⟩
  · rw [ddF_no h, List.mem_append, List.mem_singleton]
theorem ddA_mem : ∀ (l D : List ByteArray) (x : ByteArray), x ∈ l.foldl ddF D ↔ x ∈ D ∨ x ∈ l
  | [], D, x => by simp
  | y :: l, D, x => by
    rw [List.foldl_cons, ddA_mem l, ddF_mem, List.mem_cons]
    exact ⟨fun e => by rcases e with (e | e) | e; exact .inl e; exact .inr (.inl e); exact .inr (.inr e), fun e => by rcases e with e | e | e; exact .inl (.inl e); exact .inl (.inr e); exact .inr e⟩
theorem ddA_nodup : ∀ (l D : List ByteArray), D.Nodup → (l.foldl ddF D).Nodup
  | [], _, h => h
  | y :: l, D, h => by
    rw [List.foldl_cons]
    refine ddA_nodup l _ ?_
    by_cases hy : y ∈ D
    · rw [ddF_yes hy]; exact h
    · rw [ddF_no hy]
      refine List.nodup_append.2 ⟨h, by simp, fun a ha b hb => ?_⟩
      rw [List.mem_singleton] at hb
      rintro rfl
      exact hy (hb ▸ ha)
theorem ddA_len : ∀ (l D : List ByteArray), (l.foldl ddF D).length ≤ D.length + l.length
  | [], _ => Nat.le_refl _
  | y :: l, D => by
    rw [List.foldl_cons]
    refine Nat.le_trans (ddA_len l _) ?_
    have : (ddF D y).length ≤ D.length + 1 := by
      by_cases hy : y ∈ D
      · rw [ddF_yes hy]; omega
      · rw [ddF_no hy]; simp
    rw [List.length_cons]
    omega
/-- Each text once, as they come. -/
noncomputable def dd (l : List ByteArray) : List ByteArray := l.foldl ddF []
theorem dd_snoc (l : List ByteArray) (x : ByteArray) : dd (l ++ [x]) = ddF (dd l) x := by
  unfold dd
  rw [List.foldl_append]
  rfl
theorem dd_mem (l : List ByteArray) (x : ByteArray) : x ∈ dd l ↔ x ∈ l := by
  unfold dd
  rw [ddA_mem]
  simp
theorem dd_nodup (l : List ByteArray) : (dd l).Nodup := ddA_nodup l [] List.nodup_nil
theorem dd_len (l : List ByteArray) : (dd l).length ≤ l.length := by
  have := ddA_len l []
  simpa [dd] using this
/-- What is left of the counts behind some texts. -/
noncomputable def ltT (L l : List ByteArray) (x : ByteArray) : Int := @ite _ (x ∈ dd l) (Classical.propDecidable _) 0 (ctT L x)
theorem ltT_in {L l : List ByteArray} {x : ByteArray} (h : x ∈ dd l) : ltT L l x = 0 := by unfold ltT; rw [if_pos h]
theorem ltT_out {L l : List ByteArray} {x : ByteArray} (h : x ∉ dd l) : ltT L l x = ctT L x := by unfold ltT; rw [if_neg h]
theorem ltT_nil (L : List ByteArray) : ltT L [] = ctT L := by
  funext x
  exact ltT_out (by simp [dd])
theorem ltT_yes {L l : List ByteArray} {x : ByteArray} (h : x ∈ dd l) : ltT L (l ++ [x]) = ltT L l := by
  funext y
  have e : dd (l ++ [x]) = dd l := by rw [dd_snoc, ddF_yes h]
  by_cases hy : y ∈ dd l
  · rw [ltT_in hy, ltT_in (by rw [e]; exact hy)]
  · rw [ltT_out hy, ltT_out (by rw [e]; exact hy)]
theorem ltT_no {L l : List ByteArray} {x : ByteArray} (h : x ∉ dd l) : ltT L (l ++ [x]) = setI (ltT L l) x 0 := by
  funext y
  have e : dd (l ++ [x]) = dd l ++ [x] := by rw [dd_snoc, ddF_no h]
  unfold setI
  by_cases hyx : y = x
  · rw [if_pos hyx]
    exact ltT_in (by rw [e, hyx]; simp)
  · rw [if_neg hyx]
    by_cases hy : y ∈ dd l
    · rw [ltT_in hy, ltT_in (by rw [e]; simp [hy])]
    · rw [ltT_out hy, ltT_out (by rw [e]; simp [hy, hyx])]
theorem ctT_pos {L : List ByteArray} {x : ByteArray} (h : x ∈ L) : 0 < ctT L x := by
  unfold ctT
  have : 0 < L.countP (fun y => decide (y = x)) := List.countP_pos_iff.2 ⟨x, h, by simp⟩
  omega
/-- The memory while the stretches are told. -/
def OuI (w W5 : World) (bm q7 gd : Nat) (L l : List ByteArray) (W : World) : Prop :=
  Below w.heap.size w W ∧ KpS W5.heap.size (fun k => k = bm ∨ k = q7 ∨ k = gd) W5 W ∧ (∃ ks, MapI W bm ks (ltT L l) ∧ ks.length ≤ 1001) ∧ ∃ v, Boxed W q7 27 v ∧ TxL W w.heap.size v (dd l) ∧ ∀ k, v.ownBlock = some k → k = gd ∨ W5.heap.size ≤ k
theorem OuI.own {w W5 : World} {bm q7 gd m : Nat} {L : List ByteArray} {P : Nat → ByteArray} (h1 : w.heap.size ≤ W5.heap.size) (h2 : bm < W5.heap.size) (h3 : q7 < W5.heap.size) : OwnFrom W5.heap.size (fun (pre : List { x : Nat // x < m }) W => OuI w W5 bm q7 gd L (pre.map fun y => P y.1) W) := by
  rintro l X Y row ⟨a, b, ⟨ks, c, c2⟩, v, d, e, f⟩ hg hr
  have hne : ∀ j, j < W5.heap.size → Y.heap[j]? = X.heap[j]? := fun j hj => hg.block j (Nat.lt_of_lt_of_le hj b.1) (fun e => by have := (hr j e.symm).1; omega)
  refine ⟨a.trans ((Below.refl _ X).grown hg (Nat.le_trans h1 b.1) (fun r e => Nat.le_trans h1 (hr r e).1)), ⟨Nat.le_trans b.1 hg.size, fun j hj hS => (hne j hj).trans (b.2 j hj hS)⟩, ⟨ks, c.of_block (hne _ h2), c2⟩, v, (hne _ h3).trans d, e.kp (fun k hk => ?_), f⟩
  obtain ⟨cur, hc⟩ := e.at hk
  exact hg.block k hc.lt (fun e2 => by
    obtain ⟨-, o, ho, hcc⟩ := hr k e2.symm
    rw [show X.heap[k]? = _ from hc] at ho
    cases ho
    cases hcc)
end Go.Proofs.Ytnkmiljnilmicaa
