/-
  Close by the specification: its mathematics. No function of the program.
-/
import Derived.Test.YtiocneailhplkaaGreatE7a
import Derived.Test.YtiocneailhplkaaGreatMQ
import Derived.Test.YtiocneailhplkaaGreatMG
import Derived.Test.YtiocneailhplkaaGreatNB
import Derived.Test.YtiocneailhplkaaGreatMO
import Derived.Test.YtiocneailhplkaaGreatME
namespace Go.Proofs.YtiocneailhplkaaGreat
open Go.RowKit

/-- A product, as it is told. -/
def mulD (x y : OpD) : OpD := ⟨9, mulM x.f y.f, 3, behV x.f x.h y.h⟩
theorem mulD_key (x y : OpD) : kV (mulD x y).key = kV (mulQ x.key y.key) := mulK_key x y
/-- The one that does nothing. -/
def oneD : OpD := ⟨9, oneF, 3, fun _ => 0⟩
theorem oneD_ok : oneD.ok := by unfold OpD.ok oneD; decide
def snoD {α : Type} (f : Nat → α) (n : Nat) (x : α) (t : Nat) : α := if t = n then x else f t
theorem snoc_lo {α : Type} {f : Nat → α} {n t : Nat} {x : α} (h : t < n) : snoD f n x t = f t := by simp [snoD, show t ≠ n by omega]
theorem snoc_at {α : Type} (f : Nat → α) (n : Nat) (x : α) : snoD f n x n = x := by simp [snoD]
theorem OpsP.snoc {w w' : World} {lo n : Nat} {v v' x y : Value} {X Y : Nat → Value} {A : Nat → OpD} {o : OpD} (h : OpsP w lo v n X Y A) (r1 : Arr w lo w.heap.size x 9 o.f) (r2 : Arr w lo w.heap.size y 3 o.h) (ho : o.n = 9 ∧ o.k = 3) (hg : w.grownBy w' v.ownBlock) (hrow : w'.ownsRow lo 57 2 v' (n + 1) (pc X Y n ++ [x, y])) (hne : v' ≠ .slice none 0 0) : OpsP w' lo v' (n + 1) (snoD X n x) (snoD Y n y) (snoD A n o) := by
  have hr : ∀ k, v.ownBlock = some k → ∃ cur, At 57 w k cur := fun k hk => by
    obtain ⟨g, c, cur, rfl, -, ha, -⟩ := h.open
    simp only [Value.ownBlock, Option.some.injEq] at hk
    exact ⟨cur, hk ▸ ha⟩
  have up : ∀ {u : Value} {m : Nat} {f : Nat → Int}, Arr w lo w.heap.size u m f → Arr w' lo w'.heap.size u m f := fun r => (arr_grown r hg (fun k hk e => by
    obtain ⟨cur, hc⟩ := hr k e
    exact arr_ne_block r hc hk)).wide (Nat.le_refl _) hg.size
  refine ⟨?_, hne, fun t ht => ?_, fun t ht => ?_, fun t ht => ?_⟩
  · have : pc (Go.Proofs.YtiocneailhplkaaGreat.snoD X n x) (Go.Proofs.YtiocneailhplkaaGreat.snoD Y n y) (n + 1) = pc X Y n ++ [x, y] := by
      show pc _ _ n ++ [_, _] = _
      rw [pc_congr (X' := X) (Y' := Y) (fun i hi => ⟨snoc_lo hi, snoc_lo hi⟩), snoc_at, snoc_at]
    rw [this]; exact hrow
  · by_cases e : t = n
    · subst e; rw [snoc_at, snoc_at]; exact up r1
    · rw [snoc_lo (by omega), snoc_lo (by omega)]; exact up (h.xs t (by omega))
  · by_cases e : t = n
    · subst e; rw [snoc_at, snoc_at]; exact up r2
    · rw [snoc_lo (by omega), snoc_lo (by omega)]; exact up (h.ys t (by omega))
  · by_cases e : t = n
    · subst e; rw [snoc_at]; exact ho
    · rw [snoc_lo (by omega)]; exact h.nk t (by omega)
/-- What Close has come to: the list in order G, the list in the order of its finding W; the first i of W are done, and of the next one k products. -/
structure ClsI (n : Nat) (A : Nat → OpD) (m i k : Nat) (G W : Nat → OpD) : Prop where
  few : m ≤ 192
  ris : Rises m G
  ok : ∀ j, j < m → (G j).ok
  okw : ∀ j, j < m → (W j).ok
  rea : ∀ j, j < m → ReachL n (fun i => (A i).key) (W j).key
  gw : ∀ j, j < m → ∃ t, t < m ∧ kV (G j).key = kV (W t).key
  wg : ∀ j, j < m → ∃ t, t < m ∧ kV (W j).key = kV (G t).key
  one : ∃ t, t < m ∧ kV (G t).key = kV oneK
  cl : ∀ j, j < i → ∀ t, t < n → ∃ s, s < m ∧ kV (mulQ (A t).key (W j).key) = kV (G s).key
  ck : ∀ t, t < k → ∃ s, s < m ∧ kV (mulQ (A t).key (W i).key) = kV (G s).key
theorem ClsI.start (n : Nat) (A : Nat → OpD) : ClsI n A 1 0 0 (fun _ => oneD) (fun _ => oneD) :=
  ⟨by omega, fun i hi => by omega, fun _ _ => oneD_ok, fun _ _ => oneD_ok, fun _ _ => .base rfl, fun j hj => ⟨0, by omega, rfl⟩, fun j hj => ⟨0, by omega, rfl⟩, ⟨0, by omega, rfl⟩, fun j hj => by omega, fun t ht => by omega⟩
theorem ClsI.next {n m i : Nat} {A G W : Nat → OpD} (h : ClsI n A m i n G W) : ClsI n A m (i + 1) 0 G W :=
  { h with
    cl := fun j hj => by
      by_cases e : j = i
      · subst e; exact h.ck
      · exact h.cl j (by omega)
    ck := fun t ht => by omega }
theorem ClsI.met {n m i k s : Nat} {A G W : Nat → OpD} (h : ClsI n A m i k G W) (hs : s < m) (e : kV (mulQ (A k).key (W i).key) = kV (G s).key) : ClsI n A m i (k + 1) G W :=
  { h with
    ck := fun t ht => by
      by_cases e' : t = k
      · subst e'; exact ⟨s, hs, e⟩
      · exact h.ck t (by omega) }
theorem ClsI.add {n m i k c : Nat} {A G W : Nat → OpD} (h : ClsI n A m i k G W) (hi : i < m) (hk : k < n) (hm : m ≠ 192) (ho : (mulD (A k) (W i)).ok) (hc : c ≤ m) (hno : ∀ t, t < m → lexC 12 (G t).key (mulD (A k) (W i)).key ≠ 0) (hov : ∀ t, c ≤ t → t < m → 0 < lexC 12 (G t).key (mulD (A k) (W i)).key) (hun : c = 0 ∨ ¬ 0 < lexC 12 (G (c - 1)).key (mulD (A k) (W i)).key) : ClsI n A (m + 1) i (k + 1) (ins c G (mulD (A k) (W i))) (snoD W m (mulD (A k) (W i))) := by
  have old : ∀ s, s < m → ∃ s', s' < m + 1 ∧ ins c G (mulD (A k) (W i)) s' = G s := fun s hs => by
    by_cases e : s < c
    · exact ⟨s, by omega, ins_lo e⟩
    · exact ⟨s + 1, by omega, by rw [ins_hi (by omega)]; rfl⟩
  have oldk : ∀ {x : Value}, (∃ s, s < m ∧ x = kV (G s).key) → ∃ s, s < m + 1 ∧ x = kV (ins c G (mulD (A k) (W i)) s).key := fun ⟨s, hs, e⟩ => by
    obtain ⟨s', h1, h2⟩ := old s hs
    exact ⟨s', h1, by rw [h2]; exact e⟩
  have allG : ∀ {P : OpD → Prop}, (∀ t, t < m → P (G t)) → P (mulD (A k) (W i)) → ∀ t, t < m + 1 → P (ins c G (mulD (A k) (W i)) t) := fun h1 h2 t ht => by
    rcases Nat.lt_trichotomy t c with e | e | e
    · rw [ins_lo e]; exact h1 t (by omega)
    · subst e; rw [ins_at]; exact h2
    · rw [ins_hi e]; exact h1 _ (by omega)
  have allW : ∀ {P : OpD → Prop}, (∀ t, t < m → P (W t)) → P (mulD (A k) (W i)) → ∀ t, t < m + 1 → P (snoD W m (mulD (A k) (W i)) t) := fun h1 h2 t ht => by
    by_cases e : t = m
    · subst e; rw [snoc_at]; exact h2
    · rw [snoc_lo (by omega)]; exact h1 t (by omega)
  refine ⟨by have := h.few; omega, fun t ht => ?_, allG h.ok ho, allW h.okw ho, allW (P := fun o => ReachL n (fun i => (A i).key) o.key) h.rea ((h.rea i hi).step hk (mulD_key _ _)), ?_, ?_, ?_, fun j hj t ht => ?_, fun t ht => ?_⟩
  · rcases Nat.lt_trichotomy (t + 1) c with e | e | e
    · rw [ins_lo (by omega), ins_lo e]; exact h.ris t (by omega)
    · rw [ins_lo (show t < c by omega), e, ins_at]
      rcases hun with e' | e'
      · omega
      · rw [show c - 1 = t by omega] at e'
        have h1 := hno t (by omega)
        omega
    · rw [ins_hi e]
      by_cases e' : t = c
      · rw [e', ins_at, show c + 1 - 1 = c by omega]
        exact lexC_pos.1 (hov c (Nat.le_refl _) (by omega))
      · rw [ins_hi (show c < t by omega)]
        have := h.ris (t - 1) (by omega)
        rwa [show t - 1 + 1 = t + 1 - 1 by omega] at this
  · refine allG (P := fun o => ∃ t, t < m + 1 ∧ kV o.key = kV (Go.Proofs.YtiocneailhplkaaGreat.snoD W m (mulD (A k) (W i)) t).key) (fun t ht => ?_) ⟨m, by omega, by rw [snoc_at]⟩
    obtain ⟨s, hs, e⟩ := h.gw t ht
    exact ⟨s, by omega, by rw [snoc_lo hs]; exact e⟩
  · exact allW (P := fun o => ∃ t, t < m + 1 ∧ kV o.key = kV (ins c G (mulD (A k) (W i)) t).key) (fun t ht => oldk (h.wg t ht)) ⟨c, by omega, by rw [ins_at]⟩
  · obtain ⟨s, hs, e⟩ := h.one
    obtain ⟨s', h1, h2⟩ := old s hs
    exact ⟨s', h1, by rw [h2]; exact e⟩
  · by_cases hj : j < m
    · rw [snoc_lo hj]; exact oldk (h.cl j (by omega) t ht)
    · omega
  · rw [snoc_lo hi]
    by_cases e : t = k
    · subst e; exact ⟨c, by omega, by rw [ins_at]; exact (mulD_key _ _).symm⟩
    · exact oldk (h.ck t (by omega))
theorem isR_cat {f h : Nat → Int} (hk : kR (cat 9 f h)) : isR f h := by
  obtain ⟨h1, h2, h3⟩ := hk
  refine ⟨fun i hi => by have := h1 i hi; rwa [cat_lo _ _ hi] at this, fun i hi => by have := h2 i hi; unfold kh at this; rwa [cat_hi] at this, ?_⟩
  have e : det3 (cat 9 f h) = det3 f := by
    unfold det3
    simp only [cat_lo f h (show 0 < 9 by decide), cat_lo f h (show 1 < 9 by decide), cat_lo f h (show 2 < 9 by decide), cat_lo f h (show 3 < 9 by decide), cat_lo f h (show 4 < 9 by decide), cat_lo f h (show 5 < 9 by decide), cat_lo f h (show 6 < 9 by decide), cat_lo f h (show 7 < 9 by decide), cat_lo f h (show 8 < 9 by decide)]
  rwa [e] at h3
theorem ClsI.bad1 {n m i k : Nat} {A G W : Nat → OpD} (h : ClsI n A m i k G W) (hi : i < m) (hk : k < n) (hno : ¬ isR (mulM (A k).f (W i).f) (behV (A k).f (A k).h (W i).h)) : BadL n (fun i => (A i).key) :=
  .inl ⟨_, (h.rea i hi).step hk rfl, fun hR => hno (isR_cat (kR_congr (mulD_key (A k) (W i)).symm hR))⟩
theorem Rises.nodup {m : Nat} {G : Nat → OpD} (h : Rises m G) : (((List.range m).map (fun i => (G i).key)).map kV).Nodup := by
  unfold List.Nodup
  rw [List.pairwise_iff_getElem]
  intro i j hi hj hij
  simp at hj
  simp only [List.getElem_map, List.getElem_range]
  intro e
  have := h.lt hij hj
  rw [kV_inj.1 e] at this
  omega
theorem ClsI.reaG {n m i k : Nat} {A G W : Nat → OpD} (h : ClsI n A m i k G W) {j : Nat} (hj : j < m) : ReachL n (fun i => (A i).key) (G j).key := by
  obtain ⟨t, ht, e⟩ := h.gw j hj
  exact (h.rea t ht).congr e
theorem ClsI.bad2 {n m i k : Nat} {A G W : Nat → OpD} (h : ClsI n A m i k G W) (hi : i < m) (hk : k < n) (hm : m = 192) (hno : ∀ t, t < m → lexC 12 (G t).key (mulD (A k) (W i)).key ≠ 0) : BadL n (fun i => (A i).key) := by
  refine .inr ⟨(List.range m).map (fun i => (G i).key) ++ [(mulD (A k) (W i)).key], by simp [hm], ?_, fun x hx => ?_⟩
  · rw [List.map_append, List.nodup_append]
    refine ⟨h.ris.nodup, by simp, fun a ha b hb => ?_⟩
    simp only [List.map_map, List.mem_map, List.mem_range, Function.comp_apply] at ha
    obtain ⟨t, ht, rfl⟩ := ha
    simp only [List.map_cons, List.map_nil, List.mem_singleton] at hb
    subst hb
    exact fun e => hno t ht (kV_inj.1 e)
  · rcases List.mem_append.1 hx with hx | hx
    · obtain ⟨t, ht, rfl⟩ := List.mem_map.1 hx
      exact h.reaG (List.mem_range.1 ht)
    · rw [List.mem_singleton.1 hx]
      exact (h.rea i hi).step hk (mulD_key _ _)
/-- What the specification's Close tells. -/
def ClsS (n : Nat) (A : Nat → OpD) (m : Nat) (H : Nat → OpD) (b : Bool) : Prop :=
  (b = true ∧ n ≤ 12 ∧ (∀ i, i < n → (A i).ok) ∧ ∃ W, ClsI n A m m 0 H W) ∨ (b = false ∧ m = 0 ∧ ¬ (n ≤ 12 ∧ (∀ i, i < n → (A i).ok) ∧ ¬ BadL n (fun i => (A i).key)))
theorem ClsI.closed {n m : Nat} {A H W : Nat → OpD} (h : ClsI n A m m 0 H W) : ∀ i, i < m → ∀ t, t < n → kV (mulQ (A t).key (H i).key) ∈ ((List.range m).map (fun i => (H i).key)).map kV := by
  intro i hi t ht
  obtain ⟨s, hs, e⟩ := h.gw i hi
  obtain ⟨r, hr, e2⟩ := h.cl s hs t ht
  rw [mulQ_congr2 e, e2]
  exact List.mem_map_of_mem (List.mem_map.2 ⟨r, List.mem_range.2 hr, rfl⟩)
theorem ClsI.hasOne {n m i k : Nat} {A H W : Nat → OpD} (h : ClsI n A m i k H W) : kV oneK ∈ ((List.range m).map (fun i => (H i).key)).map kV := by
  obtain ⟨t, ht, e⟩ := h.one
  rw [← e]
  exact List.mem_map_of_mem (List.mem_map.2 ⟨t, List.mem_range.2 ht, rfl⟩)
theorem ClsI.notBad {n m : Nat} {A H W : Nat → OpD} (h : ClsI n A m m 0 H W) : ¬ BadL n (fun i => (A i).key) := by
  have has : ∀ x, ReachL n (fun i => (A i).key) x → kV x ∈ ((List.range m).map (fun i => (H i).key)).map kV := fun x hx => closedL_has h.hasOne (fun y hy t ht => by
    obtain ⟨i, hi, rfl⟩ := List.mem_map.1 hy
    exact h.closed i (List.mem_range.1 hi) t ht) hx
  rintro (⟨x, h1, h2⟩ | ⟨ls, h1, h2, h3⟩)
  · obtain ⟨z, hz, ez⟩ := List.mem_map.1 (has x h1)
    obtain ⟨i, hi, rfl⟩ := List.mem_map.1 hz
    exact h2 (kR_congr ez (ok_R (h.ok i (List.mem_range.1 hi))))
  · have := h2.length_le_of_subset (l₂ := ((List.range m).map (fun i => (H i).key)).map kV) (fun v hv => by
      obtain ⟨x, hx, rfl⟩ := List.mem_map.1 hv
      exact has x (h3 x hx))
    have h4 := h.few
    simp at this
    omega
/-- The program and the specification tell the same. -/
theorem cls_same {n m m' : Nat} {A H : Nat → OpD} {G : Nat → Nat → Int} {b b' : Bool} (h1 : ClsT n A m G b) (h2 : ClsS n A m' H b') : b = b' ∧ m = m' ∧ ∀ i, i < m → kV (G i) = kV (H i).key := by
  rcases h1 with ⟨rfl, hn, hok, -, L, ks, hm, hnd, hp, hs, hM⟩ | ⟨rfl, rfl, hno⟩
  · rcases h2 with ⟨rfl, -, -, W, hC⟩ | ⟨rfl, -, hno⟩
    · obtain ⟨e1, e2⟩ := same_words (fun t ht => ok_R (hok t ht)) hnd hp hs hM (H := fun i => (H i).key) hC.ris (fun i hi => hC.reaG hi) hC.hasOne hC.closed
      exact ⟨rfl, e1, e2⟩
    · exact absurd ⟨hn, hok, hM.notBad⟩ hno
  · rcases h2 with ⟨rfl, hn, hok, W, hC⟩ | ⟨rfl, rfl, -⟩
    · exact absurd ⟨hn, hok, fun h => hC.notBad (h.bad (fun t ht => ok_R (hok t ht)))⟩ hno
    · exact ⟨rfl, rfl, fun i hi => by omega⟩
end Go.Proofs.YtiocneailhplkaaGreat
/-
  Close by the specification: walked.
-/
namespace Go.Proofs.YtiocneailhplkaaGreat
open Go.RowKit

/-- Both lists of Close, in memory of its own. -/
def ClsW (w wr : World) (n : Nat) (A : Nat → OpD) (vg vw : Value) (m i k : Nat) : Prop :=
  ∃ Xg Yg G Xw Yw W, OpsP wr w.heap.size vg m Xg Yg G ∧ OpsP wr w.heap.size vw m Xw Yw W ∧ (∀ q, vg.ownBlock = some q → vw.ownBlock ≠ some q) ∧ ClsI n A m i k G W ∧ Below w.heap.size w wr
/-- The product in its box. -/
def CutC (wr : World) (R : Bool) (f h : Nat → Int) (s8 s9 : Value) (wc : World) : Prop :=
  ∃ q v1 v2, s8 = .pointer (some ⟨q, 0, none⟩) ∧ s9 = .bool R ∧ wr.heap.size ≤ q ∧ At 57 wc q #[v1, v2] ∧ Told wc wr.heap.size wc.heap.size (.agg #[v1, v2]) R f h ∧ Below wr.heap.size wr wc
theorem Told.up {w w' : World} {lo : Nat} {o : Value} {p : Bool} {f h : Nat → Int} (t : Told w lo w.heap.size o p f h) (hb : Below w.heap.size w w') : Told w' lo w'.heap.size o p f h := by
  obtain ⟨v1, v2, e, r1, r2, ap⟩ := t
  exact ⟨v1, v2, e, (r1.below hb).wide (Nat.le_refl _) hb.size, (r2.below hb).wide (Nat.le_refl _) hb.size, ap⟩
theorem Told.put {w : World} {lo q : Nat} {o1 o2 u1 u2 o : Value} {p : Bool} {f h : Nat → Int} (t : Told w lo w.heap.size o p f h) (a : At 57 w q #[o1, o2]) : Told ((w.setCell ⟨q, 0, none⟩ u1).setCell ⟨q, 1, none⟩ u2) lo ((w.setCell ⟨q, 0, none⟩ u1).setCell ⟨q, 1, none⟩ u2).heap.size o p f h := by
  obtain ⟨v1, v2, e, r1, r2, ap⟩ := t
  have hs : ((w.setCell ⟨q, 0, none⟩ u1).setCell ⟨q, 1, none⟩ u2).heap.size = w.heap.size := by simp [World.setCell]
  rw [hs]
  exact ⟨v1, v2, e, (r1.set a).set (a.set 0 u1), (r2.set a).set (a.set 0 u1), ap⟩
theorem put2_at {t : TypeId} {w : World} {q : Nat} {o1 o2 : Value} (a : At t w q #[o1, o2]) (u1 u2 : Value) : At t ((w.setCell ⟨q, 0, none⟩ u1).setCell ⟨q, 1, none⟩ u2) q #[u1, u2] := by simpa using (a.set 0 u1).set 1 u2
theorem opsP_one {w W : World} {lo : Nat} {x y : Value} {o : OpD} (a : At 57 W w.heap.size #[x, y]) (hl : lo ≤ w.heap.size) (r1 : Arr W lo W.heap.size x 9 o.f) (r2 : Arr W lo W.heap.size y 3 o.h) (ho : o.n = 9 ∧ o.k = 3) : OpsP W lo (.slice (some ⟨w.heap.size, 0, none⟩) 1 1) 1 (fun _ => x) (fun _ => y) (fun _ => o) :=
  ⟨⟨rfl, .inr ⟨w.heap.size, 1, #[x, y], rfl, hl, a, Nat.le_refl _, by unfold maxLen; omega, rfl, rfl⟩⟩, ne_nil _ _ _, fun _ _ => r1, fun _ _ => r2, fun _ _ => ho⟩
theorem OpsP.lt {w : World} {lo g n c : Nat} {X Y : Nat → Value} {A : Nat → OpD} (h : OpsP w lo (.slice (some ⟨g, 0, none⟩) n c) n X Y A) : lo ≤ g ∧ g < w.heap.size := by
  obtain ⟨g', c', cur, e, hb, a, -⟩ := h.open
  cases e
  exact ⟨hb, a.lt⟩
theorem OpsP.blkAt {w : World} {lo n : Nat} {v : Value} {X Y : Nat → Value} {A : Nat → OpD} (h : OpsP w lo v n X Y A) : ∀ k, v.ownBlock = some k → ∃ cur, At 57 w k cur := fun k hk => by
  obtain ⟨g, c, cur, rfl, -, ha, -⟩ := h.open
  simp only [Value.ownBlock, Option.some.injEq] at hk
  exact ⟨cur, hk ▸ ha⟩
/-- Both grew by one. -/
theorem ClsW.add {w wr w8 w9 : World} {n m i k c : Nat} {A : Nat → OpD} {vg vw v8 v9 x y : Value} {Xg Yg Xw Yw : Nat → Value} {G W : Nat → OpD}
    (hG : OpsP wr w.heap.size vg m Xg Yg G) (hW : OpsP wr w.heap.size vw m Xw Yw W) (hne : ∀ q, vg.ownBlock = some q → vw.ownBlock ≠ some q) (hI : ClsI n A m i k G W) (B : Below w.heap.size w wr)
    (hi : i < m) (hk : k < n) (hm : m ≠ 192) (ho : (mulD (A k) (W i)).ok) (hno : ∀ t, t < m → lexC 12 (G t).key (mulD (A k) (W i)).key ≠ 0)
    (r1 : Arr wr w.heap.size wr.heap.size x 9 (mulD (A k) (W i)).f) (r2 : Arr wr w.heap.size wr.heap.size y 3 (mulD (A k) (W i)).h)
    (P8 : PutP wr w8 w.heap.size vg v8 m Xg Yg G x y (mulD (A k) (W i)) c) {wb : World} (bb : Below w8.heap.size w8 wb)
    (hg : wb.grownBy w9 vw.ownBlock) (hrow : w9.ownsRow w.heap.size 57 2 v9 (m + 1) (pc Xw Yw m ++ [x, y])) (hn9 : v9 ≠ .slice none 0 0) (hb9 : ∀ q, v9.ownBlock = some q → vw.ownBlock = some q ∨ wb.heap.size ≤ q) : ClsW w w9 n A v8 v9 (m + 1) i (k + 1) := by
  have hwt : ∀ q, vw.ownBlock = some q → q < wr.heap.size := fun q hq => by
    obtain ⟨cur, a⟩ := hW.blkAt q hq
    exact a.lt
  have hW8 := hW.kept P8.grown (fun q h1 h2 => hne q h1 h2) hG.blkAt
  have up8 : ∀ {u : Value} {l : Nat} {f : Nat → Int}, Arr wr w.heap.size wr.heap.size u l f → Arr w8 w.heap.size w8.heap.size u l f := fun r => (arr_grown r P8.grown (fun q hq e => by
    obtain ⟨cur, hc⟩ := hG.blkAt q e
    exact arr_ne_block r hc hq)).wide (Nat.le_refl _) P8.grown.size
  have hWb := hW8.below bb
  have h8b := P8.ops.below bb
  have ne8 : ∀ q, vw.ownBlock = some q → v8.ownBlock ≠ some q := fun q h1 h2 => by
    rcases P8.blk q h2 with e | e
    · exact hne q e h1
    · have := hwt q h1; omega
  have h8t : ∀ q, v8.ownBlock = some q → q < w8.heap.size := fun q hq => by
    obtain ⟨cur, a⟩ := P8.ops.blkAt q hq
    exact a.lt
  refine ⟨_, _, _, _, _, _, h8b.kept hg ne8 hWb.blkAt, hWb.snoc (((up8 r1).below bb).wide (Nat.le_refl _) bb.size) (((up8 r2).below bb).wide (Nat.le_refl _) bb.size) ⟨rfl, rfl⟩ hg hrow hn9, fun q h1 h2 => ?_, hI.add hi hk hm ho P8.le hno P8.over P8.under, ?_⟩
  · rcases hb9 q h2 with e | e
    · exact ne8 q e h1
    · have := h8t q h1; have := bb.size; omega
  · have B8 : Below w.heap.size w w8 := B.grown P8.grown B.size (fun q hq => by
      obtain ⟨g, c, cur, rfl, hl, -⟩ := hG.open
      simp only [Value.ownBlock, Option.some.injEq] at hq
      omega)
    exact (B8.trans (bb.mono B8.size)).grown hg (Nat.le_trans B8.size bb.size) (fun q hq => by
      obtain ⟨g, c, cur, rfl, hl, -⟩ := hW.open
      simp only [Value.ownBlock, Option.some.injEq] at hq
      omega)
/-- How the specification's Close ends. -/
theorem OpsG.lowerG {w : World} {lo lo' n : Nat} {v : Value} {X Y : Nat → Value} {A : Nat → OpD} (h : OpsG w lo v n X Y A) (hl : lo' ≤ lo) : OpsG w lo' v n X Y A := ⟨by
  obtain ⟨e0, h1 | ⟨g', c', cur', e', hb', r⟩⟩ := h.row
  · exact ⟨e0, .inl h1⟩
  · exact ⟨e0, .inr ⟨g', c', cur', e', Nat.le_trans hl hb', r⟩⟩, h.nn, fun i hi => (h.xs i hi).wide hl (Nat.le_refl _), fun i hi => (h.ys i hi).wide hl (Nat.le_refl _), h.dj⟩
/-- What Close tells. -/
def ClsE (w : World) (n : Nat) (A : Nat → OpD) (e : Ending) (w' : World) : Prop :=
  (∃ g' m c' b X Y H, e = .returned (.tuple #[.slice (some ⟨g', 0, none⟩) m c', .bool b]) ∧ OpsA w' w.heap.size w'.heap.size g' m X Y H ∧ ClsS n A m H b ∧ (b = true → OpsG w' w.heap.size (.slice (some ⟨g', 0, none⟩) m c') m X Y H)) ∧ Below w.heap.size w w'
set_option maxRecDepth 100000 in
set_option maxHeartbeats 6000000 in
theorem specClose_any {w : World} {g n c : Nat} {A : Nat → OpD} (hL : OpsL w g n A) (hn : n ≤ 1048576) :
    Calls Tryz.prog 71 #[.slice (some ⟨g, 0, none⟩) n c] w fun e w' => ClsE w n A e w' := by
  have hbs : ∀ w, (Instr.buildSlice 27 0 #[]).run Tryz.prog w = .ok (.slice (some ⟨w.heap.size, 0, none⟩) 0 0) (w.alloc (.cells #[] 57)) := fun _ => by kernel_rfl
  obtain ⟨i0, hi0, hz0, hz1, hz2⟩ := info_parts Tryz.info57
  have hn' : (n : Int) ≤ 1048576 := by omega
  have HL : Hid (OpsL w g n A) := hL
  have NO : Hid (∀ wq, Below w.heap.size w wq → ¬ (n ≤ 12 ∧ (∀ i, i < n → (A i).ok) ∧ ¬ BadL n (fun i => (A i).key)) → ClsE w n A (.returned (.tuple #[.slice (some ⟨wq.heap.size, 0, none⟩) 0 0, .bool false])) (wq.alloc (.cells #[] 57))) := fun wq hq hno =>
    ⟨⟨_, 0, 0, false, _, _, A, rfl, opsA_empty A hq.size, .inr ⟨rfl, rfl, hno⟩, fun e => by cases e⟩, hq.trans ((below_alloc _ _).mono hq.size)⟩
  clear hL
  by_cases h12 : n ≤ 12
  rotate_left
  · have h1 : (12 : Int) < (n : Int) := by omega
    have N0 := hid_of (NO.out _ (Below.refl _ _) (fun h => h12 h.1))
    clear NO HL
    go_enter Tryz.func71, Tryz.ntmps71
    go_wp2
    refine bodyPost_ret (v := .tuple #[.slice (some ⟨_, 0, none⟩) 0 0, .bool false]) (by simp [results, Tryz.results71, go_sem]) rfl N0.out
  have h1 : ¬ (12 : Int) < (n : Int) := by omega
  go_enter Tryz.func71, Tryz.ntmps71
  go_wp2_with fail
  refine (l4Ops_any HL.out hn).mono ?_
  rintro e w0 ⟨⟨r, rfl, hr⟩, bz⟩
  cases r
  · have N0 := hid_of (NO.out _ bz (fun h => absurd (hr.2 h.2.1) (by decide)))
    clear NO HL bz hr
    go_wp2
    refine bodyPost_ret (v := .tuple #[.slice (some ⟨_, 0, none⟩) 0 0, .bool false]) (by simp [results, Tryz.results71, go_sem]) rfl N0.out
  have HOK : Hid (∀ i, i < n → (A i).ok) := hr.1 rfl
  clear hr
  have hs1 := bz.size
  go_wp2_with fail
  refine (l3One_any _).mono ?_
  rintro e w1 ⟨p1, p2, rfl, T1, b1⟩
  obtain ⟨r1, r2⟩ : Arr w1 w.heap.size w1.heap.size (.slice (some ⟨p1, 0, none⟩) 9 9) 9 oneF ∧ Arr w1 w.heap.size w1.heap.size (.slice (some ⟨p2, 0, none⟩) 3 3) 3 (fun _ => 0) := by
    obtain ⟨_, _, ee, r1, r2, -⟩ := T1
    cases ee
    exact ⟨r1.wide hs1 (Nat.le_refl _), r2.wide hs1 (Nat.le_refl _)⟩
  replace bz := bz.trans (b1.mono bz.size)
  obtain ⟨W2, hW2, a2, B2, -⟩ := boxed w1 57 #[.slice (some ⟨p1, 0, none⟩) 9 9, .slice (some ⟨p2, 0, none⟩) 3 3]
  obtain ⟨pg, hpg⟩ : ∃ q, w1.heap.size = q := ⟨_, rfl⟩
  have g2 : Hid (OpsP W2 w.heap.size (.slice (some ⟨pg, 0, none⟩) 1 1) 1 (fun _ => .slice (some ⟨p1, 0, none⟩) 9 9) (fun _ => .slice (some ⟨p2, 0, none⟩) 3 3) (fun _ => oneD)) := hpg ▸ opsP_one a2 bz.size ((r1.below B2).wide (Nat.le_refl _) B2.size) ((r2.below B2).wide (Nat.le_refl _) B2.size) ⟨rfl, rfl⟩
  replace bz := bz.trans (B2.mono bz.size)
  have hs2 := bz.size
  have hpgl : pg < W2.heap.size := by rw [← hpg]; exact a2.lt
  clear T1 b1 r1 r2 a2 B2 hs1
  go_wp2_with fail
  refine (l3One_any _).mono ?_
  rintro e w3 ⟨p3, p4, rfl, T3, b3⟩
  obtain ⟨r1, r2⟩ : Arr w3 w.heap.size w3.heap.size (.slice (some ⟨p3, 0, none⟩) 9 9) 9 oneF ∧ Arr w3 w.heap.size w3.heap.size (.slice (some ⟨p4, 0, none⟩) 3 3) 3 (fun _ => 0) := by
    obtain ⟨_, _, ee, r1, r2, -⟩ := T3
    cases ee
    exact ⟨r1.wide hs2 (Nat.le_refl _), r2.wide hs2 (Nat.le_refl _)⟩
  replace bz := bz.trans (b3.mono bz.size)
  obtain ⟨W4, hW4, a4, B4, -⟩ := boxed w3 57 #[.slice (some ⟨p3, 0, none⟩) 9 9, .slice (some ⟨p4, 0, none⟩) 3 3]
  obtain ⟨pw, hpw⟩ : ∃ q, w3.heap.size = q := ⟨_, rfl⟩
  have C : Hid (ClsW w W4 n A (.slice (some ⟨pg, 0, none⟩) 1 1) (.slice (some ⟨pw, 0, none⟩) 1 1) 1 0 0) := by
    refine ⟨_, _, _, _, _, _, (g2.out.below b3).below B4, hpw ▸ opsP_one a4 bz.size ((r1.below B4).wide (Nat.le_refl _) B4.size) ((r2.below B4).wide (Nat.le_refl _) B4.size) ⟨rfl, rfl⟩, fun q h1 h2 => ?_, ClsI.start n A, bz.trans (B4.mono bz.size)⟩
    simp only [Value.ownBlock, Option.some.injEq] at h1 h2
    have := b3.size
    omega
  clear T3 b3 r1 r2 a4 B4 hs2 g2 bz
  go_wp2
  clear hW2 hpg hW4 hpw hpgl
  go_loopw [4, 5, 6] (fun vg vw s wr => ∃ i m gg cg gw cw : Nat, i ≤ m ∧ m ≤ 192 ∧ s = .int .i64 (i : Int) ∧ vg = .slice (some ⟨gg, 0, none⟩) m cg ∧ vw = .slice (some ⟨gw, 0, none⟩) m cw ∧ Hid (ClsW w wr n A vg vw m i 0)) (fun _ _ s _ => 200 - (intOf s).toNat)
  case atStart => exact ⟨0, 1, pg, 1, pw, 1, by omega, by omega, rfl, rfl, rfl, C⟩
  case round =>
    clear C
    obtain ⟨i, m, gg, cg, gw, cw, him, hm, rfl, rfl, rfl, C⟩ := hrel
    by_cases hlt : i < m
    · have hlt' : (i : Int) < (m : Int) := by omega
      go_wp2
      go_loopw [4, 5, 7] (fun vg vw s wr => ∃ k m gg cg gw cw : Nat, k ≤ n ∧ i < m ∧ m ≤ 192 ∧ s = .int .i64 (k : Int) ∧ vg = .slice (some ⟨gg, 0, none⟩) m cg ∧ vw = .slice (some ⟨gw, 0, none⟩) m cw ∧ Hid (ClsW w wr n A vg vw m i k)) (fun _ _ s _ => n - (intOf s).toNat)
      case atStart => exact ⟨0, m, gg, cg, gw, cw, Nat.zero_le _, hlt, hm, rfl, rfl, rfl, C⟩
      case round =>
        clear C hlt hlt' hm him
        obtain ⟨k, m, gg, cg, gw, cw, hkn, hlt, hm, rfl, rfl, rfl, C⟩ := hrel
        by_cases hk : k < n
        rotate_left
        · obtain rfl : k = n := by omega
          have hk' : ¬ (k : Int) < (k : Int) := by omega
          have C2 : Hid (ClsW w wr k A (.slice (some ⟨gg, 0, none⟩) m cg) (.slice (some ⟨gw, 0, none⟩) m cw) m (i + 1) 0) := by
            obtain ⟨Xg, Yg, G, Xw, Yw, W, hG, hW, hne, hI, B⟩ := C.out
            exact ⟨Xg, Yg, G, Xw, Yw, W, hG, hW, hne, hI.next, B⟩
          clear C
          go_wp2
          exact ⟨⟨i + 1, m, gg, cg, gw, cw, by omega, hm, by go_num, rfl, rfl, C2⟩, by simp [intOf]; omega⟩
        have hk' : (k : Int) < (n : Int) := by omega
        have hlt' : (i : Int) < (m : Int) := by omega
        have hm' : (m : Int) ≤ 192 := by omega
        obtain ⟨Xg, Yg, G, Xw, Yw, W, hG, hW, hne, hI, B⟩ := C.out
        obtain ⟨k1, k2, k3⟩ := HOK.out k hk
        obtain ⟨k4, k5, k6⟩ := hI.okw i hlt
        have hLk := HL.out.below B
        obtain ⟨a1, c1, a2, c2, e1, e2, s1, s2⟩ := hLk.2 k hk
        rw [k1] at e1 s1
        rw [k2] at e2 s2
        obtain ⟨_, _, ew, -, hLW⟩ := hW.opsL
        cases ew
        obtain ⟨b1, d1, b2, d2, e3, e4, s3, s4⟩ := hLW.2 i hlt
        rw [k4] at e3 s3
        rw [k5] at e4 s4
        have CLg : Hid (∀ wq, Kb wr wq → wq.cell? ⟨g, k * 2, none⟩ = some (.slice a1 9 c1) ∧ wq.cell? ⟨g, k * 2 + 1, none⟩ = some (.slice a2 3 c2)) := fun wq hq => ⟨(hq.cell (p := ⟨g, k * 2, none⟩) hLk.1).trans e1, (hq.cell (p := ⟨g, k * 2 + 1, none⟩) hLk.1).trans e2⟩
        have CLw : Hid (∀ wq, Kb wr wq → wq.cell? ⟨gw, i * 2, none⟩ = some (.slice b1 9 d1) ∧ wq.cell? ⟨gw, i * 2 + 1, none⟩ = some (.slice b2 3 d2)) := fun wq hq => ⟨(hq.cell (p := ⟨gw, i * 2, none⟩) hLW.1).trans e3, (hq.cell (p := ⟨gw, i * 2 + 1, none⟩) hLW.1).trans e4⟩
        obtain ⟨R, hR⟩ : ∃ R, decide (mulOk 9 (A k).f 3 (A k).h 9 (W i).f 3 (W i).h) = R := ⟨_, rfl⟩
        have HR : Hid (R = true ↔ isR (mulM (A k).f (W i).f) (behV (A k).f (A k).h (W i).h)) := by
          rw [← hR, decide_eq_true_iff]
          exact ⟨fun h => h.2.2, fun h => ⟨⟨rfl, rfl, k3⟩, ⟨rfl, rfl, k6⟩, h⟩⟩
        have CP : Hid (∀ wq, Kb wr wq → Calls Tryz.prog 87 #[.agg #[.slice a1 9 c1, .slice a2 3 c2], .agg #[.slice b1 9 d1, .slice b2 3 d2]] wq fun e w' => ∃ x1 n1 l1 x2 n2 l2, e = .returned (.tuple #[.agg #[.slice x1 n1 l1, .slice x2 n2 l2], .bool R]) ∧ Told w' wr.heap.size w'.heap.size (.agg #[.slice x1 n1 l1, .slice x2 n2 l2]) R (mulM (A k).f (W i).f) (behV (A k).f (A k).h (W i).h) ∧ Below wq.heap.size wq w') := fun wq hq => by
          refine (specMul_any c1 c2 d1 d2 (s1.below hq) (s2.below hq) (s3.below hq) (s4.below hq)).mono ?_
          rintro e w' ⟨o, rfl, ⟨v1, v2, rfl, t1, t2, ap⟩, b⟩
          rw [hR] at t1 t2
          obtain ⟨x1, l1, rfl, -⟩ := t1.src
          obtain ⟨x2, l2, rfl, -⟩ := t2.src
          exact ⟨x1, _, l1, x2, _, l2, by rw [hR], ⟨_, _, rfl, t1.wide hq.size (Nat.le_refl _), t2.wide hq.size (Nat.le_refl _), ap⟩, b⟩
        have HG := hid_of hG
        have HW := hid_of hW
        have HNE := hid_of hne
        have HI := hid_of hI
        have HB := hid_of B
        have HWi : Hid ((W i).ok) := ⟨k4, k5, k6⟩
        clear C hG hW hne hI B k1 k2 k3 k4 k5 k6 hLk hLW e1 e2 e3 e4 s1 s2 s3 s4 hR
        go_wp2_with fail
        go_cut [8, 9] from 37 to 48 (fun s8 s9 wc => CutC wr R (mulM (A k).f (W i).f) (behV (A k).f (A k).h (W i).h) s8 s9 wc)
        case first =>
          obtain ⟨u0, hu0, bb⟩ : ∃ uu, wr.drew = uu ∧ Below wr.heap.size wr uu := ⟨_, rfl, (Below.refl _ _).drew⟩
          have bk0 : Kb wr u0 := bb
          clear bb
          refine wp_region_held_drew (S := Kb u0) (by kernel_rfl) (by rw [hu0]; exact Below.refl _ _) (fun hHeld => ?_)
          rw [hu0] at hHeld ⊢
          clear hu0
          have bu : Kb u0 u0 := Below.refl _ _
          change wpAnyH _ _ _ _ _ 15 #[false, false, false, false, false, false, false, false, false, false, false, false, false, false, false] _ _
          refine wpAnyH_take (i := 0) (v := .slice ((some ⟨g, 0, none⟩)) n c) rfl (by kernel_rfl) (by kernel_rfl) (by kernel_rfl) (fun _ _ _ h => h) (Or.inl ⟨by kernel_rfl, ?_⟩) hHeld ?_
          · intro w' hSw; go_simp
          try simp only [Act.put, List.setIfInBounds_toArray, List.set_cons_zero, List.set_cons_succ, List.getElem_toArray, List.getElem_cons_zero]
          refine wpAnyH_take (i := 1) (v := .int .i64 ((k : Int))) rfl (by kernel_rfl) (by kernel_rfl) (by kernel_rfl) (fun _ _ _ h => h) (Or.inl ⟨by kernel_rfl, ?_⟩) hHeld ?_
          · intro w' hSw; go_simp
          try simp only [Act.put, List.setIfInBounds_toArray, List.set_cons_zero, List.set_cons_succ, List.getElem_toArray, List.getElem_cons_succ, List.getElem_cons_zero]
          refine wpAnyH_take (i := 2) (v := .pointer (some ⟨g, k * 2, none⟩)) rfl (by kernel_rfl) (by kernel_rfl) (by kernel_rfl) (fun _ _ _ h => h) (Or.inl ⟨by kernel_rfl, ?_⟩) hHeld ?_
          · intro w' hSw; go_simp
          try simp only [Act.put, List.setIfInBounds_toArray, List.set_cons_zero, List.set_cons_succ, List.getElem_toArray, List.getElem_cons_succ, List.getElem_cons_zero]
          refine wpAnyH_take (i := 3) (v := .agg #[.slice a1 9 c1, .slice a2 3 c2]) rfl (by kernel_rfl) (by kernel_rfl) (by kernel_rfl) (fun _ _ _ h => h) (Or.inl ⟨by kernel_rfl, ?_⟩) hHeld ?_
          · intro w' hSw; obtain ⟨z0, z1⟩ := CLg.out _ (bk0.trans (Below.mono hSw bk0.size)); go_simp
          try simp only [Act.put, List.setIfInBounds_toArray, List.set_cons_zero, List.set_cons_succ, List.getElem_toArray, List.getElem_cons_succ, List.getElem_cons_zero]
          refine wpAnyH_take (i := 4) (v := .slice ((some ⟨gw, 0, none⟩)) m cw) rfl (by kernel_rfl) (by kernel_rfl) (by kernel_rfl) (fun _ _ _ h => h) (Or.inl ⟨by kernel_rfl, ?_⟩) hHeld ?_
          · intro w' hSw; go_simp
          try simp only [Act.put, List.setIfInBounds_toArray, List.set_cons_zero, List.set_cons_succ, List.getElem_toArray, List.getElem_cons_succ, List.getElem_cons_zero]
          refine wpAnyH_take (i := 5) (v := .int .i64 ((i : Int))) rfl (by kernel_rfl) (by kernel_rfl) (by kernel_rfl) (fun _ _ _ h => h) (Or.inl ⟨by kernel_rfl, ?_⟩) hHeld ?_
          · intro w' hSw; go_simp
          try simp only [Act.put, List.setIfInBounds_toArray, List.set_cons_zero, List.set_cons_succ, List.getElem_toArray, List.getElem_cons_succ, List.getElem_cons_zero]
          refine wpAnyH_take (i := 6) (v := .pointer (some ⟨gw, i * 2, none⟩)) rfl (by kernel_rfl) (by kernel_rfl) (by kernel_rfl) (fun _ _ _ h => h) (Or.inl ⟨by kernel_rfl, ?_⟩) hHeld ?_
          · intro w' hSw; go_simp
          try simp only [Act.put, List.setIfInBounds_toArray, List.set_cons_zero, List.set_cons_succ, List.getElem_toArray, List.getElem_cons_succ, List.getElem_cons_zero]
          refine wpAnyH_take (i := 7) (v := .agg #[.slice b1 9 d1, .slice b2 3 d2]) rfl (by kernel_rfl) (by kernel_rfl) (by kernel_rfl) (fun _ _ _ h => h) (Or.inl ⟨by kernel_rfl, ?_⟩) hHeld ?_
          · intro w' hSw; obtain ⟨z0, z1⟩ := CLw.out _ (bk0.trans (Below.mono hSw bk0.size)); go_simp
          try simp only [Act.put, List.setIfInBounds_toArray, List.set_cons_zero, List.set_cons_succ, List.getElem_toArray, List.getElem_cons_succ, List.getElem_cons_zero]
          refine wpAnyH_ready (rs := [8, 12]) (by kernel_rfl) (by simp) ?_
          refine AllReadyH.cons rfl (fun KK hK' => ?_) (AllReadyH.cons rfl (fun KK hK' => ?_) AllReadyH.nil)
          · go_simp
            refine (CP.out _ (bk0.trans (Below.mono bu bk0.size))).mono ?_
            rintro e u1 ⟨x1, n1, l1, x2, n2, l2, rfl, T, bb⟩
            replace bu : Kb u0 u1 := bu.trans (bb.mono bu.size)
            clear bb
            try go_wp2_with fail
            clear hHeld
            refine hK'.out _ _ (bu) (fun hHeld => ?_)
            clear hK' KK
            try simp only [List.setIfInBounds_toArray, List.set_cons_zero, List.set_cons_succ]
            refine wpAnyH_take (i := 9) (v := .tuple #[.agg #[.slice x1 n1 l1, .slice x2 n2 l2], .bool R]) rfl (by kernel_rfl) (by kernel_rfl) (by kernel_rfl) (fun _ _ _ h => h) (Or.inl ⟨by kernel_rfl, ?_⟩) hHeld ?_
            · intro w' hSw; go_simp
            try simp only [Act.put, List.setIfInBounds_toArray, List.set_cons_zero, List.set_cons_succ, List.getElem_toArray, List.getElem_cons_succ, List.getElem_cons_zero]
            refine wpAnyH_take (i := 10) (v := .agg #[.slice x1 n1 l1, .slice x2 n2 l2]) rfl (by kernel_rfl) (by kernel_rfl) (by kernel_rfl) (fun _ _ _ h => h) (Or.inl ⟨by kernel_rfl, ?_⟩) hHeld ?_
            · intro w' hSw; go_simp
            try simp only [Act.put, List.setIfInBounds_toArray, List.set_cons_zero, List.set_cons_succ, List.getElem_toArray, List.getElem_cons_succ, List.getElem_cons_zero]
            refine wpAnyH_take (i := 11) (v := .bool R) rfl (by kernel_rfl) (by kernel_rfl) (by kernel_rfl) (fun _ _ _ h => h) (Or.inl ⟨by kernel_rfl, ?_⟩) hHeld ?_
            · intro w' hSw; go_simp
            try simp only [Act.put, List.setIfInBounds_toArray, List.set_cons_zero, List.set_cons_succ, List.getElem_toArray, List.getElem_cons_succ, List.getElem_cons_zero]
            refine wpAnyH_ready (rs := [12]) (by kernel_rfl) (by simp) ?_
            refine AllReadyH.cons rfl (fun KK hK' => ?_) AllReadyH.nil
            go_simp
            obtain ⟨u2, h6, G6, bb, -⟩ := boxed u1 57 #[.slice none 0 0, .slice none 0 0]
            rw [h6]
            clear h6
            obtain ⟨g6, hg6⟩ : ∃ q, u1.heap.size = q := ⟨_, rfl⟩
            rw [hg6] at G6 ⊢
            have hgu : u0.heap.size ≤ g6 := by have := bu.size; omega
            clear hg6
            replace T := T.up bb
            replace bu : Kb u0 u2 := bu.trans (bb.mono bu.size)
            clear bb
            clear hHeld
            refine hK'.out _ _ (bu) (fun hHeld => ?_)
            clear hK' KK
            try simp only [List.setIfInBounds_toArray, List.set_cons_zero, List.set_cons_succ]
            refine wpAnyH_ready (rs := [13]) (by kernel_rfl) (by simp) ?_
            refine AllReadyH.cons rfl (fun KK hK' => ?_) AllReadyH.nil
            obtain ⟨y0, y1, y2, y3⟩ := G6.open2
            go_simp
            have G7 := put2_at G6 (.slice x1 n1 l1) (.slice x2 n2 l2)
            have T7 := T.put (u1 := .slice x1 n1 l1) (u2 := .slice x2 n2 l2) G6
            replace bu : Kb u0 ((u2.setCell ⟨g6, 0, none⟩ (.slice x1 n1 l1)).setCell ⟨g6, 1, none⟩ (.slice x2 n2 l2)) := (bu.setCell hgu _).setCell hgu _
            obtain ⟨u3, hv⟩ : ∃ V, (u2.setCell ⟨g6, 0, none⟩ (.slice x1 n1 l1)).setCell ⟨g6, 1, none⟩ (.slice x2 n2 l2) = V := ⟨_, rfl⟩
            rw [hv] at G7 T7 bu ⊢
            clear hv T G6 y0 y1 y2 y3
            clear hHeld
            refine hK'.out _ _ (bu) (fun hHeld => ?_)
            clear hK' KK
            try simp only [List.setIfInBounds_toArray, List.set_cons_zero, List.set_cons_succ]
            refine wpAnyH_take (i := 14) (v := .bool R) rfl (by kernel_rfl) (by kernel_rfl) (by kernel_rfl) (fun _ _ _ h => h) (Or.inl ⟨by kernel_rfl, ?_⟩) hHeld ?_
            · intro w' hSw; go_simp
            try simp only [Act.put, List.setIfInBounds_toArray, List.set_cons_zero, List.set_cons_succ, List.getElem_toArray, List.getElem_cons_succ, List.getElem_cons_zero]
            refine wpAnyH_done (by kernel_rfl) ?_ _
            clear hHeld
            have bz := bk0.trans (Below.mono bu bk0.size)
            have hg7 : wr.heap.size ≤ g6 := by have := bk0.size; omega
            go_wp2_with fail
            go_meet
            case rel => exact ⟨g6, _, _, rfl, rfl, hg7, G7, T7, bz⟩
          · go_simp
            obtain ⟨u1, h6, G6, bb, -⟩ := boxed u0 57 #[.slice none 0 0, .slice none 0 0]
            rw [h6]
            clear h6
            obtain ⟨g6, hg6⟩ : ∃ q, u0.heap.size = q := ⟨_, rfl⟩
            rw [hg6] at G6 ⊢
            have hgu : u0.heap.size ≤ g6 := by have := bu.size; omega
            clear hg6
            replace bu : Kb u0 u1 := bu.trans (bb.mono bu.size)
            clear bb
            clear hHeld
            refine hK'.out _ _ (bu) (fun hHeld => ?_)
            clear hK' KK
            try simp only [List.setIfInBounds_toArray, List.set_cons_zero, List.set_cons_succ]
            refine wpAnyH_ready (rs := [8]) (by kernel_rfl) (by simp) ?_
            refine AllReadyH.cons rfl (fun KK hK' => ?_) AllReadyH.nil
            go_simp
            refine (CP.out _ (bk0.trans (Below.mono bu bk0.size))).mono ?_
            rintro e u2 ⟨x1, n1, l1, x2, n2, l2, rfl, T, bb⟩
            replace G6 := G6.below bb
            replace bu : Kb u0 u2 := bu.trans (bb.mono bu.size)
            clear bb
            try go_wp2_with fail
            clear hHeld
            refine hK'.out _ _ (bu) (fun hHeld => ?_)
            clear hK' KK
            try simp only [List.setIfInBounds_toArray, List.set_cons_zero, List.set_cons_succ]
            refine wpAnyH_take (i := 9) (v := .tuple #[.agg #[.slice x1 n1 l1, .slice x2 n2 l2], .bool R]) rfl (by kernel_rfl) (by kernel_rfl) (by kernel_rfl) (fun _ _ _ h => h) (Or.inl ⟨by kernel_rfl, ?_⟩) hHeld ?_
            · intro w' hSw; go_simp
            try simp only [Act.put, List.setIfInBounds_toArray, List.set_cons_zero, List.set_cons_succ, List.getElem_toArray, List.getElem_cons_succ, List.getElem_cons_zero]
            refine wpAnyH_take (i := 10) (v := .agg #[.slice x1 n1 l1, .slice x2 n2 l2]) rfl (by kernel_rfl) (by kernel_rfl) (by kernel_rfl) (fun _ _ _ h => h) (Or.inl ⟨by kernel_rfl, ?_⟩) hHeld ?_
            · intro w' hSw; go_simp
            try simp only [Act.put, List.setIfInBounds_toArray, List.set_cons_zero, List.set_cons_succ, List.getElem_toArray, List.getElem_cons_succ, List.getElem_cons_zero]
            refine wpAnyH_take (i := 11) (v := .bool R) rfl (by kernel_rfl) (by kernel_rfl) (by kernel_rfl) (fun _ _ _ h => h) (Or.inl ⟨by kernel_rfl, ?_⟩) hHeld ?_
            · intro w' hSw; go_simp
            try simp only [Act.put, List.setIfInBounds_toArray, List.set_cons_zero, List.set_cons_succ, List.getElem_toArray, List.getElem_cons_succ, List.getElem_cons_zero]
            refine wpAnyH_ready (rs := [13]) (by kernel_rfl) (by simp) ?_
            refine AllReadyH.cons rfl (fun KK hK' => ?_) AllReadyH.nil
            obtain ⟨y0, y1, y2, y3⟩ := G6.open2
            go_simp
            have G7 := put2_at G6 (.slice x1 n1 l1) (.slice x2 n2 l2)
            have T7 := T.put (u1 := .slice x1 n1 l1) (u2 := .slice x2 n2 l2) G6
            replace bu : Kb u0 ((u2.setCell ⟨g6, 0, none⟩ (.slice x1 n1 l1)).setCell ⟨g6, 1, none⟩ (.slice x2 n2 l2)) := (bu.setCell hgu _).setCell hgu _
            obtain ⟨u3, hv⟩ : ∃ V, (u2.setCell ⟨g6, 0, none⟩ (.slice x1 n1 l1)).setCell ⟨g6, 1, none⟩ (.slice x2 n2 l2) = V := ⟨_, rfl⟩
            rw [hv] at G7 T7 bu ⊢
            clear hv T G6 y0 y1 y2 y3
            clear hHeld
            refine hK'.out _ _ (bu) (fun hHeld => ?_)
            clear hK' KK
            try simp only [List.setIfInBounds_toArray, List.set_cons_zero, List.set_cons_succ]
            refine wpAnyH_take (i := 14) (v := .bool R) rfl (by kernel_rfl) (by kernel_rfl) (by kernel_rfl) (fun _ _ _ h => h) (Or.inl ⟨by kernel_rfl, ?_⟩) hHeld ?_
            · intro w' hSw; go_simp
            try simp only [Act.put, List.setIfInBounds_toArray, List.set_cons_zero, List.set_cons_succ, List.getElem_toArray, List.getElem_cons_succ, List.getElem_cons_zero]
            refine wpAnyH_done (by kernel_rfl) ?_ _
            clear hHeld
            have bz := bk0.trans (Below.mono bu bk0.size)
            have hg7 : wr.heap.size ≤ g6 := by have := bk0.size; omega
            go_wp2_with fail
            go_meet
            case rel => exact ⟨g6, _, _, rfl, rfl, hg7, G7, T7, bz⟩
        case rest =>
          obtain ⟨q6, v1, v2, rfl, rfl, hq6, Q6, T6, b6⟩ := hcut
          rename World => w6
          clear CP CLg CLw
          have B6 := HB.out.trans (b6.mono HB.out.size)
          cases R
          · have N0 := hid_of (NO.out _ B6 (fun h => h.2.2 (HI.out.bad1 hlt hk (fun h' => absurd (HR.out.2 h') (by decide)))))
            clear NO HL HOK Q6 T6 b6 B6 HG HW HNE HI HB HR hk' hlt' hm'
            go_wp2
            refine bodyPost_ret (v := .tuple #[.slice (some ⟨_, 0, none⟩) 0 0, .bool false]) (by simp [results, Tryz.results71, go_sem]) rfl N0.out
          have hPR := HR.out.1 rfl
          have HP : Hid ((mulD (A k) (W i)).ok) := ⟨rfl, rfl, hPR⟩
          obtain ⟨t1, t2⟩ : Arr w6 w.heap.size w6.heap.size v1 9 (mulD (A k) (W i)).f ∧ Arr w6 w.heap.size w6.heap.size v2 3 (mulD (A k) (W i)).h := by
            obtain ⟨_, _, ee, t1, t2, -⟩ := T6
            cases ee
            exact ⟨t1.wide HB.out.size (Nat.le_refl _), t2.wide HB.out.size (Nat.le_refl _)⟩
          obtain ⟨x1, l1, rfl, sx1⟩ := t1.src
          obtain ⟨x2, l2, rfl, sx2⟩ := t2.src
          have hG6 := HG.out.below b6
          have hW6 := HW.out.below b6
          obtain ⟨_, _, eg, -, hLG⟩ := hG6.opsL
          cases eg
          obtain ⟨y0, y1, -⟩ := Q6.open2
          have hgq : gg < q6 := by have := HG.out.lt; omega
          clear hPR HR T6
          go_wp2_with fail
          refine (l4At_any hLG HI.out.ok sx1 sx2 (by omega)).mono ?_
          rintro e w7 ⟨vv, rfl, hat, b7⟩
          have hG7 := hid_of (hG6.below b7)
          have hW7 := hid_of (hW6.below b7)
          have T1 := hid_of ((t1.below b7).wide (Nat.le_refl _) b7.size)
          have T2 := hid_of ((t2.below b7).wide (Nat.le_refl _) b7.size)
          have Q7 := Q6.below b7
          have B7 := B6.trans (b7.mono B6.size)
          clear hG6 hW6 hLG t1 t2 y0 y1 Q6 sx1 sx2 B6 b6 b7
          rcases hat with ⟨rfl, hno⟩ | ⟨t, rfl, ht, he⟩
          rotate_left
          · have C2 : Hid (ClsW w w7 n A (.slice (some ⟨gg, 0, none⟩) m cg) (.slice (some ⟨gw, 0, none⟩) m cw) m i (k + 1)) := ⟨_, _, _, _, _, _, hG7.out, hW7.out, HNE.out, HI.out.met ht (((kV_inj.2 he).trans (mulD_key _ _)).symm), B7⟩
            have ht0 : (0 : Int) ≤ (t : Int) := by omega
            clear hG7 hW7 T1 T2 Q7 B7 HNE HI HG HW HB he NO
            go_wp2
            exact ⟨⟨k + 1, m, gg, cg, gw, cw, by omega, hlt, hm, by go_num, rfl, rfl, C2⟩, by simp [intOf]; omega⟩
          have HNO : Hid (∀ t, t < m → lexC 12 (G t).key (mulD (A k) (W i)).key ≠ 0) := hno HI.out.ris
          clear hno
          by_cases h192 : m = 192
          · have N0 := hid_of (NO.out _ B7 (fun h => h.2.2 (HI.out.bad2 hlt hk h192 HNO.out)))
            have h9 : (m : Int) = 192 := by omega
            clear NO HL HOK Q7 B7 HG HW HNE HI HB hk' hlt' hm' hG7 hW7 T1 T2 HNO
            go_wp2
            refine bodyPost_ret (v := .tuple #[.slice (some ⟨_, 0, none⟩) 0 0, .bool false]) (by simp [results, Tryz.results71, go_sem]) rfl N0.out
          have h9 : ¬ (m : Int) = 192 := by omega
          obtain ⟨y0, y1, -⟩ := Q7.open2
          go_wp2_with fail
          refine (l4Put_any hG7.out B7.size T1.out T2.out ⟨rfl, rfl⟩ (by omega)).mono ?_
          rintro e w8 ⟨v8, cI, rfl, P8⟩
          obtain ⟨g8, c8, _, rfl, -⟩ := P8.ops.open
          have Q8 : At 57 w8 q6 #[.slice x1 9 l1, .slice x2 3 l2] := (P8.grown.block q6 Q7.lt (fun e => by
            simp only [Value.ownBlock, Option.some.injEq] at e
            omega)).trans Q7
          clear y0 y1
          obtain ⟨y0, y1, -⟩ := Q8.open2
          obtain ⟨Wb, hWb, ab, bb, -⟩ := boxed w8 57 #[.slice x1 9 l1, .slice x2 3 l2]
          obtain ⟨pb, hpb⟩ : ∃ q, w8.heap.size = q := ⟨_, rfl⟩
          rw [hpb] at ab
          have hWb8 := hid_of ((hW7.out.kept P8.grown (fun q h1 h2 => HNE.out q h1 h2) hG7.out.blkAt).below bb)
          have HP8 := hid_of P8
          have bb8 := hid_of bb
          have hlo8 : w.heap.size ≤ Wb.heap.size := Nat.le_trans B7.size (Nat.le_trans P8.grown.size bb.size)
          have hm1 : m + 1 ≤ maxLen := by unfold maxLen; omega
          have hm2 : (m + 1) * 48 ≤ 140737488355328 := by omega
          have hnw : ∀ j u, ([.slice x1 9 l1, .slice x2 3 l2] : List Value)[j]? = some u → Wb.cell? ((⟨pb, 0, none⟩ : Addr).add j) = some u := by
            intro j u hu
            have h2 := ab.cell j (v := u) (by simpa using hu)
            by_cases e : j = 0
            · subst e; simpa [Addr.add] using h2
            · simpa [Addr.add, e] using h2
          clear P8 bb
          go_wp2_with (at_builtin; refine Hid.out (?_ : Hid _))
          refine (?_ : wpList _ _ _ _ _ _)
          refine wpList_append_own_at _ rfl _ _ _ rfl w.heap.size 57 i0 _ 2 48 Tryz.underlying27 hi0 hz0 hz1 hz2 rfl (by omega) (.slice (some ⟨gw, 0, none⟩) m cw) m (pc Xw Yw m) rfl hWb8.out.row ⟨pb, 0, none⟩ 1 1 [.slice x1 9 l1, .slice x2 3 l2] rfl rfl hnw (by intro u hu; simp at hu; rcases hu with rfl | rfl <;> rfl) hm1 hm2 hlo8 ?_
          intro v9 w9 hown9 hgrow9 hne9 hblk9
          have hn9 : v9 ≠ .slice none 0 0 := fun e => by have := (hne9.1 e).2; omega
          obtain ⟨g9, c9, e9⟩ : ∃ g c, v9 = .slice (some ⟨g, 0, none⟩) (m + 1) c := by
            rcases hown9.2 with ⟨h1, _⟩ | ⟨g, c, cur, e, -⟩
            · exact absurd h1 hn9
            · exact ⟨g, c, e⟩
          have C9 : Hid (ClsW w w9 n A (.slice (some ⟨g8, 0, none⟩) (m + 1) c8) v9 (m + 1) i (k + 1)) := ClsW.add hG7.out hW7.out HNE.out HI.out B7 hlt hk h192 HP.out HNO.out T1.out T2.out HP8.out bb8.out hgrow9 hown9 hn9 (fun q hq => by
            rcases hblk9 with e | e
            · exact .inl (by rw [← e]; exact hq)
            · rw [e] at hq
              simp only [Option.some.injEq] at hq
              exact .inr (by omega))
          subst e9
          clear hown9 hgrow9 hne9 hblk9 hn9 hnw hWb8 HP8 bb8 hG7 hW7 HNE HI HG HW HB HNO T1 T2 Q8 Q7 ab hWb hpb y0 y1 B7
          go_wp2
          exact ⟨⟨k + 1, m + 1, g8, c8, g9, c9, by omega, by omega, by omega, by go_num, rfl, rfl, C9⟩, by simp [intOf]; omega⟩
    · obtain rfl : i = m := by omega
      have hlt' : ¬ (i : Int) < (i : Int) := by omega
      have hm' : (i : Int) ≤ 192 := by omega
      obtain ⟨Xg, Yg, G, Xw, Yw, W, hG, hW, hne, hI, B⟩ := C.out
      obtain ⟨_, _, eg, -, hLG⟩ := hG.opsL
      cases eg
      have HI := hid_of hI
      have HLG := hid_of hLG
      clear C hG hW hne hI hLG NO HL
      obtain ⟨W2, hW2, a2, B2, -⟩ := boxed wr 57 #[]
      have o1 : Hid (OpsG W2 wr.heap.size (.slice (some ⟨wr.heap.size, 0, none⟩) 0 0) 0 (fun _ => undef) (fun _ => undef) G) := opsG_new a2
      have HB := hid_of B
      clear a2 B
      go_wp2
      clear hW2
      go_loopw [10, 11] (fun v s wq => ∃ (j : Nat) (X Y : Nat → Value), j ≤ i ∧ s = .int .i64 (j : Int) ∧ Hid (OpsG wq wr.heap.size v j X Y G) ∧ Below wr.heap.size wr wq) (fun _ s _ => i - (intOf s).toNat)
      case atStart => exact ⟨0, _, _, Nat.zero_le _, rfl, o1, B2⟩
      case round =>
        clear o1 B2
        rename World => wq
        obtain ⟨j, X, Y, hj, rfl, own, Bq⟩ := hrel
        by_cases hji : j < i
        · have hji' : (j : Int) < (i : Int) := by omega
          have hL2 := HLG.out.below Bq
          obtain ⟨g1, g2, g3⟩ := HI.out.ok j hji
          obtain ⟨a1, c1, a2, c2, e1, e2, s1, s2⟩ := hL2.2 j hji
          rw [g1] at e1 s1
          rw [g2] at e2 s2
          rcases s1 with s1 | ⟨bm, om, rfl, lm, Im⟩
          · omega
          rcases s2 with s2 | ⟨bt, ot, rfl, lt, It⟩
          · omega
          have HK : Hid ((G j).n = 9 ∧ (G j).k = 3) := ⟨g1, g2⟩
          clear g1 g2 g3
          go_wp2_with fail
          refine (l3Copy_any c1 c2 Im It lm lt (by omega) (by omega)).mono ?_
          rintro e w5 ⟨o, rfl, ⟨v1, v2, rfl, r1, r2, ap⟩, b3⟩
          clear e1 e2 Im It lm lt hL2
          have B3 := Bq.trans (b3.mono Bq.size)
          obtain ⟨x1, d1', rfl, -⟩ := r1.src
          obtain ⟨x2, d2', rfl, -⟩ := r2.src
          obtain ⟨W4, hW4, a4, b4, -⟩ := boxed w5 57 #[.slice x1 9 d1', .slice x2 3 d2']
          obtain ⟨p4, hp4⟩ : ∃ p, w5.heap.size = p := ⟨_, rfl⟩
          rw [hp4] at a4
          have b34 := hid_of (b3.trans (b4.mono b3.size))
          have r1' := hid_of ((r1.below b4).wide (Nat.le_refl _) b4.size)
          have r2' := hid_of ((r2.below b4).wide (Nat.le_refl _) b4.size)
          have row4 : Hid (W4.ownsRow wr.heap.size 57 2 u10 j (pc X Y j)) := own_below own.out.row b34.out
          have B4 := B3.trans (b4.mono B3.size)
          have hm1 : j + 1 ≤ maxLen := by unfold maxLen; omega
          have hm2 : (j + 1) * 48 ≤ 140737488355328 := by omega
          have hnw : ∀ j u, ([.slice x1 9 d1', .slice x2 3 d2'] : List Value)[j]? = some u → W4.cell? ((⟨p4, 0, none⟩ : Addr).add j) = some u := by
            intro j u hu
            have h2 := a4.cell j (v := u) (by simpa using hu)
            by_cases e : j = 0
            · subst e; simpa [Addr.add] using h2
            · simpa [Addr.add, e] using h2
          clear r1 r2 b3 b4 B3
          go_wp2_with (at_builtin; refine Hid.out (?_ : Hid _))
          refine (?_ : wpList _ _ _ _ _ _)
          refine wpList_append_own_at _ rfl _ _ _ rfl wr.heap.size 57 i0 _ 2 48 Tryz.underlying27 hi0 hz0 hz1 hz2 rfl (by omega) u10 j (pc X Y j) rfl row4.out ⟨p4, 0, none⟩ 1 1 [.slice x1 9 d1', .slice x2 3 d2'] rfl rfl hnw (by intro u hu; simp at hu; rcases hu with rfl | rfl <;> rfl) hm1 hm2 B4.size ?_
          intro v6 w6 hown5 hgrow5 hne5 _
          obtain ⟨X', Y', HO⟩ := own.out.next Bq.size b34.out (by rw [HK.out.1]; exact r1'.out) (by rw [HK.out.2]; exact r2'.out) ap hgrow5 hown5 (fun e => by have := (hne5.1 e).2; omega)
          have HO' : Hid (OpsG w6 wr.heap.size v6 (j + 1) X' Y' G) := HO
          have B5 : Below wr.heap.size wr w6 := B4.grown hgrow5 B4.size (fun x hx => ownBlock_ge row4.out hx)
          clear HO hown5 hgrow5 hne5 own row4 r1' r2' b34 B4 Bq hnw a4 hW4 hm1 hm2 ap
          go_wp2
          exact ⟨⟨j + 1, X', Y', by omega, by go_num, HO', B5⟩, by simp [intOf]; omega⟩
        · obtain rfl : j = i := by omega
          have hji' : ¬ (j : Int) < (j : Int) := by omega
          obtain ⟨g', c', e', H⟩ := own.out.opsA
          subst e'
          have H' := hid_of (H.lower HB.out.size)
          have OG := hid_of (own.out.lowerG HB.out.size)
          have FI : Hid (ClsS n A j G true) := .inl ⟨rfl, h12, HOK.out, W, HI.out⟩
          have BF := HB.out.trans (Bq.mono HB.out.size)
          clear H own HI HLG HB
          go_wp2
          refine bodyPost_ret (v := .tuple #[.slice (some ⟨g', 0, none⟩) j c', .bool true]) (by simp [results, Tryz.results71, go_sem]) rfl ⟨⟨g', j, c', true, X, Y, G, rfl, H'.out, FI.out, fun _ => OG.out⟩, BF⟩
end Go.Proofs.YtiocneailhplkaaGreat
