/-
  Close by the specification: its mathematics. No function of the program.
-/
import Derived.Test.YtehbpcoiciodhaaGreatE7a
import Derived.Test.YtehbpcoiciodhaaGreatMQ
import Derived.Test.YtehbpcoiciodhaaGreatMG
import Derived.Test.YtehbpcoiciodhaaGreatNB
import Derived.Test.YtehbpcoiciodhaaGreatMO
import Derived.Test.YtehbpcoiciodhaaGreatME
namespace Go.Proofs.YtehbpcoiciodhaaGreat
open Go.RowKit

/-- A product, as it is told. -/
def mulD (x y : OpD) : OpD := ⟨9, mulM x.f y.f, 3, behV x.f x.h y.h⟩
theorem mulD_key (x y : OpD) : kV (mulD x y).key = kV (mulQ x.key y.key) := mulK_key x y
/-- The one that does nothing. -/
def oneD : OpD := ⟨9, oneF, 3, fun _ => 0⟩
theorem oneD_ok : oneD.ok := by unfold OpD.ok oneD; decide
def snoc {α : Type} (f : Nat → α) (n : Nat) (x : α) (t : Nat) : α := if t = n then x else f t
theorem snoc_lo {α : Type} {f : Nat → α} {n t : Nat} {x : α} (h : t < n) : snoc f n x t = f t := by simp [snoc, show t ≠ n by omega]
theorem snoc_at {α : Type} (f : Nat → α) (n : Nat) (x : α) : snoc f n x n = x := by simp [snoc]
theorem OpsP.snoc {w w' : World} {lo n : Nat} {v v' x y : Value} {X Y : Nat → Value} {A : Nat → OpD} {o : OpD} (h : OpsP w lo v n X Y A) (r1 : Arr w lo w.heap.size x 9 o.f) (r2 : Arr w lo w.heap.size y 3 o.h) (ho : o.n = 9 ∧ o.k = 3) (hg : w.grownBy w' v.ownBlock) (hrow : w'.ownsRow lo 59 2 v' (n + 1) (pc X Y n ++ [x, y])) (hne : v' ≠ .slice none 0 0) : OpsP w' lo v' (n + 1) (snoc X n x) (snoc Y n y) (snoc A n o) := by
  have hr : ∀ k, v.ownBlock = some k → ∃ cur, At 59 w k cur := fun k hk => by
    obtain ⟨g, c, cur, rfl, -, ha, -⟩ := h.open
    simp only [Value.ownBlock, Option.some.injEq] at hk
    exact ⟨cur, hk ▸ ha⟩
  have up : ∀ {u : Value} {m : Nat} {f : Nat → Int}, Arr w lo w.heap.size u m f → Arr w' lo w'.heap.size u m f := fun r => (arr_grown r hg (fun k hk e => by
    obtain ⟨cur, hc⟩ := hr k e
    exact arr_ne_block r hc hk)).wide (Nat.le_refl _) hg.size
  refine ⟨?_, hne, fun t ht => ?_, fun t ht => ?_, fun t ht => ?_⟩
  · have : pc (Go.Proofs.YtehbpcoiciodhaaGreat.snoc X n x) (Go.Proofs.YtehbpcoiciodhaaGreat.snoc Y n y) (n + 1) = pc X Y n ++ [x, y] := by
      show pc _ _ n ++ [_, _] = _
      rw [pc_congr (X' := X) (Y' := Y) (fun i hi => ⟨snoc_lo hi, snoc_lo hi⟩), snoc_at, snoc_at]
    rw [this]; exact hrow
  · by_cases e : t = n
    · subst e; rw [snoc_at, snoc_at]; exact up r1
    · rw [snoc_lo (by omega), snoc_lo (by omega)]; exact up (h.xs t (by omega))
  · by_cases e : t = n
    · subst e; rw [snoc_at, snoc_at]; exact up r2
    · rw [snoc_lo (by omega), snoc_lo (by omega)]; exact up (h.ys t (by omega))
  · by_cases e : t = n
    · subst e; rw [snoc_at]; exact ho
    · rw [snoc_lo (by omega)]; exact h.nk t (by omega)
/-- What Close has come to: the list in order G, the list in the order of its finding W; the first i of W are done, and of the next one k products. -/
structure ClsI (n : Nat) (A : Nat → OpD) (m i k : Nat) (G W : Nat → OpD) : Prop where
  few : m ≤ 192
  ris : Rises m G
  ok : ∀ j, j < m → (G j).ok
  okw : ∀ j, j < m → (W j).ok
  rea : ∀ j, j < m → ReachL n (fun i => (A i).key) (W j).key
  gw : ∀ j, j < m → ∃ t, t < m ∧ kV (G j).key = kV (W t).key
  wg : ∀ j, j < m → ∃ t, t < m ∧ kV (W j).key = kV (G t).key
  one : ∃ t, t < m ∧ kV (G t).key = kV oneK
  cl : ∀ j, j < i → ∀ t, t < n → ∃ s, s < m ∧ kV (mulQ (A t).key (W j).key) = kV (G s).key
  ck : ∀ t, t < k → ∃ s, s < m ∧ kV (mulQ (A t).key (W i).key) = kV (G s).key
theorem ClsI.start (n : Nat) (A : Nat → OpD) : ClsI n A 1 0 0 (fun _ => oneD) (fun _ => oneD) :=
  ⟨by omega, fun i hi => by omega, fun _ _ => oneD_ok, fun _ _ => oneD_ok, fun _ _ => .base rfl, fun j hj => ⟨0, by omega, rfl⟩, fun j hj => ⟨0, by omega, rfl⟩, ⟨0, by omega, rfl⟩, fun j hj => by omega, fun t ht => by omega⟩
theorem ClsI.next {n m i : Nat} {A G W : Nat → OpD} (h : ClsI n A m i n G W) : ClsI n A m (i + 1) 0 G W :=
  { h with
    cl := fun j hj => by
      by_cases e : j = i
      · subst e; exact h.ck
      · exact h.cl j (by omega)
    ck := fun t ht => by omega }
theorem ClsI.met {n m i k s : Nat} {A G W : Nat → OpD} (h : ClsI n A m i k G W) (hs : s < m) (e : kV (mulQ (A k).key (W i).key) = kV (G s).key) : ClsI n A m i (k + 1) G W :=
  { h with
    ck := fun t ht => by
      by_cases e' : t = k
      · subst e'; exact ⟨s, hs, e⟩
      · exact h.ck t (by omega) }
theorem ClsI.add {n m i k c : Nat} {A G W : Nat → OpD} (h : ClsI n A m i k G W) (hi : i < m) (hk : k < n) (hm : m ≠ 192) (ho : (mulD (A k) (W i)).ok) (hc : c ≤ m) (hno : ∀ t, t < m → lexC 12 (G t).key (mulD (A k) (W i)).key ≠ 0) (hov : ∀ t, c ≤ t → t < m → 0 < lexC 12 (G t).key (mulD (A k) (W i)).key) (hun : c = 0 ∨ ¬ 0 < lexC 12 (G (c - 1)).key (mulD (A k) (W i)).key) : ClsI n A (m + 1) i (k + 1) (ins c G (mulD (A k) (W i))) (snoc W m (mulD (A k) (W i))) := by
  have old : ∀ s, s < m → ∃ s', s' < m + 1 ∧ ins c G (mulD (A k) (W i)) s' = G s := fun s hs => by
    by_cases e : s < c
    · exact ⟨s, by omega, ins_lo e⟩
    · exact ⟨s + 1, by omega, by rw [ins_hi (by omega)]; rfl⟩
  have oldk : ∀ {x : Value}, (∃ s, s < m ∧ x = kV (G s).key) → ∃ s, s < m + 1 ∧ x = kV (ins c G (mulD (A k) (W i)) s).key := fun ⟨s, hs, e⟩ => by
    obtain ⟨s', h1, h2⟩ := old s hs
    exact ⟨s', h1, by rw [h2]; exact e⟩
  have allG : ∀ {P : OpD → Prop}, (∀ t, t < m → P (G t)) → P (mulD (A k) (W i)) → ∀ t, t < m + 1 → P (ins c G (mulD (A k) (W i)) t) := fun h1 h2 t ht => by
    rcases Nat.lt_trichotomy t c with e | e | e
    · rw [ins_lo e]; exact h1 t (by omega)
    · subst e; rw [ins_at]; exact h2
    · rw [ins_hi e]; exact h1 _ (by omega)
  have allW : ∀ {P : OpD → Prop}, (∀ t, t < m → P (W t)) → P (mulD (A k) (W i)) → ∀ t, t < m + 1 → P (snoc W m (mulD (A k) (W i)) t) := fun h1 h2 t ht => by
    by_cases e : t = m
    · subst e; rw [snoc_at]; exact h2
    · rw [snoc_lo (by omega)]; exact h1 t (by omega)
  refine ⟨by have := h.few; omega, fun t ht => ?_, allG h.ok ho, allW h.okw ho, allW (P := fun o => ReachL n (fun i => (A i).key) o.key) h.rea ((h.rea i hi).step hk (mulD_key _ _)), ?_, ?_, ?_, fun j hj t ht => ?_, fun t ht => ?_⟩
  · rcases Nat.lt_trichotomy (t + 1) c with e | e | e
    · rw [ins_lo (by omega), ins_lo e]; exact h.ris t (by omega)
    · rw [ins_lo (show t < c by omega), e, ins_at]
      rcases hun with e' | e'
      · omega
      · rw [show c - 1 = t by omega] at e'
        have h1 := hno t (by omega)
        omega
    · rw [ins_hi e]
      by_cases e' : t = c
      · rw [e', ins_at, show c + 1 - 1 = c by omega]
        exact lexC_pos.1 (hov c (Nat.le_refl _) (by omega))
      · rw [ins_hi (show c < t by omega)]
        have := h.ris (t - 1) (by omega)
        rwa [show t - 1 + 1 = t + 1 - 1 by omega] at this
  · refine allG (P := fun o => ∃ t, t < m + 1 ∧ kV o.key = kV (Go.Proofs.YtehbpcoiciodhaaGreat.snoc W m (mulD (A k) (W i)) t).key) (fun t ht => ?_) ⟨m, by omega, by rw [snoc_at]⟩
    obtain ⟨s, hs, e⟩ := h.gw t ht
    exact ⟨s, by omega, by rw [snoc_lo hs]; exact e⟩
  · exact allW (P := fun o => ∃ t, t < m + 1 ∧ kV o.key = kV (ins c G (mulD (A k) (W i)) t).key) (fun t ht => oldk (h.wg t ht)) ⟨c, by omega, by rw [ins_at]⟩
  · obtain ⟨s, hs, e⟩ := h.one
    obtain ⟨s', h1, h2⟩ := old s hs
    exact ⟨s', h1, by rw [h2]; exact e⟩
  · by_cases hj : j < m
    · rw [snoc_lo hj]; exact oldk (h.cl j (by omega) t ht)
    · omega
  · rw [snoc_lo hi]
    by_cases e : t = k
    · subst e; exact ⟨c, by omega, by rw [ins_at]; exact (mulD_key _ _).symm⟩
    · exact oldk (h.ck t (by omega))
theorem isR_cat {f h : Nat → Int} (hk : kR (cat 9 f h)) : isR f h := by
  obtain ⟨h1, h2, h3⟩ := hk
  refine ⟨fun i hi => by have := h1 i hi; rwa [cat_lo _ _ hi] at this, fun i hi => by have := h2 i hi; unfold kh at this; rwa [cat_hi] at this, ?_⟩
  have e : det3 (cat 9 f h) = det3 f := by
    unfold det3
    simp only [cat_lo f h (show 0 < 9 by decide), cat_lo f h (show 1 < 9 by decide), cat_lo f h (show 2 < 9 by decide), cat_lo f h (show 3 < 9 by decide), cat_lo f h (show 4 < 9 by decide), cat_lo f h (show 5 < 9 by decide), cat_lo f h (show 6 < 9 by decide), cat_lo f h (show 7 < 9 by decide), cat_lo f h (show 8 < 9 by decide)]
  rwa [e] at h3
theorem ClsI.bad1 {n m i k : Nat} {A G W : Nat → OpD} (h : ClsI n A m i k G W) (hi : i < m) (hk : k < n) (hno : ¬ isR (mulM (A k).f (W i).f) (behV (A k).f (A k).h (W i).h)) : BadL n (fun i => (A i).key) :=
  .inl ⟨_, (h.rea i hi).step hk rfl, fun hR => hno (isR_cat (kR_congr (mulD_key (A k) (W i)).symm hR))⟩
theorem Rises.nodup {m : Nat} {G : Nat → OpD} (h : Rises m G) : (((List.range m).map (fun i => (G i).key)).map kV).Nodup := by
  unfold List.Nodup
  rw [List.pairwise_iff_getElem]
  intro i j hi hj hij
  simp at hj
  simp only [List.getElem_map, List.getElem_range]
  intro e
  have := h.lt hij hj
  rw [kV_inj.1 e] at this
  omega
theorem ClsI.reaG {n m i k : Nat} {A G W : Nat → OpD} (h : ClsI n A m i k G W) {j : Nat} (hj : j < m) : ReachL n (fun i => (A i).key) (G j).key := by
  obtain ⟨t, ht, e⟩ := h.gw j hj
  exact (h.rea t ht).congr e
theorem ClsI.bad2 {n m i k : Nat} {A G W : Nat → OpD} (h : ClsI n A m i k G W) (hi : i < m) (hk : k < n) (hm : m = 192) (hno : ∀ t, t < m → lexC 12 (G t).key (mulD (A k) (W i)).key ≠ 0) : BadL n (fun i => (A i).key) := by
  refine .inr ⟨(List.range m).map (fun i => (G i).key) ++ [(mulD (A k) (W i)).key], by simp [hm], ?_, fun x hx => ?_⟩
  · rw [List.map_append, List.nodup_append]
    refine ⟨h.ris.nodup, by simp, fun a ha b hb => ?_⟩
    simp only [List.map_map, List.mem_map, List.mem_range, Function.comp_apply] at ha
    obtain ⟨t, ht, rfl⟩ := ha
    simp only [List.map_cons, List.map_nil, List.mem_singleton] at hb
    subst hb
    exact fun e => hno t ht (kV_inj.1 e)
  · rcases List.mem_append.1 hx with hx | hx
    · obtain ⟨t, ht, rfl⟩ := List.mem_map.1 hx
      exact h.reaG (List.mem_range.1 ht)
    · rw [List.mem_singleton.1 hx]
      exact (h.rea i hi).step hk (mulD_key _ _)
/-- What the specification's Close tells. -/
def ClsS (n : Nat) (A : Nat → OpD) (m : Nat) (H : Nat → OpD) (b : Bool) : Prop :=
  (b = true ∧ n ≤ 12 ∧ (∀ i, i < n → (A i).ok) ∧ ∃ W, ClsI n A m m 0 H W) ∨ (b = false ∧ m = 0 ∧ ¬ (n ≤ 12 ∧ (∀ i, i < n → (A i).ok) ∧ ¬ BadL n (fun i => (A i).key)))
theorem ClsI.closed {n m : Nat} {A H W : Nat → OpD} (h : ClsI n A m m 0 H W) : ∀ i, i < m → ∀ t, t < n → kV (mulQ (A t).key (H i).key) ∈ ((List.range m).map (fun i => (H i).key)).map kV := by
  intro i hi t ht
  obtain ⟨s, hs, e⟩ := h.gw i hi
  obtain ⟨r, hr, e2⟩ := h.cl s hs t ht
  rw [mulQ_congr2 e, e2]
  exact List.mem_map_of_mem (List.mem_map.2 ⟨r, List.mem_range.2 hr, rfl⟩)
theorem ClsI.hasOne {n m i k : Nat} {A H W : Nat → OpD} (h : ClsI n A m i k H W) : kV oneK ∈ ((List.range m).map (fun i => (H i).key)).map kV := by
  obtain ⟨t, ht, e⟩ := h.one
  rw [← e]
  exact List.mem_map_of_mem (List.mem_map.2 ⟨t, List.mem_range.2 ht, rfl⟩)
theorem ClsI.notBad {n m : Nat} {A H W : Nat → OpD} (h : ClsI n A m m 0 H W) : ¬ BadL n (fun i => (A i).key) := by
  have has : ∀ x, ReachL n (fun i => (A i).key) x → kV x ∈ ((List.range m).map (fun i => (H i).key)).map kV := fun x hx => closedL_has h.hasOne (fun y hy t ht => by
    obtain ⟨i, hi, rfl⟩ := List.mem_map.1 hy
    exact h.closed i (List.mem_range.1 hi) t ht) hx
  rintro (⟨x, h1, h2⟩ | ⟨ls, h1, h2, h3⟩)
  · obtain ⟨z, hz, ez⟩ := List.mem_map.1 (has x h1)
    obtain ⟨i, hi, rfl⟩ := List.mem_map.1 hz
    exact h2 (kR_congr ez (ok_R (h.ok i (List.mem_range.1 hi))))
  · have := h2.length_le_of_subset (l₂ := ((List.range m).map (fun i => (H i).key)).map kV) (fun v hv => by
      obtain ⟨x, hx, rfl⟩ := List.mem_map.1 hv
      exact has x (h3 x hx))
    have h4 := h.few
    simp at this
    omega
/-- The program and the specification tell the same. -/
theorem cls_same {n m m' : Nat} {A H : Nat → OpD} {G : Nat → Nat → Int} {b b' : Bool} (h1 : ClsT n A m G b) (h2 : ClsS n A m' H b') : b = b' ∧ m = m' ∧ ∀ i, i < m → kV (G i) = kV (H i).key := by
  rcases h1 with ⟨rfl, hn, hok, -, L, ks, hm, hnd, hp, hs, hM⟩ | ⟨rfl, rfl, hno⟩
  · rcases h2 with ⟨rfl, -, -, W, hC⟩ | ⟨rfl, -, hno⟩
    · obtain ⟨e1, e2⟩ := same_words (fun t ht => ok_R (hok t ht)) hnd hp hs hM (H := fun i => (H i).key) hC.ris (fun i hi => hC.reaG hi) hC.hasOne hC.closed
      exact ⟨rfl, e1, e2⟩
    · exact absurd ⟨hn, hok, hM.notBad⟩ hno
  · rcases h2 with ⟨rfl, hn, hok, W, hC⟩ | ⟨rfl, rfl, -⟩
    · exact absurd ⟨hn, hok, fun h => hC.notBad (h.bad (fun t ht => ok_R (hok t ht)))⟩ hno
    · exact ⟨rfl, rfl, fun i hi => by omega⟩
end Go.Proofs.YtehbpcoiciodhaaGreat
/-
  Close by the specification: walked.
-/
namespace Go.Proofs.YtehbpcoiciodhaaGreat
open Go.RowKit

/-- Both lists of Close, in memory of its own. -/
def ClsW (w wr : World) (n : Nat) (A : Nat → OpD) (vg vw : Value) (m i k : Nat) : Prop :=
  ∃ Xg Yg G Xw Yw W, OpsP wr w.heap.size vg m Xg Yg G ∧ OpsP wr w.heap.size vw m Xw Yw W ∧ (∀ q, vg.ownBlock = some q → vw.ownBlock ≠ some q) ∧ ClsI n A m i k G W ∧ Below w.heap.size w wr
/-- The product in its box. -/
def CutC (wr : World) (R : Bool) (f h : Nat → Int) (s8 s9 : Value) (wc : World) : Prop :=
  ∃ q v1 v2, s8 = .pointer (some ⟨q, 0, none⟩) ∧ s9 = .bool R ∧ wr.heap.size ≤ q ∧ At 59 wc q #[v1, v2] ∧ Told wc wr.heap.size wc.heap.size (.agg #[v1, v2]) R f h ∧ Below wr.heap.size wr wc
theorem Told.up {w w' : World} {lo : Nat} {o : Value} {p : Bool} {f h : Nat → Int} (t : Told w lo w.heap.size o p f h) (hb : Below w.heap.size w w') : Told w' lo w'.heap.size o p f h := by
  obtain ⟨v1, v2, e, r1, r2, ap⟩ := t
  exact ⟨v1, v2, e, (r1.below hb).wide (Nat.le_refl _) hb.size, (r2.below hb).wide (Nat.le_refl _) hb.size, ap⟩
theorem Told.put {w : World} {lo q : Nat} {o1 o2 u1 u2 o : Value} {p : Bool} {f h : Nat → Int} (t : Told w lo w.heap.size o p f h) (a : At 59 w q #[o1, o2]) : Told ((w.setCell ⟨q, 0, none⟩ u1).setCell ⟨q, 1, none⟩ u2) lo ((w.setCell ⟨q, 0, none⟩ u1).setCell ⟨q, 1, none⟩ u2).heap.size o p f h := by
  obtain ⟨v1, v2, e, r1, r2, ap⟩ := t
  have hs : ((w.setCell ⟨q, 0, none⟩ u1).setCell ⟨q, 1, none⟩ u2).heap.size = w.heap.size := by simp [World.setCell]
  rw [hs]
  exact ⟨v1, v2, e, (r1.set a).set (a.set 0 u1), (r2.set a).set (a.set 0 u1), ap⟩
theorem put2_at {t : TypeId} {w : World} {q : Nat} {o1 o2 : Value} (a : At t w q #[o1, o2]) (u1 u2 : Value) : At t ((w.setCell ⟨q, 0, none⟩ u1).setCell ⟨q, 1, none⟩ u2) q #[u1, u2] := by simpa using (a.set 0 u1).set 1 u2
theorem opsP_one {w W : World} {lo : Nat} {x y : Value} {o : OpD} (a : At 59 W w.heap.size #[x, y]) (hl : lo ≤ w.heap.size) (r1 : Arr W lo W.heap.size x 9 o.f) (r2 : Arr W lo W.heap.size y 3 o.h) (ho : o.n = 9 ∧ o.k = 3) : OpsP W lo (.slice (some ⟨w.heap.size, 0, none⟩) 1 1) 1 (fun _ => x) (fun _ => y) (fun _ => o) :=
  ⟨⟨rfl, .inr ⟨w.heap.size, 1, #[x, y], rfl, hl, a, Nat.le_refl _, by unfold maxLen; omega, rfl, rfl⟩⟩, ne_nil _ _ _, fun _ _ => r1, fun _ _ => r2, fun _ _ => ho⟩
theorem OpsP.lt {w : World} {lo g n c : Nat} {X Y : Nat → Value} {A : Nat → OpD} (h : OpsP w lo (.slice (some ⟨g, 0, none⟩) n c) n X Y A) : lo ≤ g ∧ g < w.heap.size := by
  obtain ⟨g', c', cur, e, hb, a, -⟩ := h.open
  cases e
  exact ⟨hb, a.lt⟩
theorem OpsP.blkAt {w : World} {lo n : Nat} {v : Value} {X Y : Nat → Value} {A : Nat → OpD} (h : OpsP w lo v n X Y A) : ∀ k, v.ownBlock = some k → ∃ cur, At 59 w k cur := fun k hk => by
  obtain ⟨g, c, cur, rfl, -, ha, -⟩ := h.open
  simp only [Value.ownBlock, Option.some.injEq] at hk
  exact ⟨cur, hk ▸ ha⟩
/-- Both grew by one. -/
theorem ClsW.add {w wr w8 w9 : World} {n m i k c : Nat} {A : Nat → OpD} {vg vw v8 v9 x y : Value} {Xg Yg Xw Yw : Nat → Value} {G W : Nat → OpD}
    (hG : OpsP wr w.heap.size vg m Xg Yg G) (hW : OpsP wr w.heap.size vw m Xw Yw W) (hne : ∀ q, vg.ownBlock = some q → vw.ownBlock ≠ some q) (hI : ClsI n A m i k G W) (B : Below w.heap.size w wr)
    (hi : i < m) (hk : k < n) (hm : m ≠ 192) (ho : (mulD (A k) (W i)).ok) (hno : ∀ t, t < m → lexC 12 (G t).key (mulD (A k) (W i)).key ≠ 0)
    (r1 : Arr wr w.heap.size wr.heap.size x 9 (mulD (A k) (W i)).f) (r2 : Arr wr w.heap.size wr.heap.size y 3 (mulD (A k) (W i)).h)
    (P8 : PutP wr w8 w.heap.size vg v8 m Xg Yg G x y (mulD (A k) (W i)) c) {wb : World} (bb : Below w8.heap.size w8 wb)
    (hg : wb.grownBy w9 vw.ownBlock) (hrow : w9.ownsRow w.heap.size 59 2 v9 (m + 1) (pc Xw Yw m ++ [x, y])) (hn9 : v9 ≠ .slice none 0 0) (hb9 : ∀ q, v9.ownBlock = some q → vw.ownBlock = some q ∨ wb.heap.size ≤ q) : ClsW w w9 n A v8 v9 (m + 1) i (k + 1) := by
  have hwt : ∀ q, vw.ownBlock = some q → q < wr.heap.size := fun q hq => by
    obtain ⟨cur, a⟩ := hW.blkAt q hq
    exact a.lt
  have hW8 := hW.kept P8.grown (fun q h1 h2 => hne q h1 h2) hG.blkAt
  have up8 : ∀ {u : Value} {l : Nat} {f : Nat → Int}, Arr wr w.heap.size wr.heap.size u l f → Arr w8 w.heap.size w8.heap.size u l f := fun r => (arr_grown r P8.grown (fun q hq e => by
    obtain ⟨cur, hc⟩ := hG.blkAt q e
    exact arr_ne_block r hc hq)).wide (Nat.le_refl _) P8.grown.size
  have hWb := hW8.below bb
  have h8b := P8.ops.below bb
  have ne8 : ∀ q, vw.ownBlock = some q → v8.ownBlock ≠ some q := fun q h1 h2 => by
    rcases P8.blk q h2 with e | e
    · exact hne q e h1
    · have := hwt q h1; omega
  have h8t : ∀ q, v8.ownBlock = some q → q < w8.heap.size := fun q hq => by
    obtain ⟨cur, a⟩ := P8.ops.blkAt q hq
    exact a.lt
  refine ⟨_, _, _, _, _, _, h8b.kept hg ne8 hWb.blkAt, hWb.snoc (((up8 r1).below bb).wide (Nat.le_refl _) bb.size) (((up8 r2).below bb).wide (Nat.le_refl _) bb.size) ⟨rfl, rfl⟩ hg hrow hn9, fun q h1 h2 => ?_, hI.add hi hk hm ho P8.le hno P8.over P8.under, ?_⟩
  · rcases hb9 q h2 with e | e
    · exact ne8 q e h1
    · have := h8t q h1; have := bb.size; omega
  · have B8 : Below w.heap.size w w8 := B.grown P8.grown B.size (fun q hq => by
      obtain ⟨g, c, cur, rfl, hl, -⟩ := hG.open
      simp only [Value.ownBlock, Option.some.injEq] at hq
      omega)
    exact (B8.trans (bb.mono B8.size)).grown hg (Nat.le_trans B8.size bb.size) (fun q hq => by
      obtain ⟨g, c, cur, rfl, hl, -⟩ := hW.open
      simp only [Value.ownBlock, Option.some.injEq] at hq
      omega)
/-- How the specification's Close ends. -/
def ClsE (w : World) (n : Nat) (A : Nat → OpD) (e : Ending) (w' : World) : Prop :=
  (∃ g' m c' b X Y H, e = .returned (.tuple #[.slice (some ⟨g', 0, none⟩) m c', .bool b]) ∧ OpsA w' w.heap.size w'.heap.size g' m X Y H ∧ ClsS n A m H b) ∧ Below w.heap.size w w'
end Go.Proofs.YtehbpcoiciodhaaGreat
