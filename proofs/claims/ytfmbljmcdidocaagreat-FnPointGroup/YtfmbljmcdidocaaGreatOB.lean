/-
  A group turned by an operator: its mathematics; lists of operators in memory of their own, read alone. No function of the program.
-/
import Derived.Test.YtfmbljmcdidocaaGreatNQ
import Derived.Test.YtfmbljmcdidocaaGreatE9r
import Derived.Test.YtfmbljmcdidocaaGreatNI
import Derived.Test.YtfmbljmcdidocaaGreatE6c
import Derived.Test.YtfmbljmcdidocaaGreatE10b
import Derived.Test.YtfmbljmcdidocaaGreatNC
namespace Go.Proofs.YtfmbljmcdidocaaGreat
open Go.RowKit

/-- The way back. -/
def backD (o : OpD) : OpD := ⟨9, backM o.f, 3, backV o.f o.h⟩
/-- The operator, one of the group, and the way back. -/
def wholeD (o : OpD) (A : Nat → OpD) (i : Nat) : OpD := mulD (mulD o (A i)) (backD o)
/-- All goes well. -/
def TurOk (n : Nat) (A : Nat → OpD) (o : OpD) : Prop := isG n A ∧ o.ok ∧ (backD o).ok ∧ ∀ i, i < n → (mulD o (A i)).ok ∧ (wholeD o A i).ok
/-- What has been put in. -/
structure TurI (A : Nat → OpD) (o : OpD) (i : Nat) (E : Nat → OpD) : Prop where
  so : ∀ t, t + 1 < i → ¬ 0 < lexC 12 (E t).key (E (t + 1)).key
  pe : ((List.range i).map (fun t => kV (E t).key)).Perm ((List.range i).map (fun t => kV (wholeD o A t).key))
  ok : ∀ t, t < i → (E t).ok
  all : ∀ t, t < i → (mulD o (A t)).ok ∧ (wholeD o A t).ok
theorem TurI.start (A : Nat → OpD) (o : OpD) (E : Nat → OpD) : TurI A o 0 E := ⟨fun t ht => by omega, List.Perm.refl _, fun t ht => by omega, fun t ht => by omega⟩
theorem TurI.add {A : Nat → OpD} {o : OpD} {i c : Nat} {E : Nat → OpD} (h : TurI A o i E) (h1 : (mulD o (A i)).ok) (h2 : (wholeD o A i).ok) (hc : c ≤ i) (hov : ∀ t, c ≤ t → t < i → 0 < lexC 12 (E t).key (wholeD o A i).key) (hun : c = 0 ∨ ¬ 0 < lexC 12 (E (c - 1)).key (wholeD o A i).key) : TurI A o (i + 1) (ins c E (wholeD o A i)) := by
  refine ⟨fun t ht => ?_, ?_, fun t ht => ?_, fun t ht => ?_⟩
  · rcases Nat.lt_trichotomy (t + 1) c with e | e | e
    · rw [ins_lo (by omega), ins_lo e]; exact h.so t (by omega)
    · rw [ins_lo (show t < c by omega), e, ins_at]
      rcases hun with e' | e'
      · omega
      · rwa [show c - 1 = t by omega] at e'
    · rw [ins_hi e]
      by_cases e' : t = c
      · rw [e', ins_at, show c + 1 - 1 = c by omega]
        have := lexC_pos.1 (hov c (Nat.le_refl _) (by omega))
        omega
      · rw [ins_hi (show c < t by omega)]
        have := h.so (t - 1) (by omega)
        rwa [show t - 1 + 1 = t + 1 - 1 by omega] at this
  · have e1 : (List.range (i + 1)).map (fun t => kV (ins c E (wholeD o A i) t).key) = (List.range (i + 1)).map (ins c (fun t => kV (E t).key) (kV (wholeD o A i).key)) := by
      refine List.map_congr_left (fun t _ => ?_)
      unfold ins
      split
      · rfl
      · split <;> rfl
    rw [e1]
    refine (ins_perm _ _ hc).trans ?_
    rw [List.range_succ, List.map_append, List.map_cons, List.map_nil]
    exact (h.pe.cons _).trans (List.perm_append_singleton _ _).symm
  · rcases Nat.lt_trichotomy t c with e | e | e
    · rw [ins_lo e]; exact h.ok t (by omega)
    · subst e; rw [ins_at]; exact h2
    · rw [ins_hi e]; exact h.ok _ (by omega)
  · by_cases e : t = i
    · subst e; exact ⟨h1, h2⟩
    · exact h.all t (by omega)
/-- What the specification's Turned tells. -/
def TurS (n : Nat) (A : Nat → OpD) (o : OpD) (m : Nat) (H : Nat → OpD) (b : Bool) : Prop :=
  (b = true ∧ m = n ∧ n ≤ 192 ∧ TurOk n A o ∧ TurI A o n H) ∨ (b = false ∧ m = 0 ∧ ¬ TurOk n A o)
/-- What the program's Turned tells. -/
def TurT (n : Nat) (A : Nat → OpD) (o : OpD) (m : Nat) (G : Nat → Nat → Int) (b : Bool) : Prop :=
  (b = true ∧ m = n ∧ TurOk n A o ∧ (((List.range n).map G).map kV).Perm ((List.range n).map (fun t => kV (wholeD o A t).key)) ∧ ∀ i j, i < j → j < n → ¬ lexC 12 (G j) (G i) < 0) ∨ (b = false ∧ m = 0 ∧ ¬ TurOk n A o)
theorem TurI.le {A : Nat → OpD} {o : OpD} {n : Nat} {E : Nat → OpD} (h : TurI A o n E) : ∀ i j, i < j → j < n → ¬ lexC 12 (E j).key (E i).key < 0 := by
  have tr : ∀ x y z : Nat → Int, ¬ lexC 12 y x < 0 → ¬ lexC 12 z y < 0 → ¬ lexC 12 z x < 0 := fun x y z h1 h2 h3 => by
    rcases lexC_range 12 x y with e | e | e
    · have hxy : lexC 12 x y < 0 := by omega
      exact h2 (lexC_trans h3 hxy)
    · rw [lexC_eq (f' := z) (h' := y) (fun _ _ => rfl) (lexC_zero.1 e)] at h3
      exact h2 h3
    · exact h1 (lexC_pos.1 (by omega))
  intro i j hij hj
  induction j with
  | zero => omega
  | succ j ih =>
    have h0 : ¬ lexC 12 (E (j + 1)).key (E j).key < 0 := fun e => h.so j hj (lexC_pos.2 e)
    by_cases e : i = j
    · rw [e]; exact h0
    · exact tr _ _ _ (ih (by omega) (by omega)) h0
/-- The program and the specification tell the same. -/
theorem tur_same {n m m' : Nat} {A H : Nat → OpD} {o : OpD} {G : Nat → Nat → Int} {b b' : Bool} (h1 : TurT n A o m G b) (h2 : TurS n A o m' H b') : b = b' ∧ m = m' ∧ ∀ i, i < m → kV (G i) = kV (H i).key := by
  rcases h1 with ⟨rfl, rfl, hok, hp, hs⟩ | ⟨rfl, rfl, hno⟩
  · rcases h2 with ⟨rfl, rfl, -, -, hI⟩ | ⟨rfl, -, hno⟩
    · refine ⟨rfl, rfl, ?_⟩
      have hperm : (((List.range m').map G).map kV).Perm ((List.range m').map (fun t => kV (H t).key)) := hp.trans hI.pe.symm
      have heq : ((List.range m').map G).map kV = (List.range m').map (fun t => kV (H t).key) := by
        refine List.Perm.eq_of_pairwise (le := leV) ?_ ?_ ?_ hperm
        · intro a b ha hb h1 h2
          obtain ⟨x, y, rfl, rfl, h⟩ := h1
          rw [leV_iff] at h2
          refine kV_inj.2 ?_
          rcases lexC_range 12 x y with e | e | e
          · exact absurd (by omega : lexC 12 x y < 0) h2
          · exact e
          · exact absurd (lexC_pos.1 (by omega : 0 < lexC 12 x y)) h
        · rw [List.pairwise_iff_getElem]
          intro i j hi hj hij
          simp only [List.getElem_map, List.getElem_range]
          simp at hj
          exact leV_iff.2 (hs i j hij hj)
        · rw [List.pairwise_iff_getElem]
          intro i j hi hj hij
          simp only [List.getElem_map, List.getElem_range]
          simp at hj
          exact leV_iff.2 (hI.le i j hij hj)
      intro i hi
      have : (((List.range m').map G).map kV)[i]'(by simp; omega) = ((List.range m').map (fun t => kV (H t).key))[i]'(by simp; omega) := by simp only [heq]
      simpa only [List.getElem_map, List.getElem_range] using this
    · exact absurd hok hno
  · rcases h2 with ⟨rfl, -, -, hok, -⟩ | ⟨rfl, rfl, -⟩
    · exact absurd hok hno
    · exact ⟨rfl, rfl, fun i hi => by omega⟩
end Go.Proofs.YtfmbljmcdidocaaGreat
/-
  The point group by the specification: walked.
-/
namespace Go.Proofs.YtfmbljmcdidocaaGreat
open Go.RowKit

/-- Which turns are new. -/
abbrev dk (A : Nat → OpD) : Nat → Bool := dup (zF (fun i => (A i).key))
theorem z_le {n : Nat} {A : Nat → OpD} (hR : Rises n A) {i j : Nat} (hij : i < j) (hj : j < n) : ¬ 0 < lexC 12 (zk (A i).key) (zk (A j).key) := by
  obtain ⟨p, hp, h1, h2⟩ := lexC_neg.1 (hR.lt hij hj)
  by_cases e : p < 9
  · have : lexC 12 (zk (A i).key) (zk (A j).key) < 0 := lexC_neg.2 ⟨p, hp, fun l hl => by unfold zk; rw [cat_lo _ _ (by omega), cat_lo _ _ (by omega)]; exact h1 l hl, by unfold zk; rw [cat_lo _ _ e, cat_lo _ _ e]; exact h2⟩
    omega
  · have : lexC 12 (zk (A i).key) (zk (A j).key) = 0 := lexC_zero.2 (fun l hl => by
      unfold zk
      by_cases e2 : l < 9
      · rw [cat_lo _ _ e2, cat_lo _ _ e2]; exact h1 l (by omega)
      · obtain ⟨q, rfl⟩ : ∃ q, l = 9 + q := ⟨l - 9, by omega⟩
        rw [cat_hi, cat_hi])
    omega
theorem key_z (o o' : OpD) : lexC 12 (turnD o).key (turnD o').key = lexC 12 (zk o.key) (zk o'.key) := by
  have h : ∀ (o : OpD) j, j < 12 → (turnD o).key j = zk o.key j := fun o => (lexC_zero.1 (kV_inj.1 (zk_key o).symm))
  exact lexC_eq (h o) (h o')
/-- What has been put in. -/
structure PgI (A : Nat → OpD) (i : Nat) (E : Nat → OpD) : Prop where
  eq : ∀ t, t < kN (dk A) i → E t = turnD (A (kI (dk A) i t))
  lt : ∀ t, t < kN (dk A) i → kI (dk A) i t < i
  up : ∀ t, t + 1 < kN (dk A) i → lexC 12 (E t).key (E (t + 1)).key < 0
  last : 0 < i → ∃ t, t < kN (dk A) i ∧ lexC 12 (E t).key (turnD (A (i - 1))).key = 0
  le : ∀ t, t < kN (dk A) i → 0 < i → ¬ 0 < lexC 12 (E t).key (turnD (A (i - 1))).key
theorem PgI.start (A : Nat → OpD) (E : Nat → OpD) : PgI A 0 E := ⟨fun t ht => absurd ht (Nat.not_lt_zero _), fun t ht => absurd ht (Nat.not_lt_zero _), fun t ht => absurd ht (Nat.not_lt_zero _), fun h => absurd h (by omega), fun t ht => absurd ht (Nat.not_lt_zero _)⟩
theorem lexC_same {x y z : Nat → Int} (h : lexC 12 y z = 0) : lexC 12 x y = lexC 12 x z := lexC_eq (fun _ _ => rfl) (lexC_zero.1 h)
/-- One that is there. -/
theorem PgI.skip {A : Nat → OpD} {i : Nat} {E : Nat → OpD} (h : PgI A i E) (hi : 0 < i) (hd : dk A i = false) : PgI A (i + 1) E ∧ ∃ t, t < kN (dk A) i ∧ lexC 12 (E t).key (turnD (A i)).key = 0 := by
  have he : lexC 12 (turnD (A (i - 1))).key (turnD (A i)).key = 0 := by
    rw [key_z]
    have h1 : ¬ (i = 0 ∨ ¬ lexC 12 (zk (A i).key) (zk (A (i - 1)).key) = 0) := of_decide_eq_false hd
    have h2 : lexC 12 (zk (A i).key) (zk (A (i - 1)).key) = 0 := Decidable.byContradiction fun e => h1 (.inr e)
    exact lexC_zero.2 (fun l hl => (lexC_zero.1 h2 l hl).symm)
  have hN := kN_no hd
  obtain ⟨t, ht, e⟩ := h.last hi
  refine ⟨⟨fun t ht => ?_, fun t ht => ?_, fun t ht => ?_, fun _ => ⟨t, by omega, ?_⟩, fun t ht _ => ?_⟩, t, ht, ?_⟩
  · rw [kI_no hd]; exact h.eq t (by omega)
  · rw [kI_no hd]; have := h.lt t (by omega); omega
  · exact h.up t (by omega)
  · rw [show i + 1 - 1 = i by omega, ← lexC_same he]; exact e
  · rw [show i + 1 - 1 = i by omega, ← lexC_same he]; exact h.le t (by omega) hi
  · rw [← lexC_same he]; exact e
/-- A new one: greater than all. -/
theorem PgI.less {n : Nat} {A : Nat → OpD} {i : Nat} {E : Nat → OpD} (hR : Rises n A) (hin : i < n) (h : PgI A i E) (hd : dk A i = true) : ∀ t, t < kN (dk A) i → lexC 12 (E t).key (turnD (A i)).key < 0 := by
  intro t ht
  have hi : 0 < i := by have := h.lt t ht; omega
  have h1 : i = 0 ∨ ¬ lexC 12 (zk (A i).key) (zk (A (i - 1)).key) = 0 := of_decide_eq_true hd
  have h2 : ¬ lexC 12 (zk (A i).key) (zk (A (i - 1)).key) = 0 := by rcases h1 with h1 | h1; omega; exact h1
  have h3 := z_le hR (show i - 1 < i by omega) hin
  have h4 : lexC 12 (zk (A (i - 1)).key) (zk (A i).key) < 0 := by
    rcases lexC_range 12 (zk (A (i - 1)).key) (zk (A i).key) with e | e | e
    · omega
    · exact absurd (lexC_zero.2 (fun l hl => (lexC_zero.1 e l hl).symm)) h2
    · omega
  have h5 : lexC 12 (turnD (A (i - 1))).key (turnD (A i)).key < 0 := by rw [key_z]; exact h4
  have h6 := h.le t ht hi
  rcases lexC_range 12 (E t).key (turnD (A (i - 1))).key with e | e | e
  · exact lexC_trans (by omega) h5
  · have := lexC_eq (n := 12) (f := (E t).key) (f' := (turnD (A (i - 1))).key) (h := (turnD (A i)).key) (h' := (turnD (A i)).key) (lexC_zero.1 e) (fun _ _ => rfl)
    rw [this]; exact h5
  · omega
theorem PgI.add {n : Nat} {A : Nat → OpD} {i : Nat} {E : Nat → OpD} (hR : Rises n A) (hin : i < n) (h : PgI A i E) (hd : dk A i = true) : PgI A (i + 1) (ins (kN (dk A) i) E (turnD (A i))) := by
  have hN := kN_yes hd
  have hl := h.less hR hin hd
  refine ⟨fun t ht => ?_, fun t ht => ?_, fun t ht => ?_, fun _ => ⟨kN (dk A) i, by omega, ?_⟩, fun t ht _ => ?_⟩
  · by_cases e : t = kN (dk A) i
    · rw [e, ins_at, kI_new hd]
    · rw [ins_lo (by omega), kI_old hd (by omega)]; exact h.eq t (by omega)
  · by_cases e : t = kN (dk A) i
    · rw [e, kI_new hd]; omega
    · rw [kI_old hd (by omega)]; have := h.lt t (by omega); omega
  · rw [ins_lo (show t < kN (dk A) i by omega)]
    by_cases e : t + 1 = kN (dk A) i
    · rw [e, ins_at]; exact hl t (by omega)
    · rw [ins_lo (by omega)]; exact h.up t (by omega)
  · rw [ins_at, show i + 1 - 1 = i by omega]; exact lexC_zero.2 (fun _ _ => rfl)
  · rw [show i + 1 - 1 = i by omega]
    by_cases e : t = kN (dk A) i
    · rw [e, ins_at, (lexC_zero (n := 12)).2 (fun _ _ => rfl)]; omega
    · rw [ins_lo (by omega)]; have := hl t (by omega); omega
/-- How the specification's PointGroup ends. -/
def PgE (w : World) (n : Nat) (A : Nat → OpD) (e : Ending) (w' : World) : Prop :=
  (∃ g' m c' H, e = .returned (.slice (some ⟨g', 0, none⟩) m c') ∧ OpsR w' w.heap.size w'.heap.size g' m H ∧ ((isG n A ∧ m = kN (dk A) n ∧ ∀ t, t < m → H t = turnD (A (kI (dk A) n t))) ∨ (¬ isG n A ∧ m = 0))) ∧ Below w.heap.size w w'
theorem arr_up {w w' : World} {lo n : Nat} {v : Value} {f : Nat → Int} (r : Arr w lo w.heap.size v n f) (hb : Below w.heap.size w w') : Arr w' lo w'.heap.size v n f := (r.below hb).wide (Nat.le_refl _) hb.size
theorem arr_zero3 {w W : World} {lo : Nat} (a : At 2 W w.heap.size #[.int .i64 0, .int .i64 0, .int .i64 0]) (hl : lo ≤ w.heap.size) : Arr W lo W.heap.size (.slice (some ⟨w.heap.size, 0, none⟩) 3 3) 3 (fun _ => 0) :=
  .inr ⟨_, 3, rfl, hl, a.lt, ⟨Nat.le_refl _, by unfold maxLen; omega⟩, _, a, rfl, fun i hi => by rcases (by omega : i = 0 ∨ i = 1 ∨ i = 2) with rfl | rfl | rfl <;> rfl⟩
theorem ints_newsP {w : World} {b o n : Nat} {f : Nat → Int} (h : Ints w b o n f) : ∀ j u, (ic f n)[j]? = some u → w.cell? ((⟨b, o, none⟩ : Addr).add j) = some u := by
  intro j u hu
  have hj : j < n := by have := (List.getElem?_eq_some_iff.1 hu).1; simpa [ic] using this
  have e : u = .int .i64 (f j) := by simpa [ic, hj] using hu.symm
  rw [e, Addr.add_lit]
  exact h j hj
theorem ic_one (f : Nat → Int) (n : Nat) : ∀ u ∈ ic f n, u.oneCell' = true := by
  intro u hu
  obtain ⟨i, -, rfl⟩ := List.mem_map.1 hu
  rfl
set_option maxRecDepth 100000 in
set_option maxHeartbeats 6000000 in
theorem specPoint_any {w : World} {g n c : Nat} {A : Nat → OpD} (hL : OpsL w g n A) (hn : n ≤ 1048576) :
    Calls Tryz.prog 37 #[.slice (some ⟨g, 0, none⟩) n c] w fun e w' => PgE w n A e w' := by
  have hbs : ∀ w, (Instr.buildSlice 24 0 #[]).run Tryz.prog w = .ok (.slice (some ⟨w.heap.size, 0, none⟩) 0 0) (w.alloc (.cells #[] 31)) := fun _ => by kernel_rfl
  have hbi : ∀ w, (Instr.buildSlice 29 0 #[]).run Tryz.prog w = .ok (.slice (some ⟨w.heap.size, 0, none⟩) 0 0) (w.alloc (.cells #[] 2)) := fun _ => by kernel_rfl
  obtain ⟨i0, hi0, hz0, hz1, hz2⟩ := info_parts Tryz.info2
  obtain ⟨W2, hW2, a2, B2, -⟩ := boxed w 31 #[]
  obtain ⟨p2, hp2⟩ : ∃ q, w.heap.size = q := ⟨_, rfl⟩
  have o1 : Hid (OpsP W2 w.heap.size (.slice (some ⟨p2, 0, none⟩) 0 0) 0 (fun _ => undef) (fun _ => undef) A) := hp2 ▸ opsP_new a2
  clear a2
  go_enter Tryz.func37, Tryz.ntmps37
  go_wp2_with fail
  refine (groupOk_any (hL.below B2) hn).mono ?_
  rintro e w3 ⟨⟨r, rfl, hr⟩, b3⟩
  have o3 := hid_of (o1.out.below b3)
  replace B2 := B2.trans (b3.mono B2.size)
  clear o1 b3 hW2 hp2
  cases r
  · obtain ⟨g', c', e', H⟩ := o3.out.opsR
    cases e'
    have FI : Hid (PgE w n A (.returned (.slice (some ⟨p2, 0, none⟩) 0 0)) w3) := ⟨⟨_, 0, 0, A, rfl, H, .inr ⟨fun e => absurd (hr.2 e) (by decide), rfl⟩⟩, B2⟩
    clear hr H o3 B2
    go_wp2
    go_ret
    exact FI.out
  have HG := hid_of (hr.1 rfl)
  have h192 : n ≤ 192 := HG.out.1
  have hn' : (n : Int) ≤ 192 := by omega
  have HL : Hid (OpsL w g n A) := hL
  have HI0 : Hid (PgI A 0 A) := PgI.start A A
  clear hr hn hL
  go_wp2
  go_loopw [3, 4] (fun v s wr => ∃ (i : Nat) (X Y : Nat → Value) (E : Nat → OpD), i ≤ n ∧ s = .int .i64 (i : Int) ∧ Hid (OpsP wr w.heap.size v (kN (dk A) i) X Y E) ∧ Hid (PgI A i E) ∧ Below w.heap.size w wr) (fun _ s _ => n - (intOf s).toNat)
  case atStart => exact ⟨0, _, _, A, Nat.zero_le _, rfl, o3, HI0, B2⟩
  case round =>
    clear o3 HI0 B2
    obtain ⟨i, X, Y, E, hi, rfl, own, HI, B⟩ := hrel
    by_cases hlt : i < n
    rotate_left
    · obtain rfl : i = n := by omega
      have hlt' : ¬ (i : Int) < (i : Int) := by omega
      obtain ⟨g', c', e', H⟩ := own.out.opsR
      subst e'
      have FI : Hid (PgE w i A (.returned (.slice (some ⟨g', 0, none⟩) (kN (dk A) i) c')) wr) := ⟨⟨g', _, c', E, rfl, H, .inl ⟨HG.out, rfl, HI.out.eq⟩⟩, B⟩
      clear own HI B H
      go_wp2
      go_ret
      exact FI.out
    have hlt' : (i : Int) < (n : Int) := by omega
    have ok := HG.out.2.1 i hlt
    have hLr := HL.out.below B
    obtain ⟨a1, e1, a2, e2, f1, f2, s3, -⟩ := hLr.2 i hlt
    rw [ok.1] at f1 s3
    rcases s3 with s3 | ⟨bm, om, rfl, lm, Im⟩
    · omega
    have CLi : Hid (∀ wq, Kb wr wq → wq.cell? ⟨g, i * 2, none⟩ = some (.slice (some ⟨bm, om, none⟩) 9 e1)) := fun wq hq => (hq.cell (p := ⟨g, i * 2, none⟩) hLr.1).trans f1
    have CM : Hid (∀ wq, Kb wr wq → Ints wq bm om 9 (A i).f) := fun wq hq => Im.below lm hq
    have HB := hid_of B
    clear f1 f2 Im lm hLr ok B
    have cl := CLi.out wr (Below.refl _ _)
    obtain ⟨Wa, hWa, aa, ba, -⟩ := boxed wr 2 #[]
    obtain ⟨pa, hpa⟩ : ∃ q, wr.heap.size = q := ⟨_, rfl⟩
    have OZ : Hid (IntG Wa wr.heap.size (.slice (some ⟨pa, 0, none⟩) 0 0) 0 (A i).f) := hpa ▸ intG_new aa
    have cla := CLi.out Wa ba
    have lo1 : wr.heap.size ≤ Wa.heap.size := ba.size
    have NW := ints_newsP (CM.out Wa ba)
    clear cl aa
    go_wp2_with (at_builtin; refine Hid.out (?_ : Hid _))
    refine (?_ : wpList _ _ _ _ _ _)
    refine wpList_append_own_at _ rfl _ _ _ rfl wr.heap.size 2 i0 _ 1 8 Tryz.underlying29 hi0 hz0 hz1 hz2 rfl (by omega) (.slice (some ⟨pa, 0, none⟩) 0 0) 0 [] rfl OZ.out.row ⟨bm, om, none⟩ 9 e1 (ic (A i).f 9) rfl rfl NW (ic_one _ _) (by unfold maxLen; omega) (by omega) lo1 ?_
    intro v2 w5 hown2 hgrow2 hne2 _hat
    obtain ⟨gm, cm, ev2, AM, -, -⟩ := (IntG.arr (f := (A i).f) ⟨hown2, fun e => by have := (hne2.1 e).2; omega⟩)
    subst ev2
    have b5 : Below wr.heap.size wr w5 := ba.grown hgrow2 ba.size (fun x hx => ownBlock_ge OZ.out.row hx)
    clear hown2 hgrow2 hne2 _hat OZ cla NW hWa hpa lo1 ba
    obtain ⟨Wb, hWb, ab, bb, -⟩ := boxed w5 2 #[.int .i64 0, .int .i64 0, .int .i64 0]
    have AT := arr_zero3 ab b5.size
    obtain ⟨pb, hpb⟩ : ∃ q, w5.heap.size = q := ⟨_, rfl⟩
    rw [hpb] at AT
    obtain ⟨w7, hW7, Q7, bc, -⟩ := boxed Wb 31 #[.slice (some ⟨gm, 0, none⟩) 9 cm, .slice (some ⟨pb, 0, none⟩) 3 3]
    obtain ⟨q7, hq7'⟩ : ∃ q, Wb.heap.size = q := ⟨_, rfl⟩
    rw [hq7'] at Q7
    have b5b := b5.trans (bb.mono b5.size)
    have b7 : Below wr.heap.size wr w7 := b5b.trans (bc.mono b5b.size)
    have hq7 : wr.heap.size ≤ q7 := by rw [← hq7']; exact b5b.size
    have t1 := arr_up (arr_up AM bb) bc
    have t2 := arr_up AT bc
    clear AM AT b5 b5b ab bb bc CLi CM
    have B7 := HB.out.trans (b7.mono HB.out.size)
    have own7 := own.out.below b7
    obtain ⟨g7, c7, e7, hg7, hLG⟩ := own7.opsL
    subst e7
    replace t1 := t1.wide HB.out.size (Nat.le_refl _)
    replace t2 := t2.wide HB.out.size (Nat.le_refl _)
    obtain ⟨_, _, ee1, sx1⟩ := t1.src
    obtain ⟨_, _, ee2, sx2⟩ := t2.src
    cases ee1
    cases ee2
    have hkn := kN_le (dk A) i
    obtain ⟨kk, hkk⟩ : ∃ m, kN (dk A) i = m := ⟨_, rfl⟩
    have HKK := hid_of hkk
    have EOK : ∀ t, t < kk → (E t).ok := fun t ht => by
      rw [HI.out.eq t (by omega)]
      have h1 := HI.out.lt t (by omega)
      have ok := HG.out.2.1 _ (show kI (dk A) i t < n by omega)
      exact ⟨rfl, rfl, ok.2.2.1, fun j _ => by show (0 : Int) ≤ 0 ∧ (0 : Int) < 24; omega, ok.2.2.2.2⟩
    rw [hkk] at own7 hLG hkn ⊢
    obtain ⟨z0, z1, -⟩ := Q7.open2
    clear own hkk b7
    go_wp2_with fail
    refine (l4At_any hLG EOK sx1 sx2 (by omega)).mono ?_
    rintro e w8 ⟨vv, rfl, hat, b8⟩
    have own8 := hid_of (own7.below b8)
    have T1 := hid_of (arr_up t1 b8)
    have T2 := hid_of (arr_up t2 b8)
    have Q8 := Q7.below b8
    have B8 := B7.trans (b8.mono B7.size)
    clear own7 hLG t1 t2 z0 z1 Q7 sx1 sx2 B7 b8 EOK
    have hRis : Hid (Rises kk E) := fun t ht => HI.out.up t (by have := HKK.out; omega)
    cases hd : dk A i
    · have hi0' : 0 < i := by
        rcases Nat.eq_zero_or_pos i with e | e
        · subst e; cases hd
        · exact e
      obtain ⟨HI2, t, ht, het⟩ := HI.out.skip hi0' hd
      have hN := kN_no hd
      have OF : Hid (OpsP w8 w.heap.size (.slice (some ⟨g7, 0, none⟩) kk c7) (kN (dk A) (i + 1)) X Y E) := by rw [hN, HKK.out]; exact own8.out
      have HIF := hid_of HI2
      rcases hat with ⟨-, hno⟩ | ⟨t', rfl, ht', he'⟩
      · exact absurd het (hno hRis.out t (by have := HKK.out; omega))
      have ht0 : ¬ (t' : Int) < 0 := by omega
      clear own8 T1 T2 Q8 HI HI2 het hN hRis he' hd
      go_wp2
      exact ⟨⟨i + 1, X, Y, E, by omega, by go_num, OF, HIF, B8⟩, by simp [intOf]; omega⟩
    have hless := HI.out.less HG.out.2.2.1 hlt hd
    rw [HKK.out] at hless
    have HLS := hid_of hless
    rcases hat with ⟨rfl, -⟩ | ⟨t', rfl, ht', he'⟩
    rotate_left
    · have h1 := hless t' ht'
      have h2 : lexC 12 (E t').key (turnD (A i)).key = 0 := he'
      omega
    have HID := hid_of (HI.out.add HG.out.2.2.1 hlt hd)
    rw [HKK.out] at HID
    have hN := kN_yes hd
    rw [HKK.out] at hN
    have HN := hid_of hN
    obtain ⟨z0, z1, -⟩ := Q8.open2
    clear hless hd hN
    go_wp2_with fail
    refine (l4Put_any (o := turnD (A i)) own8.out B8.size T1.out T2.out ⟨rfl, rfl⟩ (by omega)).mono ?_
    rintro e w10 ⟨v10, cI, rfl, P8⟩
    obtain rfl : cI = kk := by
      rcases Nat.lt_or_ge cI kk with h1 | h1
      · have h2 := P8.over cI (Nat.le_refl _) h1
        have h3 := HLS.out cI h1
        omega
      · have := P8.le; omega
    have OF : Hid (OpsP w10 w.heap.size v10 (kN (dk A) (i + 1)) (ins cI X (.slice (some ⟨gm, 0, none⟩) 9 cm)) (ins cI Y (.slice (some ⟨pb, 0, none⟩) 3 3)) (ins cI E (turnD (A i)))) := by rw [HN.out]; exact P8.ops
    have BF : Below w.heap.size w w10 := B8.grown P8.grown B8.size (fun q hq => by
      simp only [Value.ownBlock, Option.some.injEq] at hq
      omega)
    clear P8 own8 T1 T2 Q8 B8 z0 z1 HI hRis HLS HN HB
    go_wp2
    exact ⟨⟨i + 1, _, _, _, by omega, by go_num, OF, HID, BF⟩, by simp [intOf]; omega⟩
end Go.Proofs.YtfmbljmcdidocaaGreat
