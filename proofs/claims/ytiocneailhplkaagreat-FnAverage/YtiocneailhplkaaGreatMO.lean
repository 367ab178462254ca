/-
  Lists of operators of a function's own: marked, held. Walked.
-/
import Derived.Test.YtiocneailhplkaaGreatMI
import Derived.Test.YtiocneailhplkaaGreatMA
namespace Go.Proofs.YtiocneailhplkaaGreat
open Go.RowKit

/-- How many numbers the first i have. -/
def totN (A : Nat → OpD) : Nat → Nat
  | 0 => 0
  | i + 1 => totN A i + (A i).n + (A i).k
theorem totN_mono (A : Nat → OpD) {i j : Nat} (h : i ≤ j) : totN A i ≤ totN A j := by
  induction j with
  | zero => have : i = 0 := by omega
            rw [this]; exact Nat.le_refl _
  | succ j ih =>
    by_cases e : i = j + 1
    · rw [e]; exact Nat.le_refl _
    · have := ih (by omega); simp only [totN]; omega
/-- No two of the lists share a block. -/
def AllApart (n : Nat) (X Y : Nat → Value) : Prop := (∀ i j, i < n → j < n → i ≠ j → Apart (X i) (X j) ∧ Apart (Y i) (Y j)) ∧ ∀ i j, i < n → j < n → Apart (X i) (Y j)
/-- A list of operators of one's own, in blocks from lo up to hi. -/
structure OpsA (w : World) (lo hi g n : Nat) (X Y : Nat → Value) (A : Nat → OpD) : Prop where
  blk : lo ≤ g ∧ g < hi ∧ ∃ cur, At 57 w g cur ∧ ∀ i, i < n → cur[i * 2]? = some (X i) ∧ cur[i * 2 + 1]? = some (Y i)
  xs : ∀ i, i < n → Arr w lo hi (X i) (A i).n (A i).f
  ys : ∀ i, i < n → Arr w lo hi (Y i) (A i).k (A i).h
  dj : AllApart n X Y
theorem OpsA.below {w w' : World} {lo hi g n : Nat} {X Y : Nat → Value} {A : Nat → OpD} (h : OpsA w lo hi g n X Y A) (hb : Below w.heap.size w w') : OpsA w' lo hi g n X Y A := by
  obtain ⟨h1, h2, cur, h3, h4⟩ := h.blk
  exact ⟨⟨h1, h2, cur, h3.below hb, h4⟩, fun i hi => (h.xs i hi).below hb, fun i hi => (h.ys i hi).below hb, h.dj⟩
theorem arr_ne_block {w : World} {lo hi : Nat} {v : Value} {n g : Nat} {f : Nat → Int} {cur : Array Value} (h : Arr w lo hi v n f) (a : At 57 w g cur) : v.ownBlock ≠ some g := by
  rcases h with ⟨rfl, -⟩ | ⟨g', c, rfl, -, -, -, cur', h1, -⟩
  · intro e; cases e
  · intro e
    simp only [Value.ownBlock, Option.some.injEq] at e
    subst e
    have := (show w.heap[g']? = _ from h1).symm.trans (show w.heap[g']? = _ from a)
    simp at this
/-- Marks: from x on. -/
def marked (A : Nat → OpD) (x : Nat) (i : Nat) : OpD := ⟨(A i).n, fun j => (x + totN A i + j : Nat), (A i).k, fun j => (x + totN A i + (A i).n + j : Nat)⟩
/-- The first i are marked. -/
def upTo (A : Nat → OpD) (x i : Nat) : Nat → OpD := fun t => if t < i then marked A x t else A t
theorem upTo_n (A : Nat → OpD) (x i t : Nat) : (upTo A x i t).n = (A t).n ∧ (upTo A x i t).k = (A t).k := by
  unfold upTo; split <;> exact ⟨rfl, rfl⟩
theorem OpsA.mark1 {w w' : World} {lo hi g n : Nat} {X Y : Nat → Value} {A A' : Nat → OpD} {i : Nat} (h : OpsA w lo hi g n X Y A) (hi' : i < n) (ho : Only (X i) w w') (hm : Arr w' lo hi (X i) (A' i).n (A' i).f) (he : ∀ t, t ≠ i → A' t = A t) (hk : (A' i).k = (A i).k ∧ (A' i).h = (A i).h) : OpsA w' lo hi g n X Y A' := by
  obtain ⟨h1, h2, cur, h3, h4⟩ := h.blk
  refine ⟨⟨h1, h2, cur, (ho.block g h3.lt (arr_ne_block (h.xs i hi') h3)).trans h3, h4⟩, fun t ht => ?_, fun t ht => ?_, h.dj⟩
  · by_cases e : t = i
    · rw [e]; exact hm
    · rw [he t e]; exact (h.xs t ht).only ho (h.dj.1 i t hi' ht (fun e' => e e'.symm)).1
  · have := (h.ys t ht).only ho (h.dj.2 i t hi' ht)
    by_cases e : t = i
    · rw [e] at this ⊢; rw [hk.1, hk.2]; exact this
    · rw [he t e]; exact this
theorem OpsA.mark2 {w w' : World} {lo hi g n : Nat} {X Y : Nat → Value} {A A' : Nat → OpD} {i : Nat} (h : OpsA w lo hi g n X Y A) (hi' : i < n) (ho : Only (Y i) w w') (hm : Arr w' lo hi (Y i) (A' i).k (A' i).h) (he : ∀ t, t ≠ i → A' t = A t) (hk : (A' i).n = (A i).n ∧ (A' i).f = (A i).f) : OpsA w' lo hi g n X Y A' := by
  obtain ⟨h1, h2, cur, h3, h4⟩ := h.blk
  refine ⟨⟨h1, h2, cur, (ho.block g h3.lt (arr_ne_block (h.ys i hi') h3)).trans h3, h4⟩, fun t ht => ?_, fun t ht => ?_, h.dj⟩
  · have := (h.xs t ht).only ho (h.dj.2 t i ht hi').symm
    by_cases e : t = i
    · rw [e] at this ⊢; rw [hk.1, hk.2]; exact this
    · rw [he t e]; exact this
  · by_cases e : t = i
    · rw [e]; exact hm
    · rw [he t e]; exact (h.ys t ht).only ho (h.dj.1 i t hi' ht (fun e' => e e'.symm)).2
theorem OpsA.cells {w : World} {lo hi g n : Nat} {X Y : Nat → Value} {A : Nat → OpD} (h : OpsA w lo hi g n X Y A) {i : Nat} (hi' : i < n) : w.cell? ⟨g, i * 2, none⟩ = some (X i) ∧ w.cell? ⟨g, i * 2 + 1, none⟩ = some (Y i) := by
  obtain ⟨h1, h2, cur, h3, h4⟩ := h.blk
  exact ⟨h3.cell _ (h4 i hi').1, h3.cell _ (h4 i hi').2⟩
set_option maxRecDepth 100000 in
set_option maxHeartbeats 800000 in
theorem markOpS_any {w : World} {lo hi g n c : Nat} {X Y : Nat → Value} {A : Nat → OpD} (h : OpsA w lo hi g n X Y A) (hn : n ≤ 1048576) (ht : totN A n ≤ 1048576) (x : Nat) (hx : x ≤ 1000000) :
    Calls Tryz.prog 19 #[.slice (some ⟨g, 0, none⟩) n c, .int .i64 (x : Int)] w fun e w' => e = .returned (.int .i64 ((x + totN A n : Nat) : Int)) ∧ OpsA w' lo hi g n X Y (marked A x) ∧ Turn lo hi w w' := by
  have hn' : (n : Int) ≤ 1048576 := by omega
  go_enter Tryz.func19, Tryz.ntmps19
  go_wp2
  go_loopw [1, 5] (fun k s wr => ∃ i : Nat, i ≤ n ∧ s = .int .i64 i ∧ k = .int .i64 ((x + totN A i : Nat) : Int) ∧ OpsA wr lo hi g n X Y (upTo A x i) ∧ Turn lo hi w wr) (fun _ s _ => n - (intOf s).toNat)
  case atStart => exact ⟨0, Nat.zero_le _, rfl, rfl, h, .of_below (Below.refl _ _)⟩
  case round =>
    obtain ⟨i, hi', rfl, rfl, H, T⟩ := hrel
    by_cases hlt : i < n
    · have hlt' : (i : Int) < (n : Int) := by omega
      have hui : upTo A x i i = A i := by simp [upTo]
      have hx1 := H.xs i hlt
      rw [hui] at hx1
      obtain ⟨N, hN⟩ : ∃ N, (A i).n = N := ⟨_, rfl⟩
      obtain ⟨K, hK⟩ : ∃ N, (A i).k = N := ⟨_, rfl⟩
      obtain ⟨z, hz⟩ : ∃ z, x + totN A i = z := ⟨_, rfl⟩
      have hlen : totN A i + N + K ≤ 1048576 := by
        have := totN_mono A (show i + 1 ≤ n by omega)
        simp only [totN, hN, hK] at this
        omega
      have hnext : Hid (x + totN A (i + 1) = z + N + K) := by show _ = _; simp only [totN, hN, hK]; omega
      rw [hN] at hx1
      obtain ⟨d1, e1, hX, -⟩ := hx1.src
      have hX' : Hid (X i = .slice d1 N e1) := hX
      obtain ⟨c0, c1⟩ := H.cells hlt
      rw [hX] at c0 hx1
      clear hX
      have hz' : Hid (x + totN A i = z) := hz
      rw [hz]
      clear hz c1
      go_wp2_with fail
      refine (markArr_any hx1 (by omega) z (by have := hz'.out; omega)).mono ?_
      rintro e w3 ⟨rfl, m1, o3⟩
      have T3 := T.trans (Turn.of_only o3 hx1)
      rw [← hX'.out] at m1 o3
      obtain ⟨A1, hA1⟩ : ∃ A1 : Nat → OpD, A1 = fun t => if t = i then ⟨N, fun j => (z + j : Nat), K, (A i).h⟩ else upTo A x i t := ⟨_, rfl⟩
      have hA1i : A1 i = ⟨N, fun j => (z + j : Nat), K, (A i).h⟩ := by rw [hA1]; simp
      have hA1t : ∀ t, t ≠ i → A1 t = upTo A x i t := fun t e => by rw [hA1]; simp [e]
      have H1 : OpsA w3 lo hi g n X Y A1 := H.mark1 hlt o3 (by rw [hA1i]; exact m1) hA1t (by rw [hA1i, hui]; exact ⟨hK.symm, rfl⟩)
      clear H m1 o3 hx1 c0 T
      have hy1 := H1.ys i hlt
      rw [hA1i] at hy1
      change Arr w3 lo hi (Y i) K (A i).h at hy1
      obtain ⟨d2, e2, hY, -⟩ := hy1.src
      have hY' : Hid (Y i = .slice d2 K e2) := hY
      obtain ⟨c0, c1⟩ := H1.cells hlt
      rw [hY] at c1 hy1
      clear hY c0
      go_wp2_with fail
      refine (markArr_any hy1 (by omega) (z + N) (by have := hz'.out; omega)).mono ?_
      rintro e w4 ⟨rfl, m2, o4⟩
      have T4 := T3.trans (Turn.of_only o4 hy1)
      rw [← hY'.out] at m2 o4
      have hu2 : upTo A x (i + 1) i = ⟨N, fun j => (z + j : Nat), K, fun j => (z + N + j : Nat)⟩ := by
        simp only [upTo, Nat.lt_succ_self, if_true, marked, hN, hK, hz'.out]
      have H2 : OpsA w4 lo hi g n X Y (upTo A x (i + 1)) := H1.mark2 hlt o4 (by rw [hu2]; exact m2) (fun t e => by
        rw [hA1t t e]
        unfold upTo
        by_cases h : t < i
        · rw [if_pos h, if_pos (by omega)]
        · rw [if_neg h, if_neg (by omega)]) (by rw [hu2, hA1i]; exact ⟨rfl, rfl⟩)
      clear H1 m2 o4 hy1 c1 T3
      go_wp2
      refine ⟨⟨i + 1, by omega, by go_num, ?_, H2, T4⟩, by simp [intOf]; omega⟩
      rw [hnext.out]
      go_num
    · obtain rfl : i = n := by omega
      have hlt' : ¬ (i : Int) < (i : Int) := by omega
      have H' : OpsA wr lo hi g i X Y (marked A x) := by
        refine ⟨H.blk, fun t ht' => ?_, fun t ht' => ?_, H.dj⟩
        · have := H.xs t ht'; unfold upTo at this; rwa [if_pos ht'] at this
        · have := H.ys t ht'; unfold upTo at this; rwa [if_pos ht'] at this
      go_wp2
      go_ret
      exact ⟨rfl, H', T⟩
end Go.Proofs.YtiocneailhplkaaGreat
/-
  Lists of operators of a function's own: held. Walked.
-/
namespace Go.Proofs.YtiocneailhplkaaGreat
open Go.RowKit

theorem OpsA.opsL {w : World} {lo hi g n : Nat} {X Y : Nat → Value} {A : Nat → OpD} (h : OpsA w lo hi g n X Y A) : OpsL w g n A := by
  obtain ⟨h1, h2, cur, h3, h4⟩ := h.blk
  refine ⟨h3.lt, fun i hi' => ?_⟩
  obtain ⟨a, c, e, s⟩ := (h.xs i hi').src
  obtain ⟨b, d, e', s'⟩ := (h.ys i hi').src
  exact ⟨a, c, b, d, by rw [← e]; exact h3.cell _ (h4 i hi').1, by rw [← e']; exact h3.cell _ (h4 i hi').2, s, s'⟩
theorem OpsA.turn {w w' : World} {lo hi a b g n : Nat} {X Y : Nat → Value} {A : Nat → OpD} (h : OpsA w a b g n X Y A) (ht : Turn lo hi w w') (hd : b ≤ lo ∨ hi ≤ a) : OpsA w' a b g n X Y A := by
  obtain ⟨h1, h2, cur, h3, h4⟩ := h.blk
  exact ⟨⟨h1, h2, cur, h3.turn ht (by omega), h4⟩, fun i hi' => (h.xs i hi').turn ht hd, fun i hi' => (h.ys i hi').turn ht hd, h.dj⟩
end Go.Proofs.YtiocneailhplkaaGreat
/-
  Lists of operators taken over into a function's own memory. Walked.
-/
namespace Go.Proofs.YtiocneailhplkaaGreat
open Go.RowKit

/-- A block of n operators, of which the first k are laid, each in memory of its own. -/
def LaidA (w : World) (g n k : Nat) (X Y : Nat → Value) (A : Nat → OpD) : Prop :=
  (∃ cur : Array Value, At 57 w g cur ∧ cur.size = n * 2 ∧ ∀ i, i < k → cur[i * 2]? = some (X i) ∧ cur[i * 2 + 1]? = some (Y i)) ∧
  (∀ i, i < k → Arr w g w.heap.size (X i) (A i).n (A i).f) ∧ (∀ i, i < k → Arr w g w.heap.size (Y i) (A i).k (A i).h) ∧ AllApart k X Y
theorem LaidA.below {w w' : World} {g n k : Nat} {X Y : Nat → Value} {A : Nat → OpD} (h : LaidA w g n k X Y A) (hb : Below w.heap.size w w') : LaidA w' g n k X Y A := by
  obtain ⟨⟨cur, h1, h2, h3⟩, h4, h5, h6⟩ := h
  exact ⟨⟨cur, h1.below hb, h2, h3⟩, fun i hi => ((h4 i hi).below hb).wide (Nat.le_refl _) hb.size, fun i hi => ((h5 i hi).below hb).wide (Nat.le_refl _) hb.size, h6⟩
theorem LaidA.cells {w : World} {g n k j : Nat} {X Y : Nat → Value} {A : Nat → OpD} (h : LaidA w g n k X Y A) (hj : j < n * 2) : w.cell? ⟨g, j, none⟩ = some (cv w g j) ∧ w.frozen? ⟨g, j, none⟩ = false := by
  obtain ⟨⟨cur, h1, h2, h3⟩, -⟩ := h
  have hl : j < cur.size := by omega
  have := h1.cell j (Array.getElem?_eq_getElem hl)
  exact ⟨by rw [cv, this]; rfl, h1.frozen j⟩
theorem Arr.set {w : World} {lo hi g i : Nat} {v u : Value} {n : Nat} {f : Nat → Int} {cur : Array Value} (h : Arr w lo hi v n f) (a : At 57 w g cur) : Arr (w.setCell ⟨g, i, none⟩ u) lo hi v n f := by
  have hne := arr_ne_block h a
  rcases h with h | ⟨g', c, rfl, h1, h2, h3, cur', h4, h5⟩
  · exact .inl h
  · have e : g' ≠ g := fun e => hne (by rw [e]; rfl)
    exact .inr ⟨g', c, rfl, h1, h2, h3, cur', (Below.heap_setCell _ _ _ _ e).trans h4, h5⟩
theorem size_setCell (w : World) (a : Addr) (v : Value) : (w.setCell a v).heap.size = w.heap.size := by simp [World.setCell]
theorem LaidA.put {wr w : World} {g n k : Nat} {X Y : Nat → Value} {A : Nat → OpD} {v1 v2 : Value} (h : LaidA wr g n k X Y A) (hb : Below wr.heap.size wr w) (hk : k < n) (s1 : Arr w wr.heap.size w.heap.size v1 (A k).n (A k).f) (s2 : Arr w wr.heap.size w.heap.size v2 (A k).k (A k).h) (ap : Apart v1 v2) :
    ∃ X' Y', LaidA ((w.setCell ⟨g, k * 2, none⟩ v1).setCell ⟨g, k * 2 + 1, none⟩ v2) g n (k + 1) X' Y' A := by
  have hgl : g < wr.heap.size := by obtain ⟨⟨cur, h1, -⟩, -⟩ := h; exact h1.lt
  obtain ⟨⟨cur, h1, h2, h3⟩, h4, h5, h6⟩ := h
  have a0 := h1.below hb
  have a1 := a0.set (k * 2) v1
  have a2 := a1.set (k * 2 + 1) v2
  have hsz : ((w.setCell ⟨g, k * 2, none⟩ v1).setCell ⟨g, k * 2 + 1, none⟩ v2).heap.size = w.heap.size := by rw [size_setCell, size_setCell]
  have up : ∀ {lo hi : Nat} {v : Value} {m : Nat} {f : Nat → Int}, Arr w lo hi v m f → Arr ((w.setCell ⟨g, k * 2, none⟩ v1).setCell ⟨g, k * 2 + 1, none⟩ v2) lo hi v m f := fun r => (r.set a0).set a1
  have ax : ∀ i, i < k → ∀ {u : Value} {m : Nat} {f : Nat → Int}, Arr w wr.heap.size w.heap.size u m f → Apart (X i) u ∧ Apart (Y i) u := fun i hi _ _ _ r => ⟨(h4 i hi).apart r (.inl (Nat.le_refl _)), (h5 i hi).apart r (.inl (Nat.le_refl _))⟩
  refine ⟨fun i => if i = k then v1 else X i, fun i => if i = k then v2 else Y i, ⟨_, a2, by simpa using h2, fun i hi => ?_⟩, fun i hi => ?_, fun i hi => ?_, ⟨fun i j hi hj hij => ?_, fun i j hi hj => ?_⟩⟩
  · by_cases e : i = k
    · subst e
      simp only [if_true]
      refine ⟨?_, ?_⟩
      · rw [Array.getElem?_setIfInBounds, if_neg (by omega), Array.getElem?_setIfInBounds, if_pos rfl, if_pos (by omega)]
      · rw [Array.getElem?_setIfInBounds, if_pos rfl, if_pos (by simp; omega)]
    · simp only [if_neg e]
      obtain ⟨e1, e2⟩ := h3 i (by omega)
      refine ⟨?_, ?_⟩
      · rw [Array.getElem?_setIfInBounds, if_neg (by omega), Array.getElem?_setIfInBounds, if_neg (by omega)]; exact e1
      · rw [Array.getElem?_setIfInBounds, if_neg (by omega), Array.getElem?_setIfInBounds, if_neg (by omega)]; exact e2
  · rw [hsz]
    by_cases e : i = k
    · subst e; simp only [if_true]; exact (up s1).wide (by omega) (Nat.le_refl _)
    · simp only [if_neg e]; exact up (((h4 i (by omega)).below hb).wide (Nat.le_refl _) hb.size)
  · rw [hsz]
    by_cases e : i = k
    · subst e; simp only [if_true]; exact (up s2).wide (by omega) (Nat.le_refl _)
    · simp only [if_neg e]; exact up (((h5 i (by omega)).below hb).wide (Nat.le_refl _) hb.size)
  · by_cases e : i = k
    · by_cases e' : j = k
      · omega
      · simp only [if_pos e, if_neg e']; exact ⟨(ax j (by omega) s1).1.symm, (ax j (by omega) s2).2.symm⟩
    · by_cases e' : j = k
      · simp only [if_pos e', if_neg e]; exact ⟨(ax i (by omega) s1).1, (ax i (by omega) s2).2⟩
      · simp only [if_neg e', if_neg e]; exact h6.1 i j (by omega) (by omega) hij
  · by_cases e : i = k
    · by_cases e' : j = k
      · simp only [if_pos e, if_pos e']; exact ap
      · simp only [if_pos e, if_neg e']; exact (ax j (by omega) s1).2.symm
    · by_cases e' : j = k
      · simp only [if_pos e', if_neg e]; exact (ax i (by omega) s2).1
      · simp only [if_neg e', if_neg e]; exact h6.2 i j (by omega) (by omega)
theorem LaidA.opsA {w : World} {g n : Nat} {X Y : Nat → Value} {A : Nat → OpD} (h : LaidA w g n n X Y A) : OpsA w g w.heap.size g n X Y A := by
  obtain ⟨⟨cur, h1, h2, h3⟩, h4, h5, h6⟩ := h
  exact ⟨⟨Nat.le_refl _, h1.lt, cur, h1, h3⟩, h4, h5, h6⟩
set_option maxRecDepth 100000 in
set_option maxHeartbeats 800000 in
theorem toOpS_own {w : World} {a : Option Addr} {n cap : Nat} {A : Nat → OpD} (hS : OpsS w a n A) (hn : Short n A) :
    Calls Tryz.prog 15 #[.slice a n cap] w fun e w' => ∃ X Y, e = .returned (.slice (some ⟨w.heap.size, 0, none⟩) n n) ∧ OpsA w' w.heap.size w'.heap.size w.heap.size n X Y A ∧ Below w.heap.size w w' := by
  have hn0 := hn.1
  have hn' : (n : Int) ≤ 1048576 := by omega
  obtain ⟨C, hC, -, hmk⟩ := make_ops n hn0
  obtain ⟨W1, hW1, a1, B1, -⟩ := boxed w 57 C
  have L1 : LaidA W1 w.heap.size n 0 (fun _ => .slice none 0 0) (fun _ => .slice none 0 0) A := ⟨⟨C, a1, hC, fun i hi => by omega⟩, fun i hi => by omega, fun i hi => by omega, fun i j hi => by omega, fun i j hi => by omega⟩
  go_enter Tryz.func15, Tryz.ntmps15
  go_wp2
  clear hmk hW1 a1
  go_loopw [4] (fun s wr => ∃ (k : Nat) (X Y : Nat → Value), k ≤ n ∧ s = .int .i64 k ∧ LaidA wr w.heap.size n k X Y A ∧ Below w.heap.size w wr) (fun s _ => n - (intOf s).toNat)
  case atStart => exact ⟨0, _, _, Nat.zero_le _, rfl, L1, B1⟩
  case round =>
    clear L1 B1
    obtain ⟨k, X, Y, hk, rfl, L, B⟩ := hrel
    by_cases hlt : k < n
    · have hlt' : (k : Int) < (n : Int) := by omega
      rcases hS.below B with h0 | ⟨g, off, rfl, hg, rr⟩
      · omega
      obtain ⟨x, c, y, d, e1, e2, s1, s2, m1, m2⟩ := rr k hlt
      have hsh := hn.2 k hlt
      obtain ⟨N, hN⟩ : ∃ N, (A k).n = N := ⟨_, rfl⟩
      obtain ⟨K, hK⟩ : ∃ N, (A k).k = N := ⟨_, rfl⟩
      rw [hN] at e1 m1 s1 hsh
      rw [hK] at e2 m2 s2 hsh
      clear rr
      go_wp2_with fail
      refine (toOp_any s1 s2 hsh.1 hsh.2).mono ?_
      rintro e w3 ⟨o, rfl, o3, b3⟩
      have L3 := L.below b3
      have B3 := B.trans (b3.mono B.size)
      obtain ⟨v1, v2, rfl, r1, r2, ap⟩ := o3
      obtain ⟨x1, d1, rfl, -⟩ := r1.src
      obtain ⟨x2, d2, rfl, -⟩ := r2.src
      obtain ⟨c0, f0⟩ := L3.cells (j := k * 2) (by omega)
      obtain ⟨c1, f1⟩ := L3.cells (j := k * 2 + 1) (by omega)
      rw [← hN] at r1 ap ⊢
      rw [← hK] at r2 ap ⊢
      obtain ⟨X', Y', HL0⟩ := L.put b3 hlt r1 r2 ap
      have HL : Hid (LaidA ((w3.setCell ⟨w.heap.size, k * 2, none⟩ (.slice x1 (A k).n d1)).setCell ⟨w.heap.size, k * 2 + 1, none⟩ (.slice x2 (A k).k d2)) w.heap.size n (k + 1) X' Y' A) := HL0
      clear L L3 HL0 ap r1 r2 s1 s2 e1 e2 m1 m2 b3 hN hK hsh
      generalize (A k).n = N' at *
      generalize (A k).k = K' at *
      go_wp2
      refine ⟨⟨k + 1, X', Y', by omega, by go_num, HL.out, (B3.setCell (Nat.le_refl w.heap.size) _).setCell (Nat.le_refl w.heap.size) _⟩, by simp [intOf]; omega⟩
    · have hlt' : ¬ (k : Int) < (n : Int) := by omega
      obtain rfl : k = n := by omega
      have HO : Hid (OpsA wr w.heap.size wr.heap.size w.heap.size k X Y A) := L.opsA
      clear L
      go_wp2
      go_ret
      exact ⟨rfl, ⟨X, Y, HO.out⟩, B⟩
end Go.Proofs.YtiocneailhplkaaGreat
