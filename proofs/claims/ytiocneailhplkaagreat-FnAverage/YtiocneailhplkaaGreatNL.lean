/-
  Drawn groups being spoiled: walked.
-/
import Derived.Test.YtiocneailhplkaaGreatNJ
import Derived.Test.YtiocneailhplkaaGreatNK
namespace Go.Proofs.YtiocneailhplkaaGreat
open Go.RowKit

theorem below0_dr {w0 w : World} {p : Nat} {a : Option Addr} {len cap : Nat} (hc : Dr w0 p a len cap w) :
    Calls Tryz.prog 23 #[.pointer (some ⟨p, 0, none⟩), .int .i64 0] w fun e w' => e = .returned (.int .i64 0) ∧ Dr w0 p a len cap w' := by
  go_enter Tryz.func23, Tryz.ntmps23
  go_wp2
  go_ret
  exact ⟨rfl, hc⟩
/-- All blocks from lo on stay as they are. -/
def Upon (lo : Nat) (w w' : World) : Prop := w.heap.size ≤ w'.heap.size ∧ ∀ b, lo ≤ b → b < w.heap.size → w'.heap[b]? = w.heap[b]?
theorem Upon.of_kept {lo p : Nat} {w w' : World} (hk : Kept p w w') (hp : p < lo) : Upon lo w w' := ⟨hk.size, fun b h1 h2 => hk.block b h2 (by omega)⟩
theorem Upon.trans {lo : Nat} {w w' w'' : World} (h : Upon lo w w') (h' : Upon lo w' w'') : Upon lo w w'' := ⟨Nat.le_trans h.1 h'.1, fun b h1 h2 => (h'.2 b h1 (by have := h.1; omega)).trans (h.2 b h1 h2)⟩
theorem Upon.set {lo q i : Nat} {w : World} (hq : q < lo) (v : Value) : Upon lo w (w.setCell ⟨q, i, none⟩ v) := ⟨by simp [World.setCell], fun b h1 h2 => Below.heap_setCell _ _ _ _ (by show b ≠ q; omega)⟩
theorem Upon.below {lo : Nat} {w w' : World} (hb : Below w.heap.size w w') : Upon lo w w' := ⟨hb.size, fun b _ h2 => hb.block b h2⟩
theorem ints_upon {lo g off n : Nat} {w w' : World} {f : Nat → Int} (h : Ints w g off n f) (hk : Upon lo w w') (h1 : lo ≤ g) (h2 : g < w.heap.size) : Ints w' g off n f := fun j hj => (World.cell?_of_block (w := w) (hk.2 g h1 h2)).trans (h j hj)
theorem SrcLo.upon {w w' : World} {lo x : Nat} {a : Option Addr} {n : Nat} {f : Nat → Int} (h : SrcLo w lo x a n f) (hk : Upon lo w w') : Src w' a n f := by
  rcases h with h | ⟨g, off, e, l, u, i⟩
  · exact .inl h
  · exact .inr ⟨g, off, e, Nat.lt_of_lt_of_le u hk.1, ints_upon i hk l.1 u⟩
theorem arr_upon {w w' : World} {lo hi m : Nat} {u : Value} {f : Nat → Int} (r : Arr w lo hi u m f) (hk : Upon lo w w') : ∃ x d, u = .slice x m d ∧ Src w' x m f := by
  rcases r with ⟨rfl, rfl⟩ | ⟨g', c, rfl, h1, h2, h3, cur, h4, h5⟩
  · exact ⟨none, 0, rfl, .inl rfl⟩
  · have h4' : At 2 w' g' cur := (hk.2 g' h1 h4.lt).trans h4
    refine ⟨_, _, rfl, .inr ⟨g', 0, rfl, h4'.lt, fun j hj => ?_⟩⟩
    have := h4'.cell j (h5.2 j hj)
    simpa using this
theorem OpsP.upon {w w' : World} {lo n g c : Nat} {X Y : Nat → Value} {A : Nat → OpD} (h : OpsP w lo (.slice (some ⟨g, 0, none⟩) n c) n X Y A) (hk : Upon lo w w') : OpsL w' g n A := by
  obtain ⟨g', c', cur, e, hl, at1, hc⟩ := h.open
  cases e
  have at2 : At 57 w' g cur := (hk.2 g hl at1.lt).trans at1
  refine ⟨at2.lt, fun i hi => ?_⟩
  obtain ⟨x1, d1, e1, t1⟩ := arr_upon (h.xs i hi) hk
  obtain ⟨x2, d2, e2, t2⟩ := arr_upon (h.ys i hi) hk
  obtain ⟨k1, k2⟩ := h.nk i hi
  exact ⟨x1, d1, x2, d2, by rw [k1, ← e1]; exact at2.cell _ (hc i hi).1, by rw [k2, ← e2]; exact at2.cell _ (hc i hi).2, by rw [k1]; exact t1, by rw [k2]; exact t2⟩
/-- What is told of a spoiled group. -/
def SpoE (w0 : World) (p : Nat) (a : Option Addr) (len cap : Nat) (e : Ending) (w' : World) : Prop :=
  ∃ g n c A, e = .returned (.slice (some ⟨g, 0, none⟩) n c) ∧ n ≤ 193 ∧ OpsL w' g n A ∧ Dr w0 p a len cap w' ∧ (∀ w'', Upon w0.heap.size w' w'' → OpsL w'' g n A) ∧ ∀ i, i < n → (A i).n ≤ 9 ∧ (A i).k ≤ 9
theorem nk_le {n : Nat} {A : Nat → OpD} (h : ∀ i, i < n → (A i).n = 9 ∧ (A i).k = 3) : ∀ i, i < n → (A i).n ≤ 9 ∧ (A i).k ≤ 9 := fun i hi => by
  obtain ⟨h1, h2⟩ := h i hi
  omega
theorem OpsP.stays {w : World} {lo n g c : Nat} {X Y : Nat → Value} {A : Nat → OpD} (h : OpsP w lo (.slice (some ⟨g, 0, none⟩) n c) n X Y A) : ∀ w'', Upon lo w w'' → OpsL w'' g n A := fun _ hk => h.upon hk
theorem OpsG.opsP {w : World} {lo n : Nat} {v : Value} {X Y : Nat → Value} {A : Nat → OpD} (h : OpsG w lo v n X Y A) (ok : ∀ i, i < n → (A i).ok) : OpsP w lo v n X Y A :=
  ⟨h.row, h.nn, fun i hi => by have := h.xs i hi; rwa [(ok i hi).1] at this, fun i hi => by have := h.ys i hi; rwa [(ok i hi).2.1] at this, fun i hi => ⟨(ok i hi).1, (ok i hi).2.1⟩⟩
theorem arr_fr {w w' : World} {p x1 x2 lo hi n : Nat} {v : Value} {f : Nat → Int} (r : Arr w lo hi v n f) (F : Fr p x1 x2 w w') (hp : p < lo) (h1 : ∀ j, v.ownBlock = some j → j ≠ x1 ∧ j ≠ x2) : Arr w' lo hi v n f := by
  rcases r with r | ⟨g, c, rfl, l1, l2, l3, cur, a, e⟩
  · exact .inl r
  · exact .inr ⟨g, c, rfl, l1, l2, l3, cur, (F.2 g a.lt (by omega) (h1 g rfl).1 (h1 g rfl).2).trans a, e⟩
theorem row_blkAt {w : World} {lo n : Nat} {v : Value} {xs : List Value} (h : w.ownsRow lo 57 2 v n xs) (hv : v ≠ .slice none 0 0) : ∀ k, v.ownBlock = some k → ∃ cur, At 57 w k cur := fun k hk => by
  rcases h.2 with ⟨h1, _⟩ | ⟨g, c, cur, e, _, hh, _⟩
  · exact absurd h1 hv
  · subst e
    obtain rfl : g = k := Option.some.inj hk
    exact ⟨cur, hh⟩
theorem pc_one {w : World} {lo n : Nat} {v : Value} {X Y : Nat → Value} {A : Nat → OpD} (P : OpsP w lo v n X Y A) : ∀ u ∈ pc X Y n, u.oneCell' = true := by
  intro u hu
  obtain ⟨j, hj, rfl⟩ := List.getElem_of_mem hu
  rw [pc_len] at hj
  obtain ⟨t, e⟩ : ∃ t, j = t * 2 ∨ j = t * 2 + 1 := ⟨j / 2, by omega⟩
  obtain ⟨p1, p2⟩ := pc_get X Y (show t < n by omega)
  rcases e with rfl | rfl
  · have := (List.getElem?_eq_some_iff.1 p1).2
    rw [this]
    obtain ⟨a, c, e, -⟩ := (P.xs t (by omega)).src
    rw [e]; rfl
  · have := (List.getElem?_eq_some_iff.1 p2).2
    rw [this]
    obtain ⟨a, c, e, -⟩ := (P.ys t (by omega)).src
    rw [e]; rfl
/-- The list without its place k. -/
theorem pc_cut (X Y : Nat → Value) {n k : Nat} (hk : k < n) : (pc X Y n).take (k * 2) ++ (pc X Y n).drop ((k + 1) * 2) = pc (fun i => if i < k then X i else X (i + 1)) (fun i => if i < k then Y i else Y (i + 1)) (n - 1) := by
  refine List.ext_getElem? fun j => ?_
  obtain ⟨t, e⟩ : ∃ t, j = t * 2 ∨ j = t * 2 + 1 := ⟨j / 2, by omega⟩
  by_cases ht : t < n - 1
  · obtain ⟨q1, q2⟩ := pc_get (fun i => if i < k then X i else X (i + 1)) (fun i => if i < k then Y i else Y (i + 1)) ht
    by_cases hlt : t < k
    · obtain ⟨p1, p2⟩ := pc_get X Y (show t < n by omega)
      rcases e with rfl | rfl
      · rw [q1, List.getElem?_append_left (by rw [List.length_take, pc_len]; omega), List.getElem?_take, if_pos (by omega), p1, if_pos hlt]
      · rw [q2, List.getElem?_append_left (by rw [List.length_take, pc_len]; omega), List.getElem?_take, if_pos (by omega), p2, if_pos hlt]
    · obtain ⟨p1, p2⟩ := pc_get X Y (show t + 1 < n by omega)
      have hl : ((pc X Y n).take (k * 2)).length = k * 2 := by rw [List.length_take, pc_len]; omega
      rcases e with rfl | rfl
      · rw [q1, List.getElem?_append_right (by omega), hl, List.getElem?_drop, show (k + 1) * 2 + (t * 2 - k * 2) = (t + 1) * 2 by omega, p1, if_neg hlt]
      · rw [q2, List.getElem?_append_right (by omega), hl, List.getElem?_drop, show (k + 1) * 2 + (t * 2 + 1 - k * 2) = (t + 1) * 2 + 1 by omega, p2, if_neg hlt]
  · rw [List.getElem?_eq_none (by rw [List.length_append, List.length_take, List.length_drop, pc_len]; omega), List.getElem?_eq_none (by rw [pc_len]; omega)]
theorem pc_cell {w : World} {lo n g c j : Nat} {X Y : Nat → Value} {A : Nat → OpD} {u : Value} (P : OpsP w lo (.slice (some ⟨g, 0, none⟩) n c) n X Y A) (h : (pc X Y n)[j]? = some u) : w.cell? ⟨g, j, none⟩ = some u := by
  have hj : j < n * 2 := by
    have := (List.getElem?_eq_some_iff.1 h).1
    rwa [pc_len] at this
  exact own_cell P.row hj h
theorem own_fits {w : World} {base g n c m size : Nat} {e : TypeId} {xs : List Value} (h : w.ownsRow base e size (.slice (some ⟨g, 0, none⟩) n c) m xs) : n ≤ c := by
  rcases h.2 with ⟨h1, _⟩ | ⟨g', c', cur, e, _, _, h3, h4, _⟩
  · cases h1
  · cases e; exact h3
theorem own_lower {w : World} {base base' n size : Nat} {e : TypeId} {v : Value} {xs : List Value} (h : w.ownsRow base e size v n xs) (hb : base' ≤ base) : w.ownsRow base' e size v n xs := by
  refine ⟨h.1, h.2.imp id ?_⟩
  rintro ⟨g, c, cur, e, h1, r⟩
  exact ⟨g, c, cur, e, Nat.le_trans hb h1, r⟩
theorem add_at (g q j : Nat) : (⟨g, q, none⟩ : Addr).add j = ⟨g, q + j, none⟩ := by
  unfold Addr.add
  split <;> simp_all
theorem cut_lo {w : World} {lo n g c k : Nat} {X Y : Nat → Value} {A : Nat → OpD} (P : OpsP w lo (.slice (some ⟨g, 0, none⟩) n c) n X Y A) : ∀ (j : Nat) (u : Value), ((pc X Y n).take k)[j]? = some u → w.cell? ((⟨g, 0, none⟩ : Addr).add j) = some u := fun j u hu => by
  rw [List.getElem?_take] at hu
  split at hu
  · rw [add_at, Nat.zero_add]; exact pc_cell P hu
  · cases hu
theorem cut_hi {w : World} {lo n g c k : Nat} {X Y : Nat → Value} {A : Nat → OpD} (P : OpsP w lo (.slice (some ⟨g, 0, none⟩) n c) n X Y A) : ∀ (j : Nat) (u : Value), ((pc X Y n).drop k)[j]? = some u → w.cell? ((⟨g, k, none⟩ : Addr).add j) = some u := fun j u hu => by
  rw [List.getElem?_drop] at hu
  rw [add_at]; exact pc_cell P hu
theorem cut_hi2 {w : World} {lo n g c k q : Nat} {X Y : Nat → Value} {A : Nat → OpD} (P : OpsP w lo (.slice (some ⟨g, 0, none⟩) n c) n X Y A) (hq : n = k + 1 ∨ q = (k + 1) * 2) : ∀ (j : Nat) (u : Value), ((pc X Y n).drop ((k + 1) * 2))[j]? = some u → w.cell? ((⟨g, q, none⟩ : Addr).add j) = some u := fun j u hu => by
  rcases hq with rfl | rfl
  · rw [List.getElem?_eq_none (by rw [List.length_drop, pc_len]; omega)] at hu
    cases hu
  · exact cut_hi P j u hu
theorem spoE_cut {w0 w : World} {p g n c k m : Nat} {a : Option Addr} {len cap : Nat} {v : Value} {X Y : Nat → Value} {A : Nat → OpD} (D : Dr w0 p a len cap w) (P : OpsP w w0.heap.size (.slice (some ⟨g, 0, none⟩) n c) n X Y A) (hk : k < n) (hn : n ≤ 192) (hm : m = n - 1) (hown : w.ownsRow w0.heap.size 57 2 v m ((pc X Y n).take (k * 2) ++ (pc X Y n).drop ((k + 1) * 2))) (hv : v ≠ .slice none 0 0) : SpoE w0 p a len cap (.returned v) w := by
  subst hm
  rw [pc_cut X Y hk] at hown
  have Q : OpsP w w0.heap.size v (n - 1) (fun i => if i < k then X i else X (i + 1)) (fun i => if i < k then Y i else Y (i + 1)) (fun i => if i < k then A i else A (i + 1)) := by
    refine ⟨hown, hv, fun i hi => ?_, fun i hi => ?_, fun i hi => ?_⟩
    · show Arr _ _ _ (if i < k then X i else X (i + 1)) 9 (if i < k then A i else A (i + 1)).f
      split
      · exact P.xs i (by omega)
      · exact P.xs (i + 1) (by omega)
    · show Arr _ _ _ (if i < k then Y i else Y (i + 1)) 3 (if i < k then A i else A (i + 1)).h
      split
      · exact P.ys i (by omega)
      · exact P.ys (i + 1) (by omega)
    · show (if i < k then A i else A (i + 1)).n = 9 ∧ (if i < k then A i else A (i + 1)).k = 3
      split
      · exact P.nk i (by omega)
      · exact P.nk (i + 1) (by omega)
  obtain ⟨g', c', e, -, L⟩ := Q.opsL
  subst e
  exact ⟨g', n - 1, c', _, rfl, by omega, L, D, Q.stays, nk_le Q.nk⟩
theorem spoE_push {w0 wa wb : World} {p n : Nat} {a : Option Addr} {len cap : Nat} {v v' x y : Value} {X Y : Nat → Value} {A : Nat → OpD} {o : OpD} (own : OpsP wa w0.heap.size v n X Y A) (dr : Dr w0 p a len cap wa) (hp : p < w0.heap.size) (hn : n ≤ 192) (r1 : Arr wa w0.heap.size wa.heap.size x 9 o.f) (r2 : Arr wa w0.heap.size wa.heap.size y 3 o.h) (ho : o.n = 9 ∧ o.k = 3) (hg : wa.grownBy wb v.ownBlock) (hrow : wb.ownsRow w0.heap.size 57 2 v' (n + 1) (pc X Y n ++ [x, y])) (hne : v' ≠ .slice none 0 0) : SpoE w0 p a len cap (.returned v') wb := by
  have hge : ∀ k, v.ownBlock = some k → w0.heap.size ≤ k := fun k hk => ownBlock_ge own.row hk
  have Q := own.snoc r1 r2 ho hg hrow hne
  obtain ⟨g, c, e, -, L⟩ := Q.opsL
  subst e
  exact ⟨g, n + 1, c, _, rfl, by omega, L, dr.grown hg hge hp, Q.stays, nk_le Q.nk⟩
/-- A list with its cells, and what they name. -/
theorem opsL_put {W : World} {g n k : Nat} {cur : Array Value} {X Y : Nat → Value} {A : Nat → OpD} (e : ∀ i, i < n → cur[i * 2]? = some (X i) ∧ cur[i * 2 + 1]? = some (Y i)) (nk : ∀ i, i < n → (A i).n = 9 ∧ (A i).k = 3) {a1 b1 : Option Addr} {n1 c1 k1 d1 : Nat} {f1 h1 : Nat → Int} (hk : k < n) (A3 : At 57 W g ((cur.setIfInBounds (k * 2) (.slice a1 n1 c1)).setIfInBounds (k * 2 + 1) (.slice b1 k1 d1))) (xs : ∀ i, i < n → i ≠ k → ∃ x d, X i = .slice x 9 d ∧ Src W x 9 (A i).f) (ys : ∀ i, i < n → i ≠ k → ∃ x d, Y i = .slice x 3 d ∧ Src W x 3 (A i).h) (s1 : Src W a1 n1 f1) (s2 : Src W b1 k1 h1) : OpsL W g n (fun i => if i = k then ⟨n1, f1, k1, h1⟩ else A i) := by
  have z1 : k * 2 < cur.size := (Array.getElem?_eq_some_iff.1 (e k hk).1).1
  have z2 : k * 2 + 1 < cur.size := (Array.getElem?_eq_some_iff.1 (e k hk).2).1
  refine ⟨A3.lt, fun i hi => ?_⟩
  by_cases hik : i = k
  · subst hik
    simp only [if_pos]
    refine ⟨a1, c1, b1, d1, A3.cell _ ?_, A3.cell _ ?_, s1, s2⟩
    · rw [Array.getElem?_setIfInBounds, if_neg (by omega), Array.getElem?_setIfInBounds, if_pos rfl, if_pos z1]
    · rw [Array.getElem?_setIfInBounds, if_pos rfl, if_pos (by simpa using z2)]
  · simp only [if_neg hik]
    obtain ⟨x1, d1', e1, t1⟩ := xs i hi hik
    obtain ⟨x2, d2', e2, t2⟩ := ys i hi hik
    obtain ⟨q1, q2⟩ := nk i hi
    refine ⟨x1, d1', x2, d2', ?_, ?_, by rw [q1]; exact t1, by rw [q2]; exact t2⟩
    · rw [q1, ← e1]
      refine A3.cell _ ?_
      rw [Array.getElem?_setIfInBounds, if_neg (by omega), Array.getElem?_setIfInBounds, if_neg (by omega)]
      exact (e i hi).1
    · rw [q2, ← e2]
      refine A3.cell _ ?_
      rw [Array.getElem?_setIfInBounds, if_neg (by omega), Array.getElem?_setIfInBounds, if_neg (by omega)]
      exact (e i hi).2
/-- A place of the list is written anew. -/
theorem spoE_put {w0 W : World} {p g n c k : Nat} {a : Option Addr} {len cap hi : Nat} {cur : Array Value} {X Y : Nat → Value} {A : Nat → OpD} (at1 : At 57 W g cur) (e : ∀ i, i < n → cur[i * 2]? = some (X i) ∧ cur[i * 2 + 1]? = some (Y i)) (xs : ∀ i, i < n → i ≠ k → Arr W w0.heap.size hi (X i) 9 (A i).f) (ys : ∀ i, i < n → i ≠ k → Arr W w0.heap.size hi (Y i) 3 (A i).h) (nk : ∀ i, i < n → (A i).n = 9 ∧ (A i).k = 3) {a1 b1 : Option Addr} {n1 c1 k1 d1 : Nat} {f1 h1 : Nat → Int} (s1 : SrcLo W w0.heap.size g a1 n1 f1) (s2 : SrcLo W w0.heap.size g b1 k1 h1) (D : Dr w0 p a len cap W) (hg : w0.heap.size ≤ g) (hp : p < w0.heap.size) (hk : k < n) (hn : n ≤ 192) (hz : n1 ≤ 9 ∧ k1 ≤ 9) : SpoE w0 p a len cap (.returned (.slice (some ⟨g, 0, none⟩) n c)) ((W.setCell ⟨g, k * 2, none⟩ (.slice a1 n1 c1)).setCell ⟨g, k * 2 + 1, none⟩ (.slice b1 k1 d1)) := by
  have A2 := at1.set (k * 2) (.slice a1 n1 c1)
  have A3 := A2.set (k * 2 + 1) (.slice b1 k1 d1)
  have XS : ∀ i, i < n → i ≠ k → Arr ((W.setCell ⟨g, k * 2, none⟩ (.slice a1 n1 c1)).setCell ⟨g, k * 2 + 1, none⟩ (.slice b1 k1 d1)) w0.heap.size hi (X i) 9 (A i).f := fun i hi hik => ((xs i hi hik).set (i := k * 2) (u := .slice a1 n1 c1) at1).set (i := k * 2 + 1) (u := .slice b1 k1 d1) A2
  have YS : ∀ i, i < n → i ≠ k → Arr ((W.setCell ⟨g, k * 2, none⟩ (.slice a1 n1 c1)).setCell ⟨g, k * 2 + 1, none⟩ (.slice b1 k1 d1)) w0.heap.size hi (Y i) 3 (A i).h := fun i hi hik => ((ys i hi hik).set (i := k * 2) (u := .slice a1 n1 c1) at1).set (i := k * 2 + 1) (u := .slice b1 k1 d1) A2
  have S1 := (s1.set (.inl rfl) (j := k * 2) (.slice a1 n1 c1)).set (.inl rfl) (j := k * 2 + 1) (.slice b1 k1 d1)
  have S2 := (s2.set (.inl rfl) (j := k * 2) (.slice a1 n1 c1)).set (.inl rfl) (j := k * 2 + 1) (.slice b1 k1 d1)
  refine ⟨g, n, c, fun i => if i = k then ⟨n1, f1, k1, h1⟩ else A i, rfl, by omega, opsL_put e nk hk A3 (fun i hi hik => (XS i hi hik).src) (fun i hi hik => (YS i hi hik).src) S1.src S2.src, (D.set hg hp _).set hg hp _, fun w'' hkk => ?_, fun i hi => ?_⟩
  · exact opsL_put e nk hk ((hkk.2 g hg A3.lt).trans A3) (fun i hi hik => arr_upon (XS i hi hik) hkk) (fun i hi hik => arr_upon (YS i hi hik) hkk) (S1.upon hkk) (S2.upon hkk)
  · by_cases hik : i = k
    · simp only [if_pos hik]; exact hz
    · simp only [if_neg hik]
      have := nk i hi
      omega
/-- The first two places of the list are changed. -/
theorem opsL_swap {W : World} {g n : Nat} {cur : Array Value} {X Y : Nat → Value} {A : Nat → OpD} (e : ∀ i, i < n → cur[i * 2]? = some (X i) ∧ cur[i * 2 + 1]? = some (Y i)) (nk : ∀ i, i < n → (A i).n = 9 ∧ (A i).k = 3) (h1 : 1 < n) (A5 : At 57 W g ((((cur.setIfInBounds 0 (X 1)).setIfInBounds 1 (Y 1)).setIfInBounds 2 (X 0)).setIfInBounds 3 (Y 0))) (xs : ∀ i, i < n → ∃ x d, X i = .slice x 9 d ∧ Src W x 9 (A i).f) (ys : ∀ i, i < n → ∃ x d, Y i = .slice x 3 d ∧ Src W x 3 (A i).h) : OpsL W g n (fun i => if i = 0 then A 1 else if i = 1 then A 0 else A i) := by
  have z3 : 1 * 2 + 1 < cur.size := (Array.getElem?_eq_some_iff.1 (e 1 h1).2).1
  refine ⟨A5.lt, fun i hi => ?_⟩
  have fin : ∀ (j : Nat), j < n → ((((cur.setIfInBounds 0 (X 1)).setIfInBounds 1 (Y 1)).setIfInBounds 2 (X 0)).setIfInBounds 3 (Y 0))[i * 2]? = some (X j) → ((((cur.setIfInBounds 0 (X 1)).setIfInBounds 1 (Y 1)).setIfInBounds 2 (X 0)).setIfInBounds 3 (Y 0))[i * 2 + 1]? = some (Y j) → ∃ a c b d, W.cell? ⟨g, i * 2, none⟩ = some (.slice a (A j).n c) ∧ W.cell? ⟨g, i * 2 + 1, none⟩ = some (.slice b (A j).k d) ∧ Src W a (A j).n (A j).f ∧ Src W b (A j).k (A j).h := by
    intro j hj q1 q2
    obtain ⟨x1, d1, f1, t1⟩ := xs j hj
    obtain ⟨x2, d2, f2, t2⟩ := ys j hj
    obtain ⟨k1, k2⟩ := nk j hj
    exact ⟨x1, d1, x2, d2, by rw [k1, ← f1]; exact A5.cell _ q1, by rw [k2, ← f2]; exact A5.cell _ q2, by rw [k1]; exact t1, by rw [k2]; exact t2⟩
  by_cases i0 : i = 0
  · subst i0
    exact fin 1 h1 (by rw [Array.getElem?_setIfInBounds, if_neg (by omega), Array.getElem?_setIfInBounds, if_neg (by omega), Array.getElem?_setIfInBounds, if_neg (by omega), Array.getElem?_setIfInBounds, if_pos rfl, if_pos (by omega)]) (by rw [Array.getElem?_setIfInBounds, if_neg (by omega), Array.getElem?_setIfInBounds, if_neg (by omega), Array.getElem?_setIfInBounds, if_pos rfl, if_pos (by simp; omega)])
  · by_cases i1 : i = 1
    · subst i1
      exact fin 0 (by omega) (by rw [Array.getElem?_setIfInBounds, if_neg (by omega), Array.getElem?_setIfInBounds, if_pos rfl, if_pos (by simp; omega)]) (by rw [Array.getElem?_setIfInBounds, if_pos rfl, if_pos (by simp; omega)])
    · simp only [if_neg i0, if_neg i1]
      refine fin i hi ?_ ?_
      · rw [Array.getElem?_setIfInBounds, if_neg (by omega), Array.getElem?_setIfInBounds, if_neg (by omega), Array.getElem?_setIfInBounds, if_neg (by omega), Array.getElem?_setIfInBounds, if_neg (by omega)]
        exact (e i hi).1
      · rw [Array.getElem?_setIfInBounds, if_neg (by omega), Array.getElem?_setIfInBounds, if_neg (by omega), Array.getElem?_setIfInBounds, if_neg (by omega), Array.getElem?_setIfInBounds, if_neg (by omega)]
        exact (e i hi).2
theorem spoE_swap {w0 W : World} {p g n c : Nat} {a : Option Addr} {len cap : Nat} {X Y : Nat → Value} {A : Nat → OpD} (P : OpsP W w0.heap.size (.slice (some ⟨g, 0, none⟩) n c) n X Y A) (D : Dr w0 p a len cap W) (hg : w0.heap.size ≤ g) (hp : p < w0.heap.size) (h1 : 1 < n) (hn : n ≤ 192) {v0 v1 v2 v3 : Value} (e0 : X 0 = v0) (e1 : Y 0 = v1) (e2 : X 1 = v2) (e3 : Y 1 = v3) : SpoE w0 p a len cap (.returned (.slice (some ⟨g, 0, none⟩) n c)) ((((W.setCell ⟨g, 0, none⟩ v2).setCell ⟨g, 1, none⟩ v3).setCell ⟨g, 2, none⟩ v0).setCell ⟨g, 3, none⟩ v1) := by
  subst e0 e1 e2 e3
  obtain ⟨_, _, cur, es, -, at1, e⟩ := P.open
  cases es
  have A2 := at1.set 0 (X 1)
  have A3 := A2.set 1 (Y 1)
  have A4 := A3.set 2 (X 0)
  have A5 := A4.set 3 (Y 0)
  have XS : ∀ i, i < n → Arr ((((W.setCell ⟨g, 0, none⟩ (X 1)).setCell ⟨g, 1, none⟩ (Y 1)).setCell ⟨g, 2, none⟩ (X 0)).setCell ⟨g, 3, none⟩ (Y 0)) w0.heap.size W.heap.size (X i) 9 (A i).f := fun i hi => ((((P.xs i hi).set at1).set A2).set A3).set A4
  have YS : ∀ i, i < n → Arr ((((W.setCell ⟨g, 0, none⟩ (X 1)).setCell ⟨g, 1, none⟩ (Y 1)).setCell ⟨g, 2, none⟩ (X 0)).setCell ⟨g, 3, none⟩ (Y 0)) w0.heap.size W.heap.size (Y i) 3 (A i).h := fun i hi => ((((P.ys i hi).set at1).set A2).set A3).set A4
  refine ⟨g, n, c, fun i => if i = 0 then A 1 else if i = 1 then A 0 else A i, rfl, by omega, opsL_swap e P.nk h1 A5 (fun i hi => (XS i hi).src) (fun i hi => (YS i hi).src), (((D.set hg hp _).set hg hp _).set hg hp _).set hg hp _, fun w'' hkk => ?_, fun i hi => ?_⟩
  · exact opsL_swap e P.nk h1 ((hkk.2 g hg A5.lt).trans A5) (fun i hi => arr_upon (XS i hi) hkk) (fun i hi => arr_upon (YS i hi) hkk)
  · have a0 := nk_le P.nk 0 (by omega)
    have a1 := nk_le P.nk 1 (by omega)
    have ai := nk_le P.nk i hi
    simp only
    split
    · exact a1
    · split
      · exact a0
      · exact ai
set_option maxRecDepth 100000 in
set_option maxHeartbeats 3000000 in
theorem spoil4_dr {w0 w : World} {p g n c : Nat} {a : Option Addr} {len cap : Nat} {H : Nat → OpD} (D : Dr w0 p a len cap w) (hlt : p < w0.heap.size) (hn : n ≤ 192) (hgl : w0.heap.size ≤ g) (HL : OpsL w g n H) (HG : 0 < n → ∃ X Y, OpsG w w0.heap.size (.slice (some ⟨g, 0, none⟩) n c) n X Y H ∧ ∀ i, i < n → (H i).ok) :
    Calls Tryz.prog 52 #[.pointer (some ⟨p, 0, none⟩), .slice (some ⟨g, 0, none⟩) n c] w (SpoE w0 p a len cap) := by
  have hbs : ∀ w, (Instr.buildSlice 27 0 #[]).run Tryz.prog w = .ok (.slice (some ⟨w.heap.size, 0, none⟩) 0 0) (w.alloc (.cells #[] 57)) := fun _ => by kernel_rfl
  obtain ⟨i0, hi0, hz0, hz1, hz2⟩ := info_parts Tryz.info57
  by_cases h0 : n = 0
  · subst h0
    clear HG hbs hi0 hz0 hz1 hz2
    go_enter Tryz.func52, Tryz.ntmps52
    go_wp2_with fail
    refine (below0_dr (Dr.start D.2)).mono ?_
    rintro e w1 ⟨rfl, D1⟩
    have N : Hid (SpoE w0 p a len cap (.returned (.slice (some ⟨g, 0, none⟩) 0 c)) w1) := ⟨g, 0, c, H, rfl, by omega, ⟨Nat.lt_of_lt_of_le HL.1 D1.1.size, fun i hi => by omega⟩, D1.from D.1, fun w'' hk => ⟨Nat.lt_of_lt_of_le HL.1 (Nat.le_trans D1.1.size hk.1), fun i hi => by omega⟩, fun i hi => by omega⟩
    clear HL D1 D
    go_wp2
    go_ret
    exact N.out
  have hn0 : (n : Int) ≠ 0 := by omega
  obtain ⟨X, Y, G, ok⟩ := HG (by omega)
  clear HG HL
  go_enter Tryz.func52, Tryz.ntmps52
  go_wp2_with fail
  refine (below_dr (Dr.start D.2) n (by omega) (by omega)).mono ?_
  rintro e w1 ⟨k0, rfl, hk0, hk1, D1⟩
  replace G := G.cur D1.1 hlt
  replace D1 := D1.from D.1
  clear D
  obtain ⟨k, rfl⟩ := Int.eq_ofNat_of_zero_le hk0
  have hk : k < n := by omega
  have hn0' : ((n : Int) == 0) = false := by simp; omega
  go_wp2_with fail
  refine (below_dr (Dr.start D1.2) 5 (by omega) (by omega)).mono ?_
  rintro e w2 ⟨q, rfl, hq0, hq1, D2⟩
  replace G := G.cur D2.1 hlt
  replace D2 := D2.from D1.1
  clear D1 hn0 hn0'
  have P := G.opsP ok
  rcases (by omega : q = 0 ∨ q = 1 ∨ q = 2 ∨ q = 3 ∨ q = 4) with rfl | rfl | rfl | rfl | rfl
  · clear G
    obtain ⟨u0, hu0, bb⟩ : ∃ uu, w2.drew = uu ∧ Below w2.heap.size w2 uu := ⟨_, rfl, (Below.refl _ _).drew⟩
    have P0 := P.below bb
    have D0 := D2.below bb
    clear P D2 bb
    go_wp2_with fail
    refine wp_region_held_drew (S := Kb u0) (by kernel_rfl) (by rw [hu0]; exact Below.refl _ _) (fun hHeld => ?_)
    rw [hu0] at hHeld ⊢
    clear hu0
    have bu : Kb u0 u0 := Below.refl _ _
    have hk1' : (k : Int) + 1 ≤ (n : Int) := by omega
    have hnc : n ≤ c := own_fits P0.row
    have hcm : c ≤ maxLen := own_room P0.row
    have hkc : ¬ c < k := by omega
    have hwr : IntKind.i64.wrap ((k : Int) + 1) = (k : Int) + 1 := IntWalk.i64_in _ (by omega)
    have hk2' : (0 : Int) ≤ (k : Int) + 1 := by omega
    obtain ⟨q, hqe, hqn⟩ : ∃ q, (if c = k + 1 then some (⟨g, 0, none⟩ : Addr) else some ⟨g, (k + 1) * 2, none⟩) = some ⟨g, q, none⟩ ∧ (n = k + 1 ∨ q = (k + 1) * 2) := by
      by_cases e : c = k + 1
      · exact ⟨0, if_pos e, .inl (by omega)⟩
      · exact ⟨_, if_neg e, .inr rfl⟩
    change wpAnyH _ _ _ _ _ 11 #[false, false, false, false, false, false, false, false, false, false, false] _ _
    refine wpAnyH_take (i := 1) (v := .slice (some ⟨g, 0, none⟩) n c) rfl (by kernel_rfl) (by kernel_rfl) (by kernel_rfl) (fun _ _ _ h => h) (Or.inl ⟨by kernel_rfl, ?_⟩) hHeld ?_
    · intro w' hSw; go_simp; try go_num
    try simp only [Act.put, List.setIfInBounds_toArray, List.set_cons_zero, List.set_cons_succ, List.getElem_toArray, List.getElem_cons_succ, List.getElem_cons_zero]
    refine wpAnyH_take (i := 2) (v := .int .i64 (k : Int)) rfl (by kernel_rfl) (by kernel_rfl) (by kernel_rfl) (fun _ _ _ h => h) (Or.inl ⟨by kernel_rfl, ?_⟩) hHeld ?_
    · intro w' hSw; go_simp; try go_num
    try simp only [Act.put, List.setIfInBounds_toArray, List.set_cons_zero, List.set_cons_succ, List.getElem_toArray, List.getElem_cons_succ, List.getElem_cons_zero]
    refine wpAnyH_take (i := 3) (v := .slice (some ⟨g, 0, none⟩) k c) rfl (by kernel_rfl) (by kernel_rfl) (by kernel_rfl) (fun _ _ _ h => h) (Or.inl ⟨by kernel_rfl, ?_⟩) hHeld ?_
    · intro w' hSw; go_simp; try go_num
    try simp only [Act.put, List.setIfInBounds_toArray, List.set_cons_zero, List.set_cons_succ, List.getElem_toArray, List.getElem_cons_succ, List.getElem_cons_zero]
    refine wpAnyH_take (i := 5) (v := .slice (some ⟨g, 0, none⟩) n c) rfl (by kernel_rfl) (by kernel_rfl) (by kernel_rfl) (fun _ _ _ h => h) (Or.inl ⟨by kernel_rfl, ?_⟩) hHeld ?_
    · intro w' hSw; go_simp; try go_num
    try simp only [Act.put, List.setIfInBounds_toArray, List.set_cons_zero, List.set_cons_succ, List.getElem_toArray, List.getElem_cons_succ, List.getElem_cons_zero]
    refine wpAnyH_take (i := 6) (v := .int .i64 (k : Int)) rfl (by kernel_rfl) (by kernel_rfl) (by kernel_rfl) (fun _ _ _ h => h) (Or.inl ⟨by kernel_rfl, ?_⟩) hHeld ?_
    · intro w' hSw; go_simp; try go_num
    try simp only [Act.put, List.setIfInBounds_toArray, List.set_cons_zero, List.set_cons_succ, List.getElem_toArray, List.getElem_cons_succ, List.getElem_cons_zero]
    refine wpAnyH_take (i := 7) (v := .int .i64 ((k : Int) + 1)) rfl (by kernel_rfl) (by kernel_rfl) (by kernel_rfl) (fun _ _ _ h => h) (Or.inl ⟨by kernel_rfl, ?_⟩) hHeld ?_
    · intro w' hSw; go_simp; try go_num
    try simp only [Act.put, List.setIfInBounds_toArray, List.set_cons_zero, List.set_cons_succ, List.getElem_toArray, List.getElem_cons_succ, List.getElem_cons_zero]
    refine wpAnyH_take (i := 8) (v := .slice (some ⟨g, q, none⟩) (n - (k + 1)) (c - (k + 1))) rfl (by kernel_rfl) (by kernel_rfl) (by kernel_rfl) (fun _ _ _ h => h) (Or.inl ⟨by kernel_rfl, ?_⟩) hHeld ?_
    · intro w' hSw; go_simp; try go_num
    try simp only [Act.put, List.setIfInBounds_toArray, List.set_cons_zero, List.set_cons_succ, List.getElem_toArray, List.getElem_cons_succ, List.getElem_cons_zero]
    refine wpAnyH_ready (rs := [0]) (by kernel_rfl) (by simp) ?_
    refine AllReadyH.cons rfl (fun KK hK' => ?_) AllReadyH.nil
    go_simp
    obtain ⟨u1, hUU, A9, bb, -⟩ := boxed u0 57 #[]
    try rw [hUU]
    have R0 : u1.ownsRow u0.heap.size 57 2 (.slice (some ⟨u0.heap.size, 0, none⟩) 0 0) 0 [] := ⟨rfl, .inr ⟨_, 0, #[], rfl, Nat.le_refl _, A9, Nat.le_refl _, Nat.zero_le _, rfl, rfl⟩⟩
    have P1 := P0.below bb
    have D1 := D0.below bb
    replace bu : Kb u0 u1 := bu.trans (bb.mono bu.size)
    have hgu : g < u0.heap.size := P0.lt.2
    clear bb hUU A9 P0 D0
    clear hHeld
    refine hK'.out _ _ bu (fun hHeld => ?_)
    clear hK' KK
    try simp only [List.setIfInBounds_toArray, List.set_cons_zero]
    refine wpAnyH_ready (rs := [4]) (by kernel_rfl) (by simp) ?_
    refine AllReadyH.cons rfl (fun KK hK' => ?_) AllReadyH.nil
    have hs1 : u0.heap.size ≤ u1.heap.size := bu.size
    refine step_append_at _ (by rfl) _ _ _ (by rfl) u0.heap.size 57 i0 _ 2 48 Tryz.underlying27 hi0 hz0 hz1 hz2 rfl (by omega) (.slice (some ⟨u0.heap.size, 0, none⟩) 0 0) 0 [] (by rfl) R0 ⟨g, 0, none⟩ k c ((pc X Y n).take (k * 2)) (by rfl) (by rw [List.length_take, pc_len]; omega) (cut_lo P1) (fun u hu => pc_one P1 u (List.mem_of_mem_take hu)) (by unfold maxLen; omega) (by omega) hs1 ?_
    intro v1 u2 hown1 hgrow1 hne1 hblk1
    have n1 : v1 ≠ .slice none 0 0 := fun e => ne_nil _ _ _ (hne1.1 e).1
    have P2 := P1.kept hgrow1 (fun j hj e => by
      have e1 : u0.heap.size = j := Option.some.inj hj
      have e2 : g = j := Option.some.inj e
      omega) (row_blkAt R0 (ne_nil _ _ _))
    have D2 := D1.grown hgrow1 (fun j hj => by
      have e1 : u0.heap.size = j := Option.some.inj hj
      omega) hlt
    replace bu : Kb u0 u2 := bu.grown hgrow1 hs1 (fun j hj => by cases hj; exact Nat.le_refl _)
    have g1 : ∀ j, v1.ownBlock = some j → u0.heap.size ≤ j := fun j hj => ownBlock_ge hown1 hj
    clear R0 P1 D1 hgrow1 hne1 hblk1 hs1
    clear hHeld
    refine hK'.out _ _ bu (fun hHeld => ?_)
    clear hK' KK
    try simp only [List.setIfInBounds_toArray, List.set_cons_zero, List.set_cons_succ]
    refine wpAnyH_ready (rs := [9]) (by kernel_rfl) (by simp) ?_
    refine AllReadyH.cons rfl (fun KK hK' => ?_) AllReadyH.nil
    have hs2 : u0.heap.size ≤ u2.heap.size := bu.size
    refine step_append_at _ (by rfl) _ _ _ (by rfl) u0.heap.size 57 i0 _ 2 48 Tryz.underlying27 hi0 hz0 hz1 hz2 rfl (by omega) v1 (0 + k) _ (by rfl) hown1 ⟨g, q, none⟩ (n - (k + 1)) (c - (k + 1)) ((pc X Y n).drop ((k + 1) * 2)) (by rfl) (by rw [List.length_drop, pc_len]; omega) (cut_hi2 P2 hqn) (fun u hu => pc_one P2 u (List.mem_of_mem_drop hu)) (by unfold maxLen; omega) (by omega) hs2 ?_
    intro v2 u3 hown2 hgrow2 hne2 hblk2
    have n2 : v2 ≠ .slice none 0 0 := fun e => n1 (hne2.1 e).1
    have P3 := P2.kept hgrow2 (fun j hj e => by
      have e2 : g = j := Option.some.inj e
      have := g1 _ hj
      omega) (row_blkAt hown1 n1)
    have D3 := D2.grown hgrow2 (fun j hj => by have := g1 j hj; have := P2.lt; omega) hlt
    replace bu : Kb u0 u3 := bu.grown hgrow2 hs2 (fun j hj => g1 j hj)
    have N : Hid (SpoE w0 p a len cap (.returned v2) u3) := spoE_cut D3 P3 hk hn (by omega) (own_lower hown2 (by have := P3.lt; omega)) n2
    clear P2 D2 P3 D3 hown1 hown2 hgrow2 hne2 hblk2 hs2 n1 n2 g1
    clear hHeld
    refine hK'.out _ _ bu (fun hHeld => ?_)
    clear hK' KK
    try simp only [List.setIfInBounds_toArray, List.set_cons_zero, List.set_cons_succ]
    refine wpAnyH_take (i := 10) (v := v2) rfl (by kernel_rfl) (by kernel_rfl) (by kernel_rfl) (fun _ _ _ h => h) (Or.inl ⟨by kernel_rfl, ?_⟩) hHeld ?_
    · intro w' hSw; go_simp
    try simp only [Act.put, List.setIfInBounds_toArray, List.set_cons_zero, List.set_cons_succ, List.getElem_toArray, List.getElem_cons_succ, List.getElem_cons_zero]
    refine wpAnyH_done (by kernel_rfl) ?_ _
    clear hHeld
    go_wp2
    go_ret
    exact N.out
  · obtain ⟨_, _, cur, es, -, at2, hcur⟩ := P.open
    cases es
    obtain ⟨c0, c1⟩ := hcur k hk
    rcases P.xs k hk with ⟨-, h9⟩ | ⟨x1, l1, ex, hx1, -, hl1, M1⟩
    · omega
    rcases P.ys k hk with ⟨-, h9⟩ | ⟨x2, l2, ey, hx2, -, hl2, M2⟩
    · omega
    have bx : (X k).ownBlock = some x1 := by rw [ex]; rfl
    have byy : (Y k).ownBlock = some x2 := by rw [ey]; rfl
    have ne1 : x1 ≠ g := fun e => arr_ne_block (P.xs k hk) at2 (e ▸ bx)
    have ne2 : x2 ≠ g := fun e => arr_ne_block (P.ys k hk) at2 (e ▸ byy)
    have ne12 : x1 ≠ x2 := fun e => G.dj.2 k k hk hk x1 bx (e ▸ byy)
    have PP : PairG w2 w0.heap.size x1 l1 x2 l2 (H k).f (H k).h := ⟨⟨hx1, hx2, ne12, hl1.1, hl1.2, hl2.1, hl2.2⟩, M1, M2⟩
    have SP := spoilG_dr D2 PP hlt (X := g) ⟨fun e => ne1 e.symm, fun e => ne2 e.symm, at2.lt⟩
    rw [ex] at c0
    rw [ey] at c1
    have f0 := at2.cell _ c0
    have f1 := at2.cell _ c1
    have XS : ∀ {wq : World}, Fr p x1 x2 w2 wq → ∀ i, i < n → i ≠ k → Arr wq w0.heap.size w2.heap.size (X i) 9 (H i).f := fun F i hi hik => arr_fr (P.xs i hi) F hlt (fun j hj => ⟨fun e => (G.dj.1 i k hi hk hik).1 j hj (e ▸ bx), fun e => G.dj.2 i k hi hk j hj (e ▸ byy)⟩)
    have YS : ∀ {wq : World}, Fr p x1 x2 w2 wq → ∀ i, i < n → i ≠ k → Arr wq w0.heap.size w2.heap.size (Y i) 3 (H i).h := fun F i hi hik => arr_fr (P.ys i hi) F hlt (fun j hj => ⟨fun e => G.dj.2 k i hk hi j (e ▸ bx) hj, fun e => (G.dj.1 i k hi hk hik).2 j hj (e ▸ byy)⟩)
    have HX := @hid_of _ @XS
    have HY := @hid_of _ @YS
    have HC := hid_of hcur
    have HN := hid_of P.nk
    clear XS YS M1 M2 PP G hcur P ex ey bx byy D2
    go_wp2_with fail
    refine SP.mono ?_
    rintro e w3 ⟨o, rfl, AO, FR, D3⟩
    obtain ⟨a1, n1, d1, b1, k1, d2, f5, h5, rfl, s1, s2, hz⟩ := AO
    have at3 : At 57 w3 g cur := (FR.2 g at2.lt (by omega) (fun e => ne1 e.symm) (fun e => ne2 e.symm)).trans at2
    have xs3 := hid_of (HX.out FR)
    have ys3 := hid_of (HY.out FR)
    have r0 := at3.cell _ c0
    have r1 := at3.cell _ c1
    have q0 := at3.frozen (k * 2)
    have q1 := at3.frozen (k * 2 + 1)
    clear SP f0 f1 at2 FR HX HY c0 c1
    go_wp2
    go_ret
    exact spoE_put at3 HC.out xs3.out ys3.out HN.out s1 s2 D3 hgl hlt hk hn hz
  · clear G
    have hm1 : n + 1 ≤ maxLen := by unfold maxLen; omega
    have hm2 : (n + 1) * 48 ≤ 140737488355328 := by omega
    go_wp2_with fail
    refine (draw_dr D2.2).mono ?_
    rintro e w3 ⟨g1, c1, g2, c2, f, h, rfl, PP, D3⟩
    have P3 := P.cur D3.1 hlt
    have hsz := D2.1.size
    replace D3 := D3.from D2.1
    clear P D2
    obtain ⟨⟨z1, z2, -, rfl, rfl⟩, m1, m2⟩ := PP
    obtain ⟨W6, hW6, a6, b6, -⟩ := boxed w3 57 #[.slice (some ⟨g1, 0, none⟩) 9 9, .slice (some ⟨g2, 0, none⟩) 3 3]
    have O6 := P3.below b6
    have D6 := D3.below b6
    have rx6 := arr_of_made (lo := w0.heap.size) (m1.below b6) (Nat.le_refl _) (by omega)
    have ry6 := arr_of_made (lo := w0.heap.size) (m2.below b6) (Nat.le_refl _) (by omega)
    clear P3 D3 m1 m2 b6 z1 z2 hsz
    have hnw : ∀ j u, [Value.slice (some ⟨g1, 0, none⟩) 9 9, Value.slice (some ⟨g2, 0, none⟩) 3 3][j]? = some u → W6.cell? ((⟨w3.heap.size, 0, none⟩ : Addr).add j) = some u := by
      intro j u hu
      match j with
      | 0 => cases hu; exact a6.cell 0 rfl
      | 1 => cases hu; exact a6.cell 1 rfl
      | j + 2 => cases hu
    have h1c : ∀ u ∈ [Value.slice (some ⟨g1, 0, none⟩) 9 9, Value.slice (some ⟨g2, 0, none⟩) 3 3], u.oneCell' = true := by
      intro u hu
      simp at hu
      rcases hu with rfl | rfl <;> rfl
    have hm3 : w0.heap.size ≤ W6.heap.size := D6.1.size
    go_wp2_with (at_builtin; refine Hid.out (?_ : Hid _))
    refine (?_ : wpList _ _ _ _ _ _)
    refine wpList_append_own_at _ rfl _ _ _ rfl w0.heap.size 57 i0 _ 2 48 Tryz.underlying27 hi0 hz0 hz1 hz2 rfl (by omega) (.slice (some ⟨g, 0, none⟩) n c) n _ rfl O6.row ⟨w3.heap.size, 0, none⟩ 1 1 [.slice (some ⟨g1, 0, none⟩) 9 9, .slice (some ⟨g2, 0, none⟩) 3 3] rfl rfl hnw h1c hm1 hm2 hm3 ?_
    intro v3 w7 hown3 hgrow3 hne3 hblk3
    have e3 : v3 ≠ .slice none 0 0 := by
      intro e
      have := (hne3.1 e).2
      omega
    have N : Hid (SpoE w0 p a len cap (.returned v3) w7) := spoE_push (o := ⟨9, f, 3, h⟩) O6 D6 hlt hn rx6 ry6 ⟨rfl, rfl⟩ hgrow3 hown3 e3
    clear O6 D6 rx6 ry6 hnw h1c hm3 hown3 hgrow3 hne3 hblk3 e3 hm1 hm2 a6 hW6
    go_wp2
    go_ret
    exact N.out
  · clear G
    have hm1 : n + 1 ≤ maxLen := by unfold maxLen; omega
    have hm2 : (n + 1) * 48 ≤ 140737488355328 := by omega
    obtain ⟨_, _, cur, es, -, at2, hcur⟩ := P.open
    cases es
    obtain ⟨c0, c1⟩ := hcur k hk
    have rk := P.nk k hk
    rcases P.xs k hk with ⟨-, h9⟩ | ⟨x1, l1, ex, -, -, -, M1⟩
    · omega
    rcases P.ys k hk with ⟨-, h9⟩ | ⟨x2, l2, ey, -, -, -, M2⟩
    · omega
    rw [ex] at c0
    rw [ey] at c1
    have f0 := at2.cell _ c0
    have f1 := at2.cell _ c1
    have CP := l3Copy_any l1 l2 (made_ints M1) (made_ints M2) M1.lt M2.lt (by omega) (by omega)
    clear hcur at2 c0 c1 ex ey M1 M2
    go_wp2_with fail
    refine CP.mono ?_
    rintro e w3 ⟨o, rfl, ⟨v1, v2, rfl, t1, t2, -⟩, b3⟩
    obtain ⟨x3, l3, rfl, -⟩ := t1.src
    obtain ⟨x4, l4, rfl, -⟩ := t2.src
    clear CP f0 f1
    obtain ⟨W6, hW6, a6, b6, -⟩ := boxed w3 57 #[.slice x3 9 l3, .slice x4 3 l4]
    have O6 := (P.below b3).below b6
    have D6 := (D2.below b3).below b6
    have rx6 := ((t1.wide D2.1.size (Nat.le_refl _)).below b6).wide (Nat.le_refl _) b6.size
    have ry6 := ((t2.wide D2.1.size (Nat.le_refl _)).below b6).wide (Nat.le_refl _) b6.size
    clear P D2 t1 t2 b3 b6
    have hnw : ∀ j u, [Value.slice x3 9 l3, Value.slice x4 3 l4][j]? = some u → W6.cell? ((⟨w3.heap.size, 0, none⟩ : Addr).add j) = some u := by
      intro j u hu
      match j with
      | 0 => cases hu; exact a6.cell 0 rfl
      | 1 => cases hu; exact a6.cell 1 rfl
      | j + 2 => cases hu
    have h1c : ∀ u ∈ [Value.slice x3 9 l3, Value.slice x4 3 l4], u.oneCell' = true := by
      intro u hu
      simp at hu
      rcases hu with rfl | rfl <;> rfl
    have hm3 : w0.heap.size ≤ W6.heap.size := D6.1.size
    go_wp2_with (at_builtin; refine Hid.out (?_ : Hid _))
    refine (?_ : wpList _ _ _ _ _ _)
    refine wpList_append_own_at _ rfl _ _ _ rfl w0.heap.size 57 i0 _ 2 48 Tryz.underlying27 hi0 hz0 hz1 hz2 rfl (by omega) (.slice (some ⟨g, 0, none⟩) n c) n _ rfl O6.row ⟨w3.heap.size, 0, none⟩ 1 1 [.slice x3 9 l3, .slice x4 3 l4] rfl rfl hnw h1c hm1 hm2 hm3 ?_
    intro v3 w7 hown3 hgrow3 hne3 hblk3
    have e3 : v3 ≠ .slice none 0 0 := by
      intro e
      have := (hne3.1 e).2
      omega
    have N : Hid (SpoE w0 p a len cap (.returned v3) w7) := spoE_push (o := H k) O6 D6 hlt hn rx6 ry6 rk hgrow3 hown3 e3
    clear O6 D6 rx6 ry6 hnw h1c hm3 hown3 hgrow3 hne3 hblk3 e3 hm1 hm2 a6 hW6
    go_wp2
    go_ret
    exact N.out
  · clear G
    by_cases h1 : 1 < n
    · have h1' : (1 : Int) < (n : Int) := by omega
      obtain ⟨_, _, cur, es, -, at2, hcur⟩ := P.open
      cases es
      obtain ⟨c0, c1⟩ := hcur 0 (by omega)
      obtain ⟨c2, c3⟩ := hcur 1 h1
      obtain ⟨x0, l0, e0, -⟩ := (P.xs 0 (by omega)).src
      obtain ⟨y0, m0, e1, -⟩ := (P.ys 0 (by omega)).src
      obtain ⟨x1, l1, e2, -⟩ := (P.xs 1 h1).src
      obtain ⟨y1, m1, e3, -⟩ := (P.ys 1 h1).src
      rw [e0] at c0
      rw [e1] at c1
      rw [e2] at c2
      rw [e3] at c3
      have f0 : w2.cell? ⟨g, 0, none⟩ = some (.slice x0 9 l0) := at2.cell _ c0
      have f1 : w2.cell? ⟨g, 1, none⟩ = some (.slice y0 3 m0) := at2.cell _ c1
      obtain ⟨W3, hW3, a3, b3, -⟩ := boxed w2 57 #[.slice none 0 0, .slice none 0 0]
      have hgn : g ≠ w2.heap.size := by have := at2.lt; omega
      have hge : w2.heap.size ≤ w2.heap.size := Nat.le_refl _
      obtain ⟨gb, hgb⟩ : ∃ z, w2.heap.size = z := ⟨_, rfl⟩
      have B4 : Below w2.heap.size w2 ((W3.setCell ⟨gb, 0, none⟩ (.slice x0 9 l0)).setCell ⟨gb, 1, none⟩ (.slice y0 3 m0)) := hgb ▸ ((b3.setCell hge _).setCell hge _)
      rw [hgb] at a3 hgn
      have hgn2 : gb ≠ g := fun e => hgn e.symm
      obtain ⟨z0, z1, z2, z3⟩ := a3.open2
      have a4 := nil2_at a3 (.slice x0 9 l0) (.slice y0 3 m0)
      have at4 := at2.below B4
      have P4 := P.below B4
      have D4 := D2.below B4
      have k0 := at4.cell _ c0
      have k1 := at4.cell _ c1
      have k2 := at4.cell _ c2
      have k3 := at4.cell _ c3
      have q0 := at4.frozen 0
      have q1 := at4.frozen 1
      have q2 := at4.frozen 2
      have q3 := at4.frozen 3
      obtain ⟨d0, d1, -⟩ := ((a4.setOther (p := g) (i := 0) hgn2 (.slice x1 9 l1)).setOther (p := g) (i := 1) hgn2 (.slice y1 3 m1)).open2
      simp only [Nat.one_mul, Nat.zero_mul, Nat.zero_add, Nat.reduceAdd] at k0 k1 k2 k3
      clear P D2 b3 B4 at2 hcur
      go_wp2
      go_ret
      exact spoE_swap P4 D4 hgl hlt h1 hn e0 e1 e2 e3
    · have h1' : ¬ (1 : Int) < (n : Int) := by omega
      have K := P.stays
      obtain ⟨_, _, e, -, L⟩ := P.opsL
      cases e
      have N : Hid (SpoE w0 p a len cap (.returned (.slice (some ⟨g, 0, none⟩) n c)) w2) := ⟨g, n, c, H, rfl, by omega, L, D2, K, nk_le P.nk⟩
      clear K
      clear P L D2
      go_wp2
      go_ret
      exact N.out
end Go.Proofs.YtiocneailhplkaaGreat
/-
  Drawn groups, right and wrong, handed out: walked.
-/
namespace Go.Proofs.YtiocneailhplkaaGreat
open Go.RowKit

theorem OpsL.cur {w w' : World} {p lo g n c : Nat} {A : Nat → OpD} (hL : OpsL w g n A) (HG : 0 < n → ∃ X Y, OpsG w lo (.slice (some ⟨g, 0, none⟩) n c) n X Y A ∧ ∀ i, i < n → (A i).ok) (hk : Kept p w w') (hp : p < lo) : OpsL w' g n A := by
  by_cases h : 0 < n
  · obtain ⟨X, Y, G, -⟩ := HG h
    obtain ⟨_, _, e, A5⟩ := (G.cur hk hp).opsA
    cases e
    exact A5.opsL
  · exact ⟨Nat.lt_of_lt_of_le hL.1 hk.size, fun i hi => by omega⟩
set_option maxRecDepth 100000 in
theorem draw4Any_dr {w : World} {p : Nat} {a : Option Addr} {len cap : Nat} (hc : Cur w p a len cap) :
    Calls Tryz.prog 24 #[.pointer (some ⟨p, 0, none⟩)] w (SpoE w p a len cap) := by
  have hlt := hc.lt
  go_enter Tryz.func24, Tryz.ntmps24
  go_wp2_with fail
  refine (draw4_dr hc).mono ?_
  rintro e w1 ⟨g, n, c, H, rfl, hn, hg, L, HG, D1⟩
  go_wp2_with fail
  refine (once_dr (Dr.start D1.2) 14 (by omega) (by omega)).mono ?_
  rintro e w2 ⟨b, rfl, D2⟩
  have L2 := L.cur HG D2.1 hlt
  have HG2 : 0 < n → ∃ X Y, OpsG w2 w.heap.size (.slice (some ⟨g, 0, none⟩) n c) n X Y H ∧ ∀ i, i < n → (H i).ok := fun h => by
    obtain ⟨X, Y, G, ok⟩ := HG h
    exact ⟨X, Y, G.cur D2.1 hlt, ok⟩
  have D2' := D2.from D1.1
  have K2 : ∀ w'', Upon w.heap.size w2 w'' → OpsL w'' g n H := fun w'' hk => by
    by_cases h : 0 < n
    · obtain ⟨X, Y, G, ok⟩ := HG2 h
      exact (G.opsP ok).upon hk
    · exact ⟨Nat.lt_of_lt_of_le L2.1 hk.1, fun i hi => by omega⟩
  have Z2 : ∀ i, i < n → (H i).n ≤ 9 ∧ (H i).k ≤ 9 := fun i hi => by
    obtain ⟨X, Y, G, ok⟩ := HG2 (by omega)
    have := ok i hi
    rw [this.1, this.2.1]
    omega
  clear L HG D1 D2
  cases b
  · have N : Hid (SpoE w p a len cap (.returned (.slice (some ⟨g, 0, none⟩) n c)) w2) := ⟨g, n, c, H, rfl, by omega, L2, D2', K2, Z2⟩
    clear L2 HG2 D2' K2 Z2
    go_wp2
    go_ret
    exact N.out
  · go_wp2_with fail
    refine (spoil4_dr D2' hlt hn hg L2 HG2).mono ?_
    rintro e w3 ⟨g', n', c', A, rfl, hn', L3, D3, K3, Z3⟩
    have N : Hid (SpoE w p a len cap (.returned (.slice (some ⟨g', 0, none⟩) n' c')) w3) := ⟨g', n', c', A, rfl, hn', L3, D3, K3, Z3⟩
    clear L2 HG2 D2' L3 D3 K2 K3 Z2 Z3
    go_wp2
    go_ret
    exact N.out
/-- What is told of a group handed out. -/
def GivG (w : World) (e : Ending) (w' : World) : Prop :=
  ∃ g n c A, e = .returned (.slice (some ⟨g, 0, none⟩) n c) ∧ n ≤ 193 ∧ OpsL w' g n A ∧ Below w.heap.size w w' ∧ ∀ i, i < n → (A i).n ≤ 9 ∧ (A i).k ≤ 9
end Go.Proofs.YtiocneailhplkaaGreat
