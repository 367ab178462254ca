/-
  Lists of operators of a function's own: marked, held. Walked.
-/
import Derived.Test.YtmjeplhigjlopaaGf
import Derived.Test.YtmjeplhigjlopaaOpA
namespace Go.Proofs.Ytmjeplhigjlopaa
open Go.RowKit

/-- How many numbers the first i have. -/
def totN (A : Nat → OpD) : Nat → Nat
  | 0 => 0
  | i + 1 => totN A i + (A i).n + (A i).k
theorem totN_mono (A : Nat → OpD) {i j : Nat} (h : i ≤ j) : totN A i ≤ totN A j := by
  induction j with
  | zero => have : i = 0 := by omega
            rw [this]; exact Nat.le_refl _
  | succ j ih =>
    by_cases e : i = j + 1
    · rw [e]; exact Nat.le_refl _
    · have := ih (by omega); simp only [totN]; omega
/-- No two of the lists share a block. -/
def AllApart (n : Nat) (X Y : Nat → Value) : Prop := (∀ i j, i < n → j < n → i ≠ j → Apart (X i) (X j) ∧ Apart (Y i) (Y j)) ∧ ∀ i j, i < n → j < n → Apart (X i) (Y j)
/-- A list of operators of one's own, in blocks from lo up to hi. -/
structure OpsA (w : World) (lo hi g n : Nat) (X Y : Nat → Value) (A : Nat → OpD) : Prop where
  blk : lo ≤ g ∧ g < hi ∧ ∃ cur, At 37 w g cur ∧ ∀ i, i < n → cur[i * 2]? = some (X i) ∧ cur[i * 2 + 1]? = some (Y i)
  xs : ∀ i, i < n → Arr w lo hi (X i) (A i).n (A i).f
  ys : ∀ i, i < n → Arr w lo hi (Y i) (A i).k (A i).h
  dj : AllApart n X Y
theorem OpsA.below {w w' : World} {lo hi g n : Nat} {X Y : Nat → Value} {A : Nat → OpD} (h : OpsA w lo hi g n X Y A) (hb : Below w.heap.size w w') : OpsA w' lo hi g n X Y A := by
  obtain ⟨h1, h2, cur, h3, h4⟩ := h.blk
  exact ⟨⟨h1, h2, cur, h3.below hb, h4⟩, fun i hi => (h.xs i hi).below hb, fun i hi => (h.ys i hi).below hb, h.dj⟩
theorem arr_ne_block {w : World} {lo hi : Nat} {v : Value} {n g : Nat} {f : Nat → Int} {cur : Array Value} (h : Arr w lo hi v n f) (a : At 37 w g cur) : v.ownBlock ≠ some g := by
  rcases h with ⟨rfl, -⟩ | ⟨g', c, rfl, -, -, -, cur', h1, -⟩
  · intro e; cases e
  · intro e
    simp only [Value.ownBlock, Option.some.injEq] at e
    subst e
    have := (show w.heap[g']? = _ from h1).symm.trans (show w.heap[g']? = _ from a)
    simp at this
/-- Marks: from x on. -/
def marked (A : Nat → OpD) (x : Nat) (i : Nat) : OpD := ⟨(A i).n, fun j => (x + totN A i + j : Nat), (A i).k, fun j => (x + totN A i + (A i).n + j : Nat)⟩
/-- The first i are marked. -/
def upTo (A : Nat → OpD) (x i : Nat) : Nat → OpD := fun t => if t < i then marked A x t else A t
theorem upTo_n (A : Nat → OpD) (x i t : Nat) : (upTo A x i t).n = (A t).n ∧ (upTo A x i t).k = (A t).k := by
  unfold upTo; split <;> exact ⟨rfl, rfl⟩
theorem OpsA.mark1 {w w' : World} {lo hi g n : Nat} {X Y : Nat → Value} {A A' : Nat → OpD} {i : Nat} (h : OpsA w lo hi g n X Y A) (hi' : i < n) (ho : Only (X i) w w') (hm : Arr w' lo hi (X i) (A' i).n (A' i).f) (he : ∀ t, t ≠ i → A' t = A t) (hk : (A' i).k = (A i).k ∧ (A' i).h = (A i).h) : OpsA w' lo hi g n X Y A' := by
  obtain ⟨h1, h2, cur, h3, h4⟩ := h.blk
  refine ⟨⟨h1, h2, cur, (ho.block g h3.lt (arr_ne_block (h.xs i hi') h3)).trans h3, h4⟩, fun t ht => ?_, fun t ht => ?_, h.dj⟩
  · by_cases e : t = i
    · rw [e]; exact hm
    · rw [he t e]; exact (h.xs t ht).only ho (h.dj.1 i t hi' ht (fun e' => e e'.symm)).1
  · have := (h.ys t ht).only ho (h.dj.2 i t hi' ht)
    by_cases e : t = i
    · rw [e] at this ⊢; rw [hk.1, hk.2]; exact this
    · rw [he t e]; exact this
theorem OpsA.mark2 {w w' : World} {lo hi g n : Nat} {X Y : Nat → Value} {A A' : Nat → OpD} {i : Nat} (h : OpsA w lo hi g n X Y A) (hi' : i < n) (ho : Only (Y i) w w') (hm : Arr w' lo hi (Y i) (A' i).k (A' i).h) (he : ∀ t, t ≠ i → A' t = A t) (hk : (A' i).n = (A i).n ∧ (A' i).f = (A i).f) : OpsA w' lo hi g n X Y A' := by
  obtain ⟨h1, h2, cur, h3, h4⟩ := h.blk
  refine ⟨⟨h1, h2, cur, (ho.block g h3.lt (arr_ne_block (h.ys i hi') h3)).trans h3, h4⟩, fun t ht => ?_, fun t ht => ?_, h.dj⟩
  · have := (h.xs t ht).only ho (h.dj.2 t i ht hi').symm
    by_cases e : t = i
    · rw [e] at this ⊢; rw [hk.1, hk.2]; exact this
    · rw [he t e]; exact this
  · by_cases e : t = i
    · rw [e]; exact hm
    · rw [he t e]; exact (h.ys t ht).only ho (h.dj.1 i t hi' ht (fun e' => e e'.symm)).2
theorem OpsA.cells {w : World} {lo hi g n : Nat} {X Y : Nat → Value} {A : Nat → OpD} (h : OpsA w lo hi g n X Y A) {i : Nat} (hi' : i < n) : w.cell? ⟨g, i * 2, none⟩ = some (X i) ∧ w.cell? ⟨g, i * 2 + 1, none⟩ = some (Y i) := by
  obtain ⟨h1, h2, cur, h3, h4⟩ := h.blk
  exact ⟨h3.cell _ (h4 i hi').1, h3.cell _ (h4 i hi').2⟩
set_option maxRecDepth 100000 in
set_option maxHeartbeats 800000 in
theorem markOpS_any {w : World} {lo hi g n c : Nat} {X Y : Nat → Value} {A : Nat → OpD} (h : OpsA w lo hi g n X Y A) (hn : n ≤ 1048576) (ht : totN A n ≤ 1048576) (x : Nat) (hx : x ≤ 1000000) :
    Calls Try.prog 14 #[.slice (some ⟨g, 0, none⟩) n c, .int .i64 (x : Int)] w fun e w' => e = .returned (.int .i64 ((x + totN A n : Nat) : Int)) ∧ OpsA w' lo hi g n X Y (marked A x) ∧ Turn lo hi w w' := by
  have hn' : (n : Int) ≤ 1048576 := by omega
  go_enter Try.func14, Try.ntmps14
  go_wp2
  go_loopw [1, 5] (fun k s wr => ∃ i : Nat, i ≤ n ∧ s = .int .i64 i ∧ k = .int .i64 ((x + totN A i : Nat) : Int) ∧ OpsA wr lo hi g n X Y (upTo A x i) ∧ Turn lo hi w wr) (fun _ s _ => n - (intOf s).toNat)
  case atStart => exact ⟨0, Nat.zero_le _, rfl, rfl, h, .of_below (Below.refl _ _)⟩
  case round =>
    obtain ⟨i, hi', rfl, rfl, H, T⟩ := hrel
    by_cases hlt : i < n
    · have hlt' : (i : Int) < (n : Int) := by omega
      have hui : upTo A x i i = A i := by simp [upTo]
      have hx1 := H.xs i hlt
      rw [hui] at hx1
      obtain ⟨N, hN⟩ : ∃ N, (A i).n = N := ⟨_, rfl⟩
      obtain ⟨K, hK⟩ : ∃ N, (A i).k = N := ⟨_, rfl⟩
      obtain ⟨z, hz⟩ : ∃ z, x + totN A i = z := ⟨_, rfl⟩
      have hlen : totN A i + N + K ≤ 1048576 := by
        have := totN_mono A (show i + 1 ≤ n by omega)
        simp only [totN, hN, hK] at this
        omega
      have hnext : Hid (x + totN A (i + 1) = z + N + K) := by show _ = _; simp only [totN, hN, hK]; omega
      rw [hN] at hx1
      obtain ⟨d1, e1, hX, -⟩ := hx1.src
      have hX' : Hid (X i = .slice d1 N e1) := hX
      obtain ⟨c0, c1⟩ := H.cells hlt
      rw [hX] at c0 hx1
      clear hX
      have hz' : Hid (x + totN A i = z) := hz
      rw [hz]
      clear hz c1
      go_wp2_with fail
      refine (markArr_any hx1 (by omega) z (by have := hz'.out; omega)).mono ?_
      rintro e w3 ⟨rfl, m1, o3⟩
      have T3 := T.trans (Turn.of_only o3 hx1)
      rw [← hX'.out] at m1 o3
      obtain ⟨A1, hA1⟩ : ∃ A1 : Nat → OpD, A1 = fun t => if t = i then ⟨N, fun j => (z + j : Nat), K, (A i).h⟩ else upTo A x i t := ⟨_, rfl⟩
      have hA1i : A1 i = ⟨N, fun j => (z + j : Nat), K, (A i).h⟩ := by rw [hA1]; simp
      have hA1t : ∀ t, t ≠ i → A1 t = upTo A x i t := fun t e => by rw [hA1]; simp [e]
      have H1 : OpsA w3 lo hi g n X Y A1 := H.mark1 hlt o3 (by rw [hA1i]; exact m1) hA1t (by rw [hA1i, hui]; exact ⟨hK.symm, rfl⟩)
      clear H m1 o3 hx1 c0 T
      have hy1 := H1.ys i hlt
      rw [hA1i] at hy1
      change Arr w3 lo hi (Y i) K (A i).h at hy1
      obtain ⟨d2, e2, hY, -⟩ := hy1.src
      have hY' : Hid (Y i = .slice d2 K e2) := hY
      obtain ⟨c0, c1⟩ := H1.cells hlt
      rw [hY] at c1 hy1
      clear hY c0
      go_wp2_with fail
      refine (markArr_any hy1 (by omega) (z + N) (by have := hz'.out; omega)).mono ?_
      rintro e w4 ⟨rfl, m2, o4⟩
      have T4 := T3.trans (Turn.of_only o4 hy1)
      rw [← hY'.out] at m2 o4
      have hu2 : upTo A x (i + 1) i = ⟨N, fun j => (z + j : Nat), K, fun j => (z + N + j : Nat)⟩ := by
        simp only [upTo, Nat.lt_succ_self, if_true, marked, hN, hK, hz'.out]
      have H2 : OpsA w4 lo hi g n X Y (upTo A x (i + 1)) := H1.mark2 hlt o4 (by rw [hu2]; exact m2) (fun t e => by
        rw [hA1t t e]
        unfold upTo
        by_cases h : t < i
        · rw [if_pos h, if_pos (by omega)]
        · rw [if_neg h, if_neg (by omega)]) (by rw [hu2, hA1i]; exact ⟨rfl, rfl⟩)
      clear H1 m2 o4 hy1 c1 T3
      go_wp2
      refine ⟨⟨i + 1, by omega, by go_num, ?_, H2, T4⟩, by simp [intOf]; omega⟩
      rw [hnext.out]
      go_num
    · obtain rfl : i = n := by omega
      have hlt' : ¬ (i : Int) < (i : Int) := by omega
      have H' : OpsA wr lo hi g i X Y (marked A x) := by
        refine ⟨H.blk, fun t ht' => ?_, fun t ht' => ?_, H.dj⟩
        · have := H.xs t ht'; unfold upTo at this; rwa [if_pos ht'] at this
        · have := H.ys t ht'; unfold upTo at this; rwa [if_pos ht'] at this
      go_wp2
      go_ret
      exact ⟨rfl, H', T⟩
end Go.Proofs.Ytmjeplhigjlopaa
