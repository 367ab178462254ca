/-
  Inflate, by the program: walked.
-/
import Derived.Test.YtninblhahjldcaaTu
import Derived.Test.YtninblhahjldcaaTv
namespace Go.Proofs.Ytninblhahjldcaa
open Go.RowKit Go.Shelf
attribute [local go_sem] Oper.semAt_some

/-- A row inflated k times. -/
def it (L : List UInt8) : Nat → List UInt8
  | 0 => L
  | k + 1 => infl (it L k)
theorem it_shift (L : List UInt8) (k : Nat) : it (infl L) k = it L (k + 1) := by
  induction k with
  | zero => rfl
  | succ k ih => show infl (it (infl L) k) = infl (it L (k + 1)); rw [ih]
theorem gr_some {L : List UInt8} {t : Nat} (h : ∀ i, i ≤ t → (it L i).length ≤ 20000) : gr t L = some (it L t) := by
  induction t generalizing L with
  | zero => rfl
  | succ t ih =>
    have h1 : (infl L).length ≤ 20000 := h 1 (by omega)
    rw [gr, if_pos h1, ih (L := infl L) (fun i hi => by rw [it_shift]; exact h (i + 1) (by omega)), it_shift]
theorem gr_none {L : List UInt8} {t k : Nat} (hk : k ≤ t) (h0 : 0 < k) (h : 20000 < (it L k).length) : gr t L = none := by
  induction t generalizing L k with
  | zero => omega
  | succ t ih =>
    rw [gr]
    by_cases hb : (infl L).length ≤ 20000
    · rw [if_pos hb]
      obtain ⟨j, rfl⟩ : ∃ j, k = j + 1 := ⟨k - 1, by omega⟩
      have h1 : 0 < j := by
        refine Nat.pos_of_ne_zero fun e => ?_
        subst e
        exact absurd h (Nat.not_lt.2 hb)
      exact ih (L := infl L) (k := j) (by omega) h1 (by rw [it_shift]; exact h)
    · rw [if_neg hb]
/-- The first k. -/
def sq (L : List UInt8) : Nat → List (List UInt8)
  | 0 => []
  | k + 1 => sq L k ++ [it L k]
theorem sq_len (L : List UInt8) (k : Nat) : (sq L k).length = k := by
  induction k with
  | zero => rfl
  | succ k ih => simp [sq, ih]
/-- A loop of at most m rounds, by an invariant that counts them. -/
theorem rounds_ind {F : Fence} {n : Nat} {P : Program} {c : Code} {Q : Exit → Act → World → Prop} (Inv : Nat → Act → World → Prop) (hz : ∀ a w, ¬ Inv 0 a w)
    (hs : ∀ m a w, Inv (m + 1) a w → c.wpIn F n P (Exit.then (Inv m) Q) a w) : ∀ m a w, Inv m a w → Code.roundsIn F n P c Q m a w := by
  intro m
  induction m with
  | zero => exact fun a w h => absurd h (hz a w)
  | succ m ih =>
    intro a w h
    rw [roundsIn_succ]
    refine wpIn_mono (hs m a w h) ?_
    intro e a' w' h'
    cases e with
    | normal => exact ih a' w' h'
    | ret => exact h'
    | exit id => exact h'
    | goto t => exact h'
    | panic ch => exact h'
    | outgrown => exact h'
theorem growth_any (s : ByteArray) (w : World) : Calls Try.prog 35 #[.string s] w fun e w' => e = .returned (.func (.func 54) #[] #[.pointer (some ⟨w.heap.size, 0, none⟩)]) ∧ w' = w.alloc (.cells #[.string s] 9) := by
  go_enter Try.func35, Try.ntmps35
  go_wp2
  go_ret
  exact ⟨rfl, rfl⟩
set_option maxRecDepth 100000 in
set_option maxHeartbeats 2000000 in
theorem growth_told (n : Nat) (L : List UInt8) (t b n₀ : Nat) (w : World) (hL : L.length ≤ 20000) (hb : b < w.heap.size) (hc : w.cell? ⟨b, 0, none⟩ = some (.string (tx L))) :
    Told Fence.wide n Try.prog 54 #[.pointer (some ⟨b, 0, none⟩)] (fun x => #[.string (tx x)]) n₀ (fun pre => pre.length ≤ t) (fun xs => ∃ k, xs = sq L k ∧ 0 < k ∧ 20000 < (it L k).length) (fun xs => ∃ k, xs = sq L (k + 1) ∧ ∀ i, i ≤ k → (it L i).length ≤ 20000) w := by
  intro l J Jx W bW hJ hJx hlen hY h0
  have hwf : ∀ f, Fence.wide.fn f := fun _ => trivial
  have hwd : Fence.wide.depth.isSome = false := rfl
  refine callsIn_of_wp Try.func54 rfl trivial ?_ rfl
  simp only [Try.ntmps54, List.size_toArray, List.length_cons, List.length_nil, Nat.reduceAdd, Nat.reduceSub, Array.replicate_succ, Array.replicate_zero, List.push_toArray, List.append_toArray, List.nil_append, List.cons_append]
  have hc' : W.cell? ⟨b, 0, none⟩ = some (.string (tx L)) := (bW.cell (p := ⟨b, 0, none⟩) hb).trans hc
  have hsz : (tx L).size ≤ 1000000 := by rw [tx_size]; omega
  gi_wp2_with (gi_at_call 37; refine (callsIn_wide.2 (clone_any _ _ hsz)).mono ?_; rintro e w2 ⟨rfl, b2⟩)
  have hJ2 : J [] w2 := hJ [] W w2 none h0 ⟨b2.os, b2.tape, b2.output, b2.size, fun k hk _ => b2.block k hk⟩ (fun r e => by cases e)
  clear h0
  refine wpIn_loop_rounds (t + 2) (rounds_ind (fun m a W1 => ∃ (k : Nat) (u6 u7 u8 u9 u10 u11 u12 u13 u14 u15 : Value), k + m = t + 2 ∧ a = { tmps := #[.func (.yield l) #[] #[], .pointer (some ⟨b, 0, none⟩), undef, .string (tx (it L k)), .string (tx L), .string (tx L), u6, u7, u8, u9, u10, u11, u12, u13, u14, u15], defers := [] } ∧ J (sq L k) W1 ∧ W.heap.size ≤ W1.heap.size ∧ ∀ i, i < k → (it L i).length ≤ 20000) ?zero ?step _ _ _ ⟨0, _, _, _, _, _, _, _, _, _, _, by omega, rfl, hJ2, b2.size, fun i hi => by omega⟩)
  case zero =>
    rintro a W1 ⟨k, u6, u7, u8, u9, u10, u11, u12, u13, u14, u15, hk, rfl, hj, -⟩
    have := hlen _ _ hj
    rw [sq_len] at this
    omega
  case step =>
    rintro m a W1 ⟨k, u6, u7, u8, u9, u10, u11, u12, u13, u14, u15, hk, rfl, hj, hsz1, hall⟩
    have HJ := hj
    have hkt := hlen _ _ hj
    rw [sq_len] at hkt
    have HA : Hid (∀ i, i < k → (it L i).length ≤ 20000) := hall
    clear hall
    by_cases hle : (it L k).length ≤ 20000
    · have hle' : ((it L k).length : Int) ≤ 20000 := by omega
      have hls : ((tx (it L k)).size : Int) ≤ 20000 := by rw [tx_size]; exact hle'
      obtain ⟨fn, tmps, assign, body, hy, hR⟩ := hY (sq L k) (it L k) W1 hj
      have H20 : Hid ((it L k).length ≤ 20000) := hle
      gi_wp2
      refine hR.mono ?_
      rintro e W3 (⟨rfl, hJ3, hk3⟩ | ⟨rfl, hJx3⟩)
      · gi_wp2_with (gi_at_call 55; refine (callsIn_wide.2 (inflated_any (it L k) _ H20.out)).mono ?_; rintro e w4 ⟨rfl, b4⟩)
        refine ⟨k + 1, _, _, _, _, _, _, _, _, _, _, by omega, rfl, hJ _ W3 w4 none hJ3 ⟨b4.os, b4.tape, b4.output, b4.size, fun k hk _ => b4.block k hk⟩ (fun r e => by cases e), Nat.le_trans hsz1 (Nat.le_trans hk3.size b4.size), fun i hi => ?_⟩
        by_cases e : i = k
        · rw [e]; exact H20.out
        · exact HA.out i (by omega)
      · gi_wp2
        go_end0
        refine ⟨⟨_, rfl⟩, .inr ⟨_, ⟨k, rfl, fun i hi => ?_⟩, hJx3⟩⟩
        by_cases e : i = k
        · rw [e]; exact H20.out
        · exact HA.out i (by omega)
    · have hle' : ¬ ((it L k).length : Int) ≤ 20000 := by omega
      have hls : ¬ ((tx (it L k)).size : Int) ≤ 20000 := by rw [tx_size]; exact hle'
      have hk0 : 0 < k := by
        refine Nat.pos_of_ne_zero fun e => ?_
        subst e
        exact hle hL
      have H20 : Hid (¬ (it L k).length ≤ 20000) := hle
      gi_wp2
      go_end0
      exact ⟨⟨_, rfl⟩, .inl ⟨_, ⟨k, rfl, hk0, by have := H20.out; omega⟩, HJ⟩⟩
theorem cell_put {W : World} {a b : Nat} {u : Value} (v : Value) (h : W.cell? ⟨b, 0, none⟩ = some u) (hne : b ≠ a) : (W.setCell ⟨a, 0, none⟩ v).cell? ⟨b, 0, none⟩ = some u :=
  (World.cell?_of_block (w := W) (a := ⟨b, 0, none⟩) (Below.heap_setCell _ _ _ _ hne)).trans h
theorem cell_here {W : World} {a : Nat} {u : Value} (v : Value) (h : W.cell? ⟨a, 0, none⟩ = some u) : (W.setCell ⟨a, 0, none⟩ v).cell? ⟨a, 0, none⟩ = some v := World.cell?_setCell_same' _ _ _ (by rw [h]; rfl)
set_option maxRecDepth 100000 in
set_option maxHeartbeats 2000000 in
theorem implInfl_in (n : Nat) (hn1 : 1 ≤ n) (L : List UInt8) (t : Nat) (w : World) (h : rowOk (tx L) 20000 = true) (ht : t ≤ 30) : CallsIn Fence.wide n Try.prog 12 #[.string (tx L), .int .i64 t] w fun e w' => e = .returned (.tuple #[.string (tx ((gr t L).getD [])), .bool (gr t L).isSome]) ∧ Below w.heap.size w w' := by
  have hwf : ∀ f, Fence.wide.fn f := fun _ => trivial
  have hwd : Fence.wide.depth.isSome = false := rfl
  refine callsIn_of_wp_marks Try.func12 rfl trivial ?_ rfl
  simp only [Try.ntmps12, List.size_toArray, List.length_cons, List.length_nil, Nat.reduceAdd, Nat.reduceSub, Array.replicate_succ, Array.replicate_zero, List.push_toArray, List.append_toArray, List.nil_append, List.cons_append]
  have ht0 : (0 : Int) ≤ t := by omega
  have ht1 : (t : Int) ≤ 30 := by omega
  gi_wp2_with (first | (gi_at_call 34; refine (callsIn_wide.2 (isRow_any _ _ _ (by decide))).mono ?_; rintro e w2 ⟨rfl, rfl⟩; rw [h]) | (gi_at_call 35; refine (callsIn_wide.2 (growth_any _ _)).mono ?_; rintro e w2 ⟨rfl, rfl⟩))
  obtain ⟨hs, -⟩ := rowOk_iff.1 h
  rw [tx_size] at hs
  obtain ⟨W1, hW1, A1, B1, z1⟩ := boxed w 2 #[.int .i64 t]
  obtain ⟨W2, hW2, A2, B2, z2⟩ := boxed W1 9 #[.string ⟨#[]⟩]
  obtain ⟨W3, hW3, A3, B3, z3⟩ := boxed W2 4 #[.bool false]
  obtain ⟨V, hV, A4, B4, z4⟩ := boxed W3 9 #[.string (tx L)]
  have b24 := B2.trans (B3.mono (by omega))
  rw [hW1, hW2, hW3, hV]
  have q1 := ((A1.below B2).below B3).below B4
  have q2 := (A2.below B3).below B4
  have q3 := A3.below B4
  have q4 := A4
  rw [z1] at q2
  rw [z2, z1] at q3
  rw [z3, z2, z1] at q4
  have hB0 : Below w.heap.size w V := B1.trans ((B2.trans ((B3.trans (B4.mono (by omega))).mono (by omega))).mono (by omega))
  have sV : V.heap.size = w.heap.size + 4 := by omega
  clear hW1 hW2 hW3 hV A1 A2 A3 A4 B1 B2 B3 B4 z1 z2 z3 z4 b24
  have c3 := q4.cell 0 (v := .string (tx L)) rfl
  refine range_told (α := List UInt8) rfl hn1 rfl trivial (enters_of Try.func54 (by kernel_rfl) rfl) (encs := fun x => #[.string (tx x)]) (fun _ => rfl) (n₀ := w.heap.size) (by omega)
    (growth_told (n - 1) L t (w.heap.size + 3) w.heap.size V (by omega) (by omega) c3)
    (fun pre W => (pre.length ≤ t ∧ W.cell? ⟨w.heap.size, 0, none⟩ = some (.int .i64 ((t : Int) - pre.length)) ∧ W.frozen? ⟨w.heap.size, 0, none⟩ = false ∧ (∃ v, W.cell? ⟨w.heap.size + 1, 0, none⟩ = some v ∧ W.frozen? ⟨w.heap.size + 1, 0, none⟩ = false) ∧ (∃ v, W.cell? ⟨w.heap.size + 2, 0, none⟩ = some v ∧ W.frozen? ⟨w.heap.size + 2, 0, none⟩ = false)) ∧ Below w.heap.size w W)
    (fun pre W => (∃ p x, pre = p ++ [x] ∧ p.length = t ∧ W.cell? ⟨w.heap.size + 1, 0, none⟩ = some (.string (tx x)) ∧ W.cell? ⟨w.heap.size + 2, 0, none⟩ = some (.bool true)) ∧ Below w.heap.size w W)
    (fun pre W h => h.1.1) ?hI ?hIx ?h0 (fun x => { tmps := #[.string (tx L), .int .i64 t, undef, .pointer (some ⟨w.heap.size, 0, none⟩), .pointer (some ⟨w.heap.size + 1, 0, none⟩), .pointer (some ⟨w.heap.size + 1 + 1, 0, none⟩), .string (tx x), .string (tx L), .bool true, .bool false, .bool false, .int .i64 t, .bool (decide ((t : Int) < 0)), .bool (decide ((t : Int) < 0)), .bool (decide ((t : Int) < 0)), .int .i64 t, .bool (decide (30 < (t : Int))), .bool (decide ((t : Int) < 0) || decide (30 < (t : Int))), .string (tx L), .func (.func 54) #[] #[.pointer (some ⟨w.heap.size + 1 + 1 + 1, 0, none⟩)], .string (tx x), undef, undef, undef, undef, undef], defers := [] }) ?assign ?body ?done ?stop
  case h0 => exact ⟨⟨Nat.zero_le _, by rw [q1.cell 0 (v := .int .i64 t) rfl]; simp, q1.frozen 0, ⟨_, q2.cell 0 (v := .string ⟨#[]⟩) rfl, q2.frozen 0⟩, ⟨_, q3.cell 0 (v := .bool false) rfl, q3.frozen 0⟩⟩, hB0⟩
  case hI =>
    refine OwnFrom.and (Own.from (fun s A B row hs hg hr => ?_) _) (ownFrom_below (Nat.le_refl _) (by omega))
    obtain ⟨h1, h2, h3, ⟨v, h4, h5⟩, u, h6, h7⟩ := hs
    exact ⟨h1, cell_kept h2 hg hr, (frozen_kept h2 hg hr).trans h3, ⟨v, cell_kept h4 hg hr, (frozen_kept h4 hg hr).trans h5⟩, u, cell_kept h6 hg hr, (frozen_kept h6 hg hr).trans h7⟩
  case hIx =>
    refine OwnFrom.and (Own.from (fun s A B row hs hg hr => ?_) _) (ownFrom_below (Nat.le_refl _) (by omega))
    obtain ⟨p, x, h1, h2, h3, h4⟩ := hs
    exact ⟨p, x, h1, h2, cell_kept h3 hg hr, cell_kept h4 hg hr⟩
  case assign =>
    intro l x W K hK
    gi_wp2
    exact hK
  case body =>
    rintro l pre x W ⟨⟨hp, hc, hf, ⟨v1, d1, e1⟩, v2, d2, e2⟩, hB⟩
    by_cases hz : pre.length = t
    · have hz' : (t : Int) - pre.length = 0 := by omega
      rw [hz'] at hc
      gi_wp2
      exact ⟨(KeepsOthers.setCell _ _ _).trans (KeepsOthers.setCell _ _ _), ⟨pre, x, rfl, hz, cell_put _ (cell_here _ d1) (by omega), cell_here _ (cell_put _ d2 (by omega))⟩, (hB.setCell (p := ⟨w.heap.size + 1, 0, none⟩) (by simp) _).setCell (p := ⟨w.heap.size + 2, 0, none⟩) (by simp) _⟩
    · obtain ⟨y, hy⟩ : ∃ y, (t : Int) - pre.length = y := ⟨_, rfl⟩
      have hy0 : 0 < y := by omega
      have hy1 : y ≤ 30 := by omega
      have hyz : (y == 0) = false := by simp; omega
      rw [hy] at hc
      have HY : Hid ((t : Int) - pre.length = y) := hy
      clear hy
      gi_wp2
      refine ⟨KeepsOthers.setCell _ _ _, (Below.refl _ W).setCell (p := ⟨w.heap.size, 0, none⟩) (Nat.le_refl _) _, ⟨by simp; omega, ?_, by rw [World.frozen?_setCell]; exact hf, ⟨_, cell_put _ d1 (by omega), by rw [World.frozen?_setCell]; exact e1⟩, _, cell_put _ d2 (by omega), by rw [World.frozen?_setCell]; exact e2⟩, hB.setCell (p := ⟨w.heap.size, 0, none⟩) (Nat.le_refl _) _⟩
      rw [cell_here _ hc]
      have := HY.out
      simp
      omega
  case done =>
    rintro D ys W hD ⟨k, rfl, hk0, hbig⟩ ⟨⟨hp, hc, hf, ⟨v1, d1, e1⟩, v2, d2, e2⟩, hB⟩ hK
    rw [sq_len] at hp
    have hgr := gr_none hp hk0 hbig
    gi_wp2
    obtain ⟨U, hU⟩ : ∃ U, (W.setCell ⟨w.heap.size + 1, 0, none⟩ (.string ⟨#[]⟩)).setCell ⟨w.heap.size + 1 + 1, 0, none⟩ (.bool false) = U := ⟨_, rfl⟩
    have u1 : U.cell? ⟨w.heap.size + 1, 0, none⟩ = some (.string ⟨#[]⟩) := by rw [← hU]; exact cell_put _ (cell_here _ d1) (by omega)
    have u2 : U.cell? ⟨w.heap.size + 1 + 1, 0, none⟩ = some (.bool false) := by rw [← hU]; exact cell_here _ (cell_put _ d2 (by omega))
    have uB : Below w.heap.size w U := by rw [← hU]; exact (hB.setCell (p := ⟨w.heap.size + 1, 0, none⟩) (by simp) _).setCell (p := ⟨w.heap.size + 1 + 1, 0, none⟩) (by simp; omega) _
    have hK' : U.heap[D]? = some (.deferred (some [])) := by rw [← hU]; exact ((KeepsOthers.setCell W ⟨w.heap.size + 1, 0, none⟩ (.string ⟨#[]⟩)).trans (KeepsOthers.setCell _ ⟨w.heap.size + 1 + 1, 0, none⟩ (.bool false))).same D _ hK rfl
    rw [hU]
    clear hU
    refine ⟨by simp, .inl ⟨_, _, rfl, run_takeDeferred hK', ?_⟩⟩
    have p1 := cell_kept u1 (grownBy_putObj' _ D (.deferred none)) (fun r e => by cases e; exact ⟨_, hK', rfl⟩)
    have p2 := cell_kept u2 (grownBy_putObj' _ D (.deferred none)) (fun r e => by cases e; exact ⟨_, hK', rfl⟩)
    refine ⟨.tuple #[.string ⟨#[]⟩, .bool false], ?_, by rw [hgr]; rfl, uB.trans (belowK_b (w := w) (Nat.le_refl _) _ D _ _ (by omega) hK' rfl rfl)⟩
    simp [results, Try.f12, go_sem, p1, p2]
  case stop =>
    rintro D pre W hD ⟨k, rfl, hall⟩ ⟨⟨p, x, hpx, hpl, hc1, hc2⟩, hB⟩ hK
    obtain ⟨rfl, hx⟩ : p = sq L k ∧ [it L k] = [x] := by
      have := List.append_inj' (show sq L k ++ [it L k] = p ++ [x] from hpx) rfl
      exact ⟨this.1.symm, this.2⟩
    obtain rfl : it L k = x := by simpa using hx
    rw [sq_len] at hpl
    subst hpl
    have hgr := gr_some hall
    gi_wp2
    refine ⟨by simp, .inl ⟨_, _, rfl, run_takeDeferred hK, ?_⟩⟩
    have p1 := cell_kept hc1 (grownBy_putObj' _ D (.deferred none)) (fun r e => by cases e; exact ⟨_, hK, rfl⟩)
    have p2 := cell_kept hc2 (grownBy_putObj' _ D (.deferred none)) (fun r e => by cases e; exact ⟨_, hK, rfl⟩)
    refine ⟨.tuple #[.string (tx (it L k)), .bool true], ?_, rfl, hB.trans (belowK_b (w := w) (Nat.le_refl _) _ D _ _ (by omega) hK rfl rfl)⟩
    simp [results, Try.f12, go_sem, p1, p2]
theorem implInfl_yes (L : List UInt8) (t : Nat) (w : World) (h : rowOk (tx L) 20000 = true) (ht : t ≤ 30) : Calls Try.prog 12 #[.string (tx L), .int .i64 t] w fun e w' => e = .returned (.tuple #[.string (tx ((gr t L).getD [])), .bool (gr t L).isSome]) ∧ Below w.heap.size w w' :=
  callsIn_wide.1 (implInfl_in 1 (Nat.le_refl _) L t w h ht)
/-- A row, and how often. -/
def infOk (s : ByteArray) (t : Int) : Prop := rowOk s 20000 = true ∧ 0 ≤ t ∧ t ≤ 30
set_option maxHeartbeats 1000000 in
theorem specInfl_no (s : ByteArray) (t : Int) (w : World) (h : ¬ infOk s t) : Calls Try.prog 11 #[.string s, .int .i64 t] w fun e w' => e = .returned (.tuple #[.string ⟨#[]⟩, .bool false]) ∧ Below w.heap.size w w' := by
  by_cases h0 : rowOk s 20000 = true
  · by_cases h1 : 0 ≤ t
    · have h2 : ¬ t ≤ 30 := fun e => h ⟨h0, h1, e⟩
      have d := decide_eq_false h2
      clear h
      go_enter Try.func11, Try.ntmps11
      go_wp2_with (first | (go_at_call 32; refine (l9Row_any _ _ _ (by decide)).mono ?_; rintro e w2 ⟨rfl, rfl⟩; rw [h0]) | (go_at_call 33; refine (in64_any _ _ _ _).mono ?_; rintro e w2 ⟨rfl, rfl⟩))
      exact bodyPost_ret (v := .tuple #[.string ⟨#[]⟩, .bool false]) (by simp [results, Try.results11, go_sem]) rfl ⟨rfl, Below.refl _ _⟩
    · have d := decide_eq_false h1
      clear h
      go_enter Try.func11, Try.ntmps11
      go_wp2_with (first | (go_at_call 32; refine (l9Row_any _ _ _ (by decide)).mono ?_; rintro e w2 ⟨rfl, rfl⟩; rw [h0]) | (go_at_call 33; refine (in64_any _ _ _ _).mono ?_; rintro e w2 ⟨rfl, rfl⟩))
      exact bodyPost_ret (v := .tuple #[.string ⟨#[]⟩, .bool false]) (by simp [results, Try.results11, go_sem]) rfl ⟨rfl, Below.refl _ _⟩
  · have h0 : rowOk s 20000 = false := by simpa using h0
    clear h
    go_enter Try.func11, Try.ntmps11
    go_wp2_with (first | (go_at_call 32; refine (l9Row_any _ _ _ (by decide)).mono ?_; rintro e w2 ⟨rfl, rfl⟩; rw [h0]) | (go_at_call 33; refine (in64_any _ _ _ _).mono ?_; rintro e w2 ⟨rfl, rfl⟩))
    exact bodyPost_ret (v := .tuple #[.string ⟨#[]⟩, .bool false]) (by simp [results, Try.results11, go_sem]) rfl ⟨rfl, Below.refl _ _⟩
set_option maxHeartbeats 1000000 in
theorem implInfl_no (s : ByteArray) (t : Int) (w : World) (h : ¬ infOk s t) : Calls Try.prog 12 #[.string s, .int .i64 t] w fun e w' => e = .returned (.tuple #[.string ⟨#[]⟩, .bool false]) ∧ Below w.heap.size w w' := by
  by_cases h0 : rowOk s 20000 = true
  · by_cases h1 : 0 ≤ t
    · have h2 : 30 < t := Int.lt_of_not_ge fun e => h ⟨h0, h1, e⟩
      have d := decide_eq_true h2
      clear h
      go_enter Try.func12, Try.ntmps12
      go_wp2_with (go_at_call 34; refine (isRow_any _ _ _ (by decide)).mono ?_; rintro e w2 ⟨rfl, rfl⟩; rw [h0])
      exact bodyPost_ret (v := .tuple #[.string ⟨#[]⟩, .bool false]) (by simp [results, Try.f12, go_sem]) rfl ⟨rfl, (((Below.refl _ w).alloc (Nat.le_refl _) _).alloc (by simp) _).alloc (by simp; omega) _⟩
    · have h2 : t < 0 := by omega
      have d := decide_eq_true h2
      clear h
      go_enter Try.func12, Try.ntmps12
      go_wp2_with (go_at_call 34; refine (isRow_any _ _ _ (by decide)).mono ?_; rintro e w2 ⟨rfl, rfl⟩; rw [h0])
      exact bodyPost_ret (v := .tuple #[.string ⟨#[]⟩, .bool false]) (by simp [results, Try.f12, go_sem]) rfl ⟨rfl, (((Below.refl _ w).alloc (Nat.le_refl _) _).alloc (by simp) _).alloc (by simp; omega) _⟩
  · have h0 : rowOk s 20000 = false := by simpa using h0
    clear h
    go_enter Try.func12, Try.ntmps12
    go_wp2_with (go_at_call 34; refine (isRow_any _ _ _ (by decide)).mono ?_; rintro e w2 ⟨rfl, rfl⟩; rw [h0])
    exact bodyPost_ret (v := .tuple #[.string ⟨#[]⟩, .bool false]) (by simp [results, Try.f12, go_sem]) rfl ⟨rfl, (((Below.refl _ w).alloc (Nat.le_refl _) _).alloc (by simp) _).alloc (by simp; omega) _⟩
set_option maxHeartbeats 1000000 in
theorem exactInfl_walk (s : ByteArray) (t : Int) (w : World) : Calls Try.prog 6 #[.string s, .int .i64 t] w fun e w' => e = .returned (.bool true) ∧ Below w.heap.size w w' := by
  by_cases h0 : (1048576 : Int) < s.size
  · go_enter Try.func6, Try.ntmps6
    go_wp2
    go_ret
    exact ⟨rfl, Below.refl _ _⟩
  · by_cases h : infOk s t
    · obtain ⟨hr, h1, h2⟩ := h
      obtain ⟨L, rfl⟩ : ∃ L, s = tx L := ⟨s.data.toList, by simp [tx]⟩
      obtain ⟨m, rfl⟩ : ∃ m : Nat, t = m := ⟨t.toNat, by omega⟩
      have hm : m ≤ 30 := by omega
      obtain ⟨R, hR⟩ : ∃ R, (gr m L).getD [] = R := ⟨_, rfl⟩
      obtain ⟨b, hb⟩ : ∃ b, (gr m L).isSome = b := ⟨_, rfl⟩
      have sp := specInfl_yes L m w hr hm
      have im := fun W => implInfl_yes L m W hr hm
      rw [hR, hb] at sp
      simp only [hR, hb] at im
      clear hR hb
      go_enter Try.func6, Try.ntmps6
      go_wp2_with (go_at_call 11; refine sp.mono ?_; rintro e w2 ⟨rfl, b2⟩)
      go_wp2_with (go_at_call 12; refine (im _).mono ?_; rintro e w3 ⟨rfl, b3⟩; have hne := bne_self_eq_false (tx R).toList; have hne2 := bne_self_eq_false b)
      go_ret
      exact ⟨rfl, b2.trans (b3.mono b2.size)⟩
    · go_enter Try.func6, Try.ntmps6
      go_wp2_with (go_at_call 11; refine (specInfl_no _ _ _ h).mono ?_; rintro e w2 ⟨rfl, b2⟩)
      go_wp2_with (go_at_call 12; refine (implInfl_no _ _ _ h).mono ?_; rintro e w3 ⟨rfl, b3⟩)
      go_ret
      exact ⟨rfl, b2.trans (b3.mono b2.size)⟩
end Go.Proofs.Ytninblhahjldcaa
