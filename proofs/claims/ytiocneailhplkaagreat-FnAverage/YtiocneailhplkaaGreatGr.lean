/-
  What is made of operators by products on the right; the program's growing of a map, walked.
-/
import Derived.Test.YtiocneailhplkaaGreatMK
import Derived.Test.YtiocneailhplkaaGreatML
namespace Go.Proofs.YtiocneailhplkaaGreat
open Go.RowKit

/-- The shift of twelve numbers. -/
def kh (k : Nat → Int) : Nat → Int := fun i => k (9 + i)
def kR (k : Nat → Int) : Prop := isR k (kh k)
instance (k : Nat → Int) : Decidable (kR k) := by unfold kR; infer_instance
def mulQ (x y : Nat → Int) : Nat → Int := cat 9 (mulM x y) (behV x (kh x) (kh y))
theorem small_R {k : Nat → Int} (h : kR k) : small k := by
  obtain ⟨h1, h2, -⟩ := h
  intro j hj
  by_cases e : j < 9
  · have := h1 j e; omega
  · have := h2 (j - 9) (by omega)
    unfold kh at this
    rw [show 9 + (j - 9) = j by omega] at this
    omega
theorem mul3 {a b : Int} (ha : -1 ≤ a ∧ a ≤ 1) (hb : -1 ≤ b ∧ b ≤ 1) : -1 ≤ a * b ∧ a * b ≤ 1 := by
  rcases (by omega : a = -1 ∨ a = 0 ∨ a = 1) with rfl | rfl | rfl <;> omega
theorem small_mul {x y : Nat → Int} (hx : kR x) (hy : kR y) : small (mulQ x y) := by
  intro j hj
  unfold mulQ cat
  by_cases e : j < 9
  · rw [if_pos e, mulM_at]
    have m1 := mul3 (hx.1 (3 * (j / 3)) (by omega)) (hy.1 (j % 3) (by omega))
    have m2 := mul3 (hx.1 (3 * (j / 3) + 1) (by omega)) (hy.1 (3 + j % 3) (by omega))
    have m3 := mul3 (hx.1 (3 * (j / 3) + 2) (by omega)) (hy.1 (6 + j % 3) (by omega))
    omega
  · rw [if_neg e]
    unfold behV
    omega
theorem behind_k {x y : Nat → Int} (hx : kR x) (hy : kR y) (w : World) : Calls Tryz.prog 95 #[kV x, kV y] w fun e w' => e = .returned (kV (mulQ x y)) ∧ Below w.heap.size w w' := behind_any hx hy w
theorem right_k (x : Nat → Int) (w : World) : Calls Tryz.prog 94 #[kV x] w fun e w' => e = .returned (.bool (decide (kR x))) ∧ Below w.heap.size w w' := right_any x (kh x) w
theorem kR_congr {x y : Nat → Int} (h : kV x = kV y) (hx : kR x) : kR y := by
  have hj := lexC_zero.1 (kV_inj.1 h)
  obtain ⟨h1, h2, h3⟩ := hx
  refine ⟨fun i hi => by rw [← hj i (by omega)]; exact h1 i hi, fun i hi => by unfold kh; rw [← hj (9 + i) (by omega)]; exact h2 i hi, ?_⟩
  have e : det3 y = det3 x := by
    unfold det3
    simp only [hj 0 (by omega), hj 1 (by omega), hj 2 (by omega), hj 3 (by omega), hj 4 (by omega), hj 5 (by omega), hj 6 (by omega), hj 7 (by omega), hj 8 (by omega)]
  rw [e]; exact h3
/-- What comes of these by products with those on the right. -/
inductive Reach (K : List Value) (n : Nat) (U : Nat → Nat → Int) : (Nat → Int) → Prop
  | base {x : Nat → Int} : kV x ∈ K → Reach K n U x
  | step {x y : Nat → Int} {i : Nat} : Reach K n U x → i < n → kV y = kV (mulQ x (U i)) → Reach K n U y
/-- Not all right, or too many. -/
def Bad (K : List Value) (n : Nat) (U : Nat → Nat → Int) : Prop := (∃ x, Reach K n U x ∧ ¬ kR x) ∨ ∃ ls : List (Nat → Int), ls.length = 193 ∧ (ls.map kV).Nodup ∧ ∀ x ∈ ls, Reach K n U x
/-- The map between two rounds. -/
structure Grows (K : List Value) (n : Nat) (U : Nat → Nat → Int) (ks : List (Nat → Int)) : Prop where
  right : ∀ x ∈ ks, kR x
  few : ks.length ≤ 192
  reach : ∀ x ∈ ks, Reach K n U x
  has : ∀ v ∈ K, v ∈ ks.map kV
/-- How long, how many. -/
def qlen : Value → Nat
  | .slice _ n _ => n
  | _ => 0
def msize (w : World) (b : Nat) : Nat := match w.heap[b]? with
  | some (.map es _) => es.size
  | _ => 0
theorem MapV.msize {w : World} {b : Nat} {ks : List (Nat → Int)} (h : MapV w b ks) : msize w b = ks.length := by
  obtain ⟨es, clock, h1, h2⟩ := h.size
  simp [YtiocneailhplkaaGreat.msize, h1, h2]
theorem Oprs.get {w : World} {base gu n c : Nat} {U : Nat → Nat → Int} (h : Oprs w base (.slice (some ⟨gu, 0, none⟩) n c) n U) (i j : Nat) (hi : i < n) (hj : j < 12) : w.cell? ⟨gu, i * 12 + j, none⟩ = some (.int .i64 (U i j)) := by
  have := h.1.cells (g := gu) rfl (i * 12 + j) _ (kCells_get U hi hj)
  by_cases e : i * 12 + j = 0
  · rw [e] at this ⊢; simpa [Addr.add] using this
  · unfold Addr.add at this; rw [if_neg e] at this; simpa using this
theorem Que.open {w : World} {base g off cap : Nat} {x : Nat → Int} {q : List (Nat → Int)} (h : Que w base g off cap (x :: q)) : w.cell? ⟨g, off, none⟩ = some (.int .i64 (x 0)) ∧ w.cell? ⟨g, off + 1, none⟩ = some (.int .i64 (x 1)) ∧ w.cell? ⟨g, off + 2, none⟩ = some (.int .i64 (x 2)) ∧ w.cell? ⟨g, off + 3, none⟩ = some (.int .i64 (x 3)) ∧ w.cell? ⟨g, off + 4, none⟩ = some (.int .i64 (x 4)) ∧ w.cell? ⟨g, off + 5, none⟩ = some (.int .i64 (x 5)) ∧ w.cell? ⟨g, off + 6, none⟩ = some (.int .i64 (x 6)) ∧ w.cell? ⟨g, off + 7, none⟩ = some (.int .i64 (x 7)) ∧ w.cell? ⟨g, off + 8, none⟩ = some (.int .i64 (x 8)) ∧ w.cell? ⟨g, off + 9, none⟩ = some (.int .i64 (x 9)) ∧ w.cell? ⟨g, off + 10, none⟩ = some (.int .i64 (x 10)) ∧ w.cell? ⟨g, off + 11, none⟩ = some (.int .i64 (x 11)) :=
  ⟨h.head 0 (by omega), h.head 1 (by omega), h.head 2 (by omega), h.head 3 (by omega), h.head 4 (by omega), h.head 5 (by omega), h.head 6 (by omega), h.head 7 (by omega), h.head 8 (by omega), h.head 9 (by omega), h.head 10 (by omega), h.head 11 (by omega)⟩
theorem Oprs.open {w : World} {base gu n c : Nat} {U : Nat → Nat → Int} (h : Oprs w base (.slice (some ⟨gu, 0, none⟩) n c) n U) (i : Nat) (hi : i < n) : w.cell? ⟨gu, i * 12, none⟩ = some (.int .i64 (U i 0)) ∧ w.cell? ⟨gu, i * 12 + 1, none⟩ = some (.int .i64 (U i 1)) ∧ w.cell? ⟨gu, i * 12 + 2, none⟩ = some (.int .i64 (U i 2)) ∧ w.cell? ⟨gu, i * 12 + 3, none⟩ = some (.int .i64 (U i 3)) ∧ w.cell? ⟨gu, i * 12 + 4, none⟩ = some (.int .i64 (U i 4)) ∧ w.cell? ⟨gu, i * 12 + 5, none⟩ = some (.int .i64 (U i 5)) ∧ w.cell? ⟨gu, i * 12 + 6, none⟩ = some (.int .i64 (U i 6)) ∧ w.cell? ⟨gu, i * 12 + 7, none⟩ = some (.int .i64 (U i 7)) ∧ w.cell? ⟨gu, i * 12 + 8, none⟩ = some (.int .i64 (U i 8)) ∧ w.cell? ⟨gu, i * 12 + 9, none⟩ = some (.int .i64 (U i 9)) ∧ w.cell? ⟨gu, i * 12 + 10, none⟩ = some (.int .i64 (U i 10)) ∧ w.cell? ⟨gu, i * 12 + 11, none⟩ = some (.int .i64 (U i 11)) :=
  ⟨h.get i 0 hi (by omega), h.get i 1 hi (by omega), h.get i 2 hi (by omega), h.get i 3 hi (by omega), h.get i 4 hi (by omega), h.get i 5 hi (by omega), h.get i 6 hi (by omega), h.get i 7 hi (by omega), h.get i 8 hi (by omega), h.get i 9 hi (by omega), h.get i 10 hi (by omega), h.get i 11 hi (by omega)⟩
theorem grown_lt {w w' : World} {b k : Nat} (h : w.grownBy w' (some b)) (hk : k < w.heap.size) (hne : k ≠ b) : w'.heap[k]? = w.heap[k]? := h.block k hk (fun e => hne (by simpa using e))
theorem gb_below {w a a' : World} {b : Nat} (h : w.grownBy a (some b)) (k : Below a.heap.size a a') : w.grownBy a' (some b) :=
  ⟨k.os.trans h.os, k.tape.trans h.tape, k.output.trans h.output, Nat.le_trans h.size k.size, fun i hi hr => (k.block i (Nat.lt_of_lt_of_le hi h.size)).trans (h.block i hi hr)⟩
theorem gb_row {w a a' : World} {b g : Nat} (h : w.grownBy a (some b)) (k : a.grownBy a' (some g)) (hg : w.heap.size ≤ g) : w.grownBy a' (some b) :=
  ⟨k.os.trans h.os, k.tape.trans h.tape, k.output.trans h.output, Nat.le_trans h.size k.size, fun i hi hr => (k.block i (Nat.lt_of_lt_of_le hi h.size) (fun e => by cases e; omega)).trans (h.block i hi hr)⟩
theorem gb_same {w a a' : World} {b : Nat} (h : w.grownBy a (some b)) (k : a.grownBy a' (some b)) : w.grownBy a' (some b) :=
  ⟨k.os.trans h.os, k.tape.trans h.tape, k.output.trans h.output, Nat.le_trans h.size k.size, fun i hi hr => (k.block i (Nat.lt_of_lt_of_le hi h.size) hr).trans (h.block i hi hr)⟩
theorem At.gb {t : TypeId} {w w' : World} {q g : Nat} {vs : Array Value} (h : At t w q vs) (k : w.grownBy w' (some g)) (hne : q ≠ g) : At t w' q vs := (k.block q h.lt (fun e => hne (by simpa using e))).trans h
theorem MapV.ne_at {t : TypeId} {w : World} {b q : Nat} {ks : List (Nat → Int)} {vs : Array Value} (h : MapV w b ks) (a : At t w q vs) : q ≠ b := by
  intro e
  subst e
  obtain ⟨es, cl, h1, -⟩ := h
  rw [show w.heap[q]? = _ from a] at h1
  cases h1
theorem MapV.ne_que {w : World} {b base g off cap : Nat} {ks q : List (Nat → Int)} (h : MapV w b ks) (a : Que w base g off cap q) : g ≠ b := by
  intro e
  subst e
  obtain ⟨es, cl, h1, -⟩ := h
  obtain ⟨-, -, -, cur, h2, -⟩ := a
  rw [h2] at h1
  cases h1
theorem MapV.gb {w w' : World} {b g : Nat} {ks : List (Nat → Int)} (h : MapV w b ks) (k : w.grownBy w' (some g)) (hne : g ≠ b) : MapV w' b ks := h.of_block (k.block b h.lt (fun e => hne (by simpa using e.symm)))
theorem len75 {w : World} {b : Nat} {es : Array MapEntry} {clock : Nat} (h : w.heap[b]? = some (.map es clock)) (ty : TypeId) : (Builtin.len_ #[117] ty #[.map (some b)]).run Tryz.prog w = .ok (.int .i64 (es.size : Int)) w :=
  run_len_map w 117 ty b es clock (by kernel_rfl) h
theorem wpList_app {ops : Array Oper} {rest : List Oper} {o : Oper} {a : Act} {Q : Exit → Act → World → Prop} {w : World} (hgd : o.guard = none) (s x : Operand)
    (ho : o.op = .call { callee := .builtin .append, args := #[s, x], argTypes := #[60, 60] }) (v1 v2 v' : Value) (w' : World) (hs : a.eval s = v1) (hx : a.eval x = v2) (hr : (Builtin.append_ #[60, 60] o.type #[v1, v2]).run Tryz.prog w = .ok v' w')
    (h : wpList Tryz.prog ops Q rest (a.put o.dst v') w') : wpList Tryz.prog ops Q (o :: rest) a w := by
  refine wpList_plain hgd fun K hK => ?_
  unfold Oper.wp execOp
  simp only [ho, resolve, invoke, builtin, Sem.run_bind, Sem.run_pure, Result.andThen_ok, List.map_toArray, List.map_cons, List.map_nil, hs, hx, hr]
  exact hK _ _ h
/-- In the middle of a round. -/
def Mid (n : Nat) (U : Nat → Nat → Int) (x : Nat → Int) (j : Nat) (q ks : List (Nat → Int)) : Prop := ∀ y ∈ ks, kV y ∈ q.map kV ∨ (∀ i, i < n → kV (mulQ y (U i)) ∈ ks.map kV) ∨ (kV y = kV x ∧ ∀ i, i < j → kV (mulQ y (U i)) ∈ ks.map kV)
theorem mulQ_congr {x x' y : Nat → Int} (h : kV x = kV x') : kV (mulQ x y) = kV (mulQ x' y) := by
  have hj := lexC_zero.1 (kV_inj.1 h)
  refine kV_inj.2 (lexC_zero.2 (fun j hj' => ?_))
  unfold mulQ cat
  by_cases e : j < 9
  · rw [if_pos e, if_pos e, mulM_at, mulM_at, hj (3 * (j / 3)) (by omega), hj (3 * (j / 3) + 1) (by omega), hj (3 * (j / 3) + 2) (by omega)]
  · rw [if_neg e, if_neg e]
    unfold behV
    rw [movV_at, movV_at]
    unfold kh
    rw [hj (3 * (j - 9)) (by omega), hj (3 * (j - 9) + 1) (by omega), hj (3 * (j - 9) + 2) (by omega), hj (9 + (j - 9)) (by omega)]
theorem Mid.met {n : Nat} {U : Nat → Nat → Int} {x : Nat → Int} {j : Nat} {q ks : List (Nat → Int)} (h : Mid n U x j q ks) (hm : kV (mulQ x (U j)) ∈ ks.map kV) : Mid n U x (j + 1) q ks := fun y hy => by
  rcases h y hy with h | h | ⟨e, h⟩
  · exact .inl h
  · exact .inr (.inl h)
  · refine .inr (.inr ⟨e, fun i hi => ?_⟩)
    by_cases e2 : i = j
    · rw [e2, mulQ_congr e]; exact hm
    · exact h i (by omega)
theorem Mid.add {n : Nat} {U : Nat → Nat → Int} {x P : Nat → Int} {j : Nat} {q ks : List (Nat → Int)} (h : Mid n U x j q ks) (hP : mulQ x (U j) = P) : Mid n U x (j + 1) (q ++ [P]) (ks ++ [P]) := fun y hy => by
  have up : ∀ v, v ∈ ks.map kV → v ∈ (ks ++ [P]).map kV := fun v hv => by rw [List.map_append, List.mem_append]; exact .inl hv
  rcases List.mem_append.1 hy with hy | hy
  · rcases h y hy with h | h | ⟨e, h⟩
    · exact .inl (by rw [List.map_append, List.mem_append]; exact .inl h)
    · exact .inr (.inl fun i hi => up _ (h i hi))
    · refine .inr (.inr ⟨e, fun i hi => ?_⟩)
      by_cases e2 : i = j
      · rw [e2, mulQ_congr e, hP]; simp
      · exact up _ (h i (by omega))
  · rw [List.mem_singleton] at hy
    rw [hy]
    exact .inl (by simp)
theorem Mid.done {n : Nat} {U : Nat → Nat → Int} {x : Nat → Int} {q ks : List (Nat → Int)} (h : Mid n U x n q ks) : ∀ y ∈ ks, kV y ∈ q.map kV ∨ ∀ i, i < n → kV (mulQ y (U i)) ∈ ks.map kV := fun y hy => by
  rcases h y hy with h | h | ⟨_, h⟩
  · exact .inl h
  · exact .inr h
  · exact .inr h
theorem Grows.add {K : List Value} {n : Nat} {U : Nat → Nat → Int} {ks : List (Nat → Int)} {P : Nat → Int} (h : Grows K n U ks) (hR : kR P) (hP : Reach K n U P) (hl : ks.length < 192) : Grows K n U (ks ++ [P]) := by
  refine ⟨fun x hx => ?_, by simp; omega, fun x hx => ?_, fun v hv => ?_⟩
  · rcases List.mem_append.1 hx with hx | hx
    · exact h.right x hx
    · rw [List.mem_singleton.1 hx]; exact hR
  · rcases List.mem_append.1 hx with hx | hx
    · exact h.reach x hx
    · rw [List.mem_singleton.1 hx]; exact hP
  · rw [List.map_append, List.mem_append]; exact .inl (h.has v hv)
theorem snoc_nodup {ks : List (Nat → Int)} {P : Nat → Int} (h : (ks.map kV).Nodup) (hn : kV P ∉ ks.map kV) : ((ks ++ [P]).map kV).Nodup := by
  rw [List.map_append, List.map_singleton]
  refine List.nodup_append.2 ⟨h, by simp, fun a ha c hc e => hn ?_⟩
  rw [List.mem_singleton] at hc
  rw [← hc, ← e]; exact ha
set_option maxRecDepth 100000 in
set_option maxHeartbeats 2000000 in
theorem growBy_any {w : World} {b base gu n c : Nat} {U : Nat → Nat → Int} {ks0 : List (Nat → Int)} (hm : MapV w b ks0) (hne : ks0 ≠ []) (hr : ∀ x ∈ ks0, kR x) (hf : ks0.length ≤ 192) (hU : Oprs w base (.slice (some ⟨gu, 0, none⟩) n c) n U) (hUR : ∀ i, i < n → kR (U i)) (hn : n ≤ 192) :
    Calls Tryz.prog 84 #[.map (some b), .slice (some ⟨gu, 0, none⟩) n c] w fun e w' => ((e = .returned (.bool true) ∧ ∃ ks, MapV w' b ks ∧ Grows (ks0.map kV) n U ks ∧ ∀ x ∈ ks, ∀ i, i < n → kV (mulQ x (U i)) ∈ ks.map kV) ∨ (e = .returned (.bool false) ∧ Bad (ks0.map kV) n U)) ∧ w.grownBy w' (some b) := by
  have hn' : (n : Int) ≤ 192 := by omega
  have hbu : gu ≠ b := by
    intro e
    subst e
    obtain ⟨es, cl, h1, -⟩ := hm
    rcases hU.1.2 with ⟨h2, _⟩ | ⟨g, c', cur, e2, _, h2, _⟩
    · cases h2
    · cases e2; rw [h1] at h2; cases h2
  go_enter Tryz.func84, Tryz.ntmps84
  go_wp2_with fail
  refine (sorted_any hm (fun k hk => small_R (hr k hk)) hne (by omega)).mono ?_
  rintro e w1 ⟨v, G, rfl, hG, hp, -, hb1⟩
  obtain ⟨g0, c0, rfl, hq0⟩ := Que.of_oprs hG
  go_wp2
  go_loopw [5] (fun v wr => ∃ g off cap q ks, v = .slice (some ⟨g, off, none⟩) q.length cap ∧ Que wr w.heap.size g off cap q ∧ MapV wr b ks ∧ Grows (ks0.map kV) n U ks ∧ (∀ x ∈ q, kV x ∈ ks.map kV ∧ kR x ∧ Reach (ks0.map kV) n U x) ∧ q.length ≤ ks.length ∧ (∀ x ∈ ks, kV x ∈ q.map kV ∨ ∀ i, i < n → kV (mulQ x (U i)) ∈ ks.map kV) ∧ w.grownBy wr (some b)) (fun v wr => qlen v + (192 - msize wr b))
  case atStart =>
    have hin : ∀ y ∈ (List.range ks0.length).map G, kV y ∈ ks0.map kV := fun y hy => hp.mem_iff.1 (by simpa using List.mem_map_of_mem (f := kV) hy)
    refine ⟨g0, 0, c0, (List.range ks0.length).map G, ks0, by simp, hq0, hm.below hb1, ⟨hr, hf, fun x hx => .base (List.mem_map_of_mem hx), fun v hv => hv⟩, fun y hy => ?_, by simp, fun x hx => .inl (by simpa using hp.mem_iff.2 (List.mem_map_of_mem hx)), ⟨hb1.os, hb1.tape, hb1.output, hb1.size, fun k hk _ => hb1.block k hk⟩⟩
    have h1 := hin y hy
    obtain ⟨k, hk, e⟩ := List.mem_map.1 h1
    exact ⟨h1, kR_congr e (hr k hk), .base h1⟩
  case round =>
    clear hG hp hb1 hq0
    obtain ⟨g, off, cap, q, ks, rfl, hq, hM, hGr, hqs, hql, hcl, hgw⟩ := hrel
    rcases q with _ | ⟨x, q⟩
    · simp only [List.length_nil]
      go_wp2
      go_ret
      refine ⟨.inl ⟨rfl, ks, hM, hGr, fun x hx => ?_⟩, hgw⟩
      rcases hcl x hx with h | h
      · cases h
      · exact h
    · simp only [List.length_cons]
      have hx := (hqs x (List.mem_cons_self ..))
      have hq1 := (hq.tail)
      obtain ⟨d0, d1, d2, d3, d4, d5, d6, d7, d8, d9, d10, d11⟩ := hq.open
      obtain ⟨W1, hW1, a1, b1, z1⟩ := boxed wr 90 (kc x).toArray
      obtain ⟨off1, hoff1⟩ : ∃ o, (if cap = 1 then off else off + 12) = o := ⟨_, rfl⟩
      rw [hoff1] at hq1
      unfold kc at hW1
      have hM1 := hM.below b1
      have hg1 := gb_below hgw b1
      have hq2 := hq1.below b1
      have hgp : g < wr.heap.size := hq.lt
      have hmid : Mid n U x 0 q ks := fun y hy => by
        rcases hcl y hy with h | h
        · rw [List.map_cons, List.mem_cons] at h
          rcases h with h | h
          · exact .inr (.inr ⟨h, fun i hi => by omega⟩)
          · exact .inl h
        · exact .inr (.inl h)
      obtain ⟨p, hp⟩ : ∃ p, wr.heap.size = p := ⟨_, rfl⟩
      have hms : msize wr b = ks.length := hM.msize
      obtain ⟨C0, hC0⟩ : ∃ C, q.length + C = ks.length := ⟨ks.length - q.length, by simp at hql; omega⟩
      have hks : ks.length ≤ 192 := hGr.few
      have hqs1 : ∀ y ∈ q, kV y ∈ ks.map kV ∧ kR y ∧ Reach (ks0.map kV) n U y := fun y hy => hqs y (List.mem_cons_of_mem _ hy)
      rw [hp] at a1 hgp
      have hwp : w.heap.size ≤ p := by rw [← hp]; exact hgw.size
      go_wp2
      all_goals (
        first
          | simp only [h, if_true, Nat.sub_self] at hq2 hoff1
          | simp only [h, if_false] at hq2 hoff1
        subst hoff1
        clear hq hq1 d0 d1 d2 d3 d4 d5 d6 d7 d8 d9 d10 d11 hW1 hql hcl hqs
        go_loopw [5, 22] (fun v s wr2 => ∃ j g2 o2 c2 q2 ks2, j ≤ n ∧ s = .int .i64 (j : Nat) ∧ v = .slice (some ⟨g2, o2, none⟩) q2.length c2 ∧ Que wr2 w.heap.size g2 o2 c2 q2 ∧ g2 ≠ p ∧ MapV wr2 b ks2 ∧ Grows (ks0.map kV) n U ks2 ∧ (∀ y ∈ q2, kV y ∈ ks2.map kV ∧ kR y ∧ Reach (ks0.map kV) n U y) ∧ q2.length + C0 = ks2.length ∧ Mid n U x j q2 ks2 ∧ At 90 wr2 p (kc x).toArray ∧ w.grownBy wr2 (some b)) (fun _ s _ => n - (intOf s).toNat)
        case atStart => exact ⟨0, g, _, _, q, ks, Nat.zero_le _, rfl, rfl, hq2, by omega, hM1, hGr, hqs1, hC0, hmid, a1, hg1⟩
        case round =>
          clear hq2 hM1 hg1 a1 hqs1 hmid b1 hM
          obtain ⟨j, g2, o2, c2, q2, ks2, hj, rfl, rfl, hq, hg2p, hM, hGr2, hqs2, hC2, hmid, ax, hgw2⟩ := hrel
          by_cases hlt : j < n
          · have hlt' : (j : Int) < (n : Int) := by omega
            have hU2 : Oprs wr base (.slice (some ⟨gu, 0, none⟩) n c) n U := ⟨hU.1.kept hgw2 (.inr (fun e => hbu (by simpa [Value.ownBlock] using e))), hU.2⟩
            obtain ⟨e0, e1, e2, e3, e4, e5, e6, e7, e8, e9, e10, e11⟩ := hU2.open j hlt
            obtain ⟨W2, hW2, a2, b2, -⟩ := boxed wr 90 (kc (U j)).toArray
            obtain ⟨p2, hp2⟩ : ∃ p, wr.heap.size = p := ⟨_, rfl⟩
            rw [hp2] at a2
            have ax2 := ax.below b2
            obtain ⟨d0, d1, d2, d3, d4, d5, d6, d7, d8, d9, d10, d11⟩ := At.openk (x := x) ax2
            obtain ⟨f0, f1, f2, f3, f4, f5, f6, f7, f8, f9, f10, f11⟩ := At.openk (x := U j) a2
            unfold kc at hW2
            go_wp2_with fail
            refine (behind_k hx.2.1 (hUR j hlt) W2).mono ?_
            rintro e w3 ⟨rfl, b3⟩
            obtain ⟨Pk, hPk⟩ : ∃ P, mulQ x (U j) = P := ⟨_, rfl⟩
            have hsm : small Pk := by rw [← hPk]; exact small_mul hx.2.1 (hUR j hlt)
            have hRe : Reach (ks0.map kV) n U Pk := .step hx.2.2 hlt (by rw [hPk])
            rw [hPk]
            clear d0 d1 d2 d3 d4 d5 d6 d7 d8 d9 d10 d11 f0 f1 f2 f3 f4 f5 f6 f7 f8 f9 f10 f11 e0 e1 e2 e3 e4 e5 e6 e7 e8 e9 e10 e11 hW2 a2 ax2
            obtain ⟨W5, hW5, a5, b5, -⟩ := boxed w3 90 (kc Pk).toArray
            obtain ⟨p5, hp5⟩ : ∃ p, w3.heap.size = p := ⟨_, rfl⟩
            rw [hp5] at a5
            have B5 : Below wr.heap.size wr W5 := (b2.trans (b3.mono b2.size)).trans (b5.mono (Nat.le_trans b2.size b3.size))
            have hM5 := hM.below B5
            have hq5 := hq.below B5
            have ax5 := ax.below B5
            have hgw5 := gb_below hgw2 B5
            clear hM hq ax hgw2 B5 b2 b3 b5 hU2
            obtain ⟨d0, d1, d2, d3, d4, d5, d6, d7, d8, d9, d10, d11⟩ := At.openk (x := Pk) a5
            unfold kV kc
            unfold kc at hW5
            go_wp2_with fail
            refine (have_any hM5 hsm).mono ?_
            rintro e w6 ⟨⟨r, rfl, hr⟩, b6⟩
            clear d0 d1 d2 d3 d4 d5 d6 d7 d8 d9 d10 d11 hW5
            have hM6 := hM5.below b6
            have hq6 := hq5.below b6
            have ax6 := ax5.below b6
            have hgw6 := gb_below hgw5 b6
            have a6 := a5.below b6
            clear hM5 hq5 ax5 hgw5 a5 b6
            cases r
            · have hnew : kV Pk ∉ ks2.map kV := fun h => by have := hr.2 h; cases this
              obtain ⟨d0, d1, d2, d3, d4, d5, d6, d7, d8, d9, d10, d11⟩ := At.openk (x := Pk) a6
              obtain ⟨es, clock, hes, hesl⟩ := hM6.size
              have hlen := len75 hes
              by_cases h192 : ks2.length = 192
              · have h1 : (es.size : Int) = 192 := by omega
                go_wp2
                go_ret
                exact ⟨.inr ⟨rfl, .inr ⟨ks2 ++ [Pk], by simp; omega, snoc_nodup hM6.nodup hnew, fun y hy => by
                  rcases List.mem_append.1 hy with hy | hy
                  · exact hGr2.reach y hy
                  · rw [List.mem_singleton.1 hy]; exact hRe⟩⟩, hgw6⟩
              · have h1 : ¬ (es.size : Int) = 192 := by omega
                go_wp2_with fail
                refine (right_k Pk w6).mono ?_
                rintro e w7 ⟨rfl, b7⟩
                clear d0 d1 d2 d3 d4 d5 d6 d7 d8 d9 d10 d11
                by_cases hR : kR Pk
                · simp only [decide_eq_true hR]
                  have hM7 := hM6.below b7
                  have hq7 := hq6.below b7
                  have ax7 := ax6.below b7
                  have hgw7 := gb_below hgw6 b7
                  have a7 := a6.below b7
                  have hes7 : w7.heap[b]? = some (.map es clock) := (b7.block b hM6.lt).trans hes
                  have hlen7 := len75 hes7
                  have hlt192 : ks2.length < 192 := by have := hGr2.few; omega
                  clear hM6 hq6 ax6 hgw6 a6 b7 hes hlen
                  obtain ⟨w8, hst, hM8, g8, z8⟩ := hM7.store hsm (n := (ks2.length : Int)) (wf_small (by omega)) hnew (by unfold maxLen; omega)
                  have hq8 := hq7.kept g8 (fun e => hM7.ne_que hq7 (by simpa using e))
                  have ax8 := ax7.gb g8 (hM7.ne_at ax7)
                  have a8 := a7.gb g8 (hM7.ne_at a7)
                  have hgw8 := gb_same hgw7 g8
                  obtain ⟨W9, hW9, a9, b9, z9⟩ := boxed w8 90 (kc Pk).toArray
                  obtain ⟨p9, hp9⟩ : ∃ p, w8.heap.size = p := ⟨_, rfl⟩
                  rw [hp9] at a9
                  have hq9 := hq8.below b9
                  have hgw9 := gb_below hgw8 b9
                  have hM9 := hM8.below b9
                  have ax9 := ax8.below b9
                  have hq2l : q2.length ≤ 192 := by omega
                  obtain ⟨g3, o3, c3, w10, happ, hq10, g10, hg3⟩ := hq9.app (ty := 60) (p := p9) (x := Pk) hgw9.size (cell12_new W9 p9 Pk a9) (by omega)
                  obtain ⟨d0, d1, d2, d3, d4, d5, d6, d7, d8, d9, d10, d11⟩ := At.openk (x := Pk) a7
                  obtain ⟨f0, f1, f2, f3, f4, f5, f6, f7, f8, f9, f10, f11⟩ := At.openk (x := Pk) a8
                  have hgg := hM9.ne_que hq9
                  have hM10 := hM9.gb g10 hgg
                  have ax10 := ax9.gb g10 (fun e => hg2p e.symm)
                  have hgw10 := gb_row hgw9 g10 hq9.1
                  have hg3p : g3 ≠ p := by
                    rcases hg3 with e | e
                    · rw [e]; exact hg2p
                    · rw [e]; have := ax9.lt; omega
                  clear hM7 hM8 hM9 hq7 hq8 hq9 ax7 ax8 ax9 hgw7 hgw8 hgw9 a7 a8 a9 b9 g8 g10 z8 z9
                  unfold kV at hst
                  unfold kc at hst hW9
                  go_wp2_with (at_builtin; refine Hid.out (?_ : Hid _))
                  refine (?_ : wpList _ _ _ _ _ _)
                  refine wpList_app rfl _ _ rfl (.slice (some ⟨g2, o2, none⟩) q2.length c2) (.slice (some ⟨p9, 0, none⟩) 1 1) (.slice (some ⟨g3, o3, none⟩) (q2.length + 1) c3) w10 rfl rfl happ ?_
                  clear d0 d1 d2 d3 d4 d5 d6 d7 d8 d9 d10 d11 f0 f1 f2 f3 f4 f5 f6 f7 f8 f9 f10 f11 hst hW9 happ
                  go_wp2
                  refine ⟨⟨j + 1, g3, o3, c3, q2 ++ [Pk], ks2 ++ [Pk], by omega, by go_num, by simp, hq10, hg3p, hM10, hGr2.add hR hRe hlt192, ?_, by simp; omega, hmid.add hPk, ax10, hgw10⟩, by simp [intOf]; omega⟩
                  intro y hy
                  rcases List.mem_append.1 hy with hy | hy
                  · obtain ⟨t1, t2, t3⟩ := hqs2 y hy
                    exact ⟨by rw [List.map_append, List.mem_append]; exact .inl t1, t2, t3⟩
                  · rw [List.mem_singleton.1 hy]
                    exact ⟨by simp, hR, hRe⟩
                · simp only [decide_eq_false hR]
                  go_wp2
                  go_ret
                  exact ⟨.inr ⟨rfl, .inl ⟨Pk, hRe, hR⟩⟩, gb_below hgw6 b7⟩
            · have hin : kV (mulQ x (U j)) ∈ ks2.map kV := by rw [hPk]; exact hr.1 rfl
              go_wp2
              exact ⟨⟨j + 1, g2, o2, c2, q2, ks2, by omega, by go_num, rfl, hq6, hg2p, hM6, hGr2, hqs2, hC2, hmid.met hin, ax6, hgw6⟩, by simp [intOf]; omega⟩
          · obtain rfl : j = n := by omega
            go_wp2
            have hfe := hGr2.few
            refine ⟨⟨g2, o2, c2, q2, ks2, rfl, hq, hM, hGr2, hqs2, by omega, hmid.done, hgw2⟩, ?_⟩
            rw [hM.msize, hms]
            simp only [qlen]
            omega)
end Go.Proofs.YtiocneailhplkaaGreat
