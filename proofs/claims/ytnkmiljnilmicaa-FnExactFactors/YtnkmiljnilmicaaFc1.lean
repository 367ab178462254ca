/-
  The iterator over a row's stretches: walked.
-/
import Derived.Test.YtnkmiljnilmicaaTw
import Derived.Maps.OwnIn
import Derived.RangeFuncKeeps
import Derived.RangeFuncNested
namespace Go.Proofs.Ytnkmiljnilmicaa
open Go.RowKit Go.Shelf
attribute [local go_sem] Oper.semAt_some

theorem hid_of {p : Prop} (h : p) : Hid p := h
/-- The first t numbers below n. -/
def upl (n : Nat) : Nat → List { x : Nat // x < n }
  | 0 => []
  | t + 1 => if h : t < n then upl n t ++ [⟨t, h⟩] else upl n t
theorem upl_next {n t : Nat} (h : t < n) : upl n (t + 1) = upl n t ++ [⟨t, h⟩] := by
  conv => lhs; unfold upl
  rw [dif_pos h]
theorem upl_len (n : Nat) : ∀ t, t ≤ n → (upl n t).length = t
  | 0, _ => rfl
  | t + 1, h => by
    rw [upl_next (show t < n by omega), List.length_append, upl_len n t (by omega)]
    rfl
theorem upl_vals (n : Nat) : ∀ t, t ≤ n → (upl n t).map (·.1) = List.range t
  | 0, _ => rfl
  | t + 1, h => by
    rw [upl_next (show t < n by omega), List.map_append, upl_vals n t (by omega), List.range_succ]
    rfl
/-- The stretch of n letters at i. -/
def sx (s : ByteArray) (n i : Nat) : ByteArray := s.extract i (i + n)
theorem sx_size {s : ByteArray} {n i : Nat} (h : i + n ≤ s.size) : (sx s n i).size = n := by
  unfold sx
  rw [ByteArray.size_extract]
  omega
theorem sx_run {s : ByteArray} {n i : Nat} (h : i + n ≤ s.size) : ∀ w, (Instr.slice 9 (.string s) (some (.int .i64 (i : Int))) (some (.int .i64 ((i : Int) + (n : Int)))) none).run Try.prog w = .ok (.string (sx s n i)) w := fun w => by
  rw [run_slice_string (P := Try.prog) w 9 s .i64 .i64 (i : Int) ((i : Int) + (n : Int)) Try.underlying9 (by omega) (by omega) (by omega)]
  unfold sx
  rw [show ((i : Int) + (n : Int)).toNat = i + n by omega, Int.toNat_natCast]
/-- What lies below B, but for some blocks, stays as it is. -/
def KpS (B : Nat) (S : Nat → Prop) (W W' : World) : Prop := W.heap.size ≤ W'.heap.size ∧ ∀ k, k < B → ¬ S k → W'.heap[k]? = W.heap[k]?
theorem KpS.t {B : Nat} {S : Nat → Prop} {X Y Z : World} (h : KpS B S X Y) (k : KpS B S Y Z) : KpS B S X Z := ⟨Nat.le_trans h.1 k.1, fun i h1 h2 => (k.2 i h1 h2).trans (h.2 i h1 h2)⟩
theorem KpS.refl (B : Nat) (S : Nat → Prop) (W : World) : KpS B S W W := ⟨Nat.le_refl _, fun _ _ _ => rfl⟩
theorem KpS.below {B : Nat} {S : Nat → Prop} {W W' : World} (h : Below W.heap.size W W') (hB : B ≤ W.heap.size) : KpS B S W W' := ⟨h.size, fun k hk _ => h.block k (by omega)⟩
theorem kpS_b {B : Nat} {S : Nat → Prop} {w : World} (hB : B ≤ w.heap.size) (W : World) (l : Nat) (o o' : Obj) (hl : w.heap.size ≤ l) (h : W.heap[l]? = some o) (_ : o.isCells = false) (_ : o.isWalk = false) : KpS B S W (W.putObj l o') :=
  ⟨(grownBy_putObj' W l o').size, fun k hk _ => (grownBy_putObj' W l o').block k (by have := (Array.getElem?_eq_some_iff.1 h).1; omega) (fun e => by cases e; omega)⟩
theorem KpS.set {B : Nat} {S : Nat → Prop} {W W' : World} (h : KpS B S W W') {p : Nat} (hp : S p) (i : Nat) (v : Value) : KpS B S W (W'.setCell ⟨p, i, none⟩ v) :=
  ⟨Nat.le_trans h.1 (KeepsWalks.setCell W' _ v).size, fun k hk hS => (Below.heap_setCell _ _ _ k (fun e => hS (by rw [e]; exact hp))).trans (h.2 k hk hS)⟩
/-- What the iterator reads. -/
structure StS (W : World) (B : Nat) (S : Nat → Prop) (bs bn : Nat) (s : ByteArray) (n : Nat) : Prop where
  sc : W.cell? ⟨bs, 0, none⟩ = some (.string s)
  nc : W.cell? ⟨bn, 0, none⟩ = some (.int .i64 (n : Int))
  lt : bs < B ∧ bn < B ∧ ¬ S bs ∧ ¬ S bn ∧ B ≤ W.heap.size
theorem StS.kp {W W' : World} {B bs bn n : Nat} {S : Nat → Prop} {s : ByteArray} (h : StS W B S bs bn s n) (hk : KpS B S W W') : StS W' B S bs bn s n := by
  obtain ⟨l1, l2, n1, n2, h3⟩ := h.lt
  exact ⟨(World.cell?_of_block (hk.2 bs l1 n1)).trans h.sc, (World.cell?_of_block (hk.2 bn l2 n2)).trans h.nc, ⟨l1, l2, n1, n2, Nat.le_trans h3 hk.1⟩⟩
theorem StS.below {W W' : World} {B bs bn n : Nat} {S : Nat → Prop} {s : ByteArray} (h : StS W B S bs bn s n) (hb : Below W.heap.size W W') : StS W' B S bs bn s n := h.kp (KpS.below hb h.lt.2.2.2.2)
theorem stretches_any (s : ByteArray) (n : Nat) (w : World) : Calls Try.prog 19 #[.string s, .int .i64 (n : Int)] w fun e w' => e = .returned (.func (.func 29) #[] #[.pointer (some ⟨w.heap.size + 1, 0, none⟩), .pointer (some ⟨w.heap.size, 0, none⟩)]) ∧ w' = (w.alloc (.cells #[.string s] 9)).alloc (.cells #[.int .i64 (n : Int)] 3) := by
  go_enter Try.func19, Try.ntmps19
  go_wp2
  go_ret
  refine ⟨?_, rfl⟩
  simp
set_option maxRecDepth 100000 in
set_option maxHeartbeats 2000000 in
theorem stretch_stops (n0 : Nat) {w : World} {B bs bn n m : Nat} {S : Nat → Prop} {s : ByteArray} (h : StS w B S bs bn s n) (hn : 1 ≤ n ∧ n ≤ 40) (hs : s.size ≤ 1000) (hm : s.size + 1 - n = m) :
    SeqStopsK (α := { x : Nat // x < m }) Fence.wide n0 Try.prog 29 #[.pointer (some ⟨bn, 0, none⟩), .pointer (some ⟨bs, 0, none⟩)] (fun y => #[.string (sx s n y.1)]) (KpS B S) (fun xs => xs = upl m m) (fun _ => True) m w := by
  intro l J Jx W bW hJ hJx hY h0
  have hwf : ∀ f, Fence.wide.fn f := fun _ => trivial
  have hwd : Fence.wide.depth.isSome = false := rfl
  have H := hid_of (h.below bW)
  clear h
  have zB := bW.size
  refine callsIn_of_wp Try.func29 rfl trivial ?_ rfl
  simp only [Try.ntmps29, List.size_toArray, List.length_cons, List.length_nil, Nat.reduceAdd, Nat.reduceSub, Array.replicate_succ, Array.replicate_zero, List.push_toArray, List.append_toArray, List.nil_append, List.cons_append]
  gi_wp2
  gi_loopw [4] (fun u wr => ∃ t : Nat, t ≤ m ∧ u = .int .i64 (t : Int) ∧ Hid (StS wr B S bs bn s n) ∧ J (upl m t) wr ∧ W.heap.size ≤ wr.heap.size) (fun u _ => m - (intOf u).toNat)
  case atStart => exact ⟨0, Nat.zero_le _, rfl, H, h0, Nat.le_refl _⟩
  case round =>
    clear H h0
    obtain ⟨t, ht, rfl, H, hj, zW⟩ := hrel
    obtain ⟨c0, c1, -⟩ := H.out
    by_cases htn : t < m
    · have htn' : (t : Int) + (n : Int) ≤ (s.size : Int) := by omega
      have hsl := sx_run (s := s) (n := n) (i := t) (by omega)
      rename World => wr
      obtain ⟨fn, tmps, assign, body, hy, hRd⟩ := hY (upl m t) ⟨t, htn⟩ wr hj (by rw [upl_len m t ht]; exact htn)
      try dsimp only at hy
      have HN := hid_of (upl_next htn)
      obtain ⟨x, hx⟩ : ∃ x, sx s n t = x := ⟨_, rfl⟩
      rw [hx] at hy hsl
      clear hj hx
      gi_wp2
      refine hRd.mono ?_
      rintro e W3 (⟨rfl, hJ3, hk3⟩ | ⟨rfl, hJx3⟩)
      · have z3 : W.heap.size ≤ W3.heap.size := Nat.le_trans zW hk3.1
        have H3 := hid_of (H.out.kp hk3)
        clear c0 c1 hsl
        gi_wp2
        exact ⟨⟨t + 1, by omega, by go_num, H3, by rw [HN.out]; exact hJ3, z3⟩, by simp [intOf]; omega⟩
      · gi_wp2
        refine bodyPost_ret (results_none rfl _ _ _) rfl ?_
        exact ⟨⟨_, rfl⟩, .inr ⟨_, trivial, hJx3⟩⟩
    · obtain rfl : t = m := by omega
      have htn' : ¬ (t : Int) + (n : Int) ≤ (s.size : Int) := by omega
      gi_wp2
      go_end0
      exact ⟨⟨_, rfl⟩, .inl hj⟩
end Go.Proofs.Ytnkmiljnilmicaa
