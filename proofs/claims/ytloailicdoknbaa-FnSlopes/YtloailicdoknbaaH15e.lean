/-
  A drawn region in a round of a range over a function; slices.Backward: what it tells, and in which order.
-/
import Derived.Test.YtloailicdoknbaaP15b
import Derived.RangeFuncFrom
import Derived.RangeFuncNested
import Derived.RangeFuncBound
import Derived.RangeFuncCalls
import Derived.RangeFuncLeaves
import Derived.Shelf.Abstract
import Derived.WalkKit
import Derived.OwnWalkIn
import Derived.TacticsInMore
import Derived.LoopNIn
import Derived.LoopIn
namespace Go.Proofs.Ytloailicdoknbaa
open Go.RowKit Go.Shelf
attribute [local go_sem] Oper.semAt_some

/-- What is walked plainly, holds in a round too: an operation. -/
theorem oper_in {l n : Nat} {P : Program} {o : Oper} {a : Act} {w : World} {K K' : Act → World → Prop} {Q : Exit → Act → World → Prop} (hd : ∀ c, o.op ≠ .defer c) (hK : ∀ a w, K a w → K' a w) (h : o.wp P a w K Q) : o.wpIn (Fence.wide.inRound l) n P a w K' Q := by
  refine ⟨fun _ _ => trivial, ?_⟩
  rw [Fence.inRound_round, Oper.semAt_some l _ _ hd]
  unfold Oper.wp at h
  generalize (execOp a.eval o).run P w = r at *
  cases r with
  | ok x w' =>
    cases x <;> simp only [Oper.upon, Oper.uponIn] at h ⊢
    case value v => exact hK _ _ h
    case skip => exact hK _ _ h
    case defer d => exact hK _ _ h
    case enter f args =>
      refine ⟨fun k => by simp [Fence.wide] at k, CallsIn.inRound l (callsIn_wide.2 (Calls.mono h ?_))⟩
      intro e w'' he
      cases e with
      | returned v => exact hK _ _ he
      | panicked c => exact he
      | outgrown => exact he
    case row row args =>
      refine ⟨fun k => by simp [Fence.wide] at k, fun c cs hroom => ?_⟩
      obtain ⟨v, w'', r, s⟩ := h c cs
      exact ⟨v, w'', hK _ _ r, stepsIn_wide.2 s⟩
  | halt x w' =>
    cases x <;> simp only [Oper.upon, Oper.uponIn] at h ⊢
    exact h
theorem any_in {l n : Nat} {P : Program} {md : Region.Mode} {ops : Array Oper} {Q : Exit → Act → World → Prop} (hd : ∀ (i : Nat) o, ops[i]? = some o → ∀ c, o.op ≠ .defer c) (hQ : ¬ LetsOut Q) : ∀ (fuel : Nat) (listed : Array Bool) (a : Act) (w : World), wpAny P md ops Q fuel listed a w → wpAnyIn (Fence.wide.inRound l) n P md ops Q fuel listed a w
  | 0, _, _, _, h => h
  | fuel + 1, listed, a, w, h => by
    refine ⟨h.1, fun i hi => ?_⟩
    have h2 := h.2 i hi
    unfold wpOp at h2
    unfold wpOpIn
    split at h2
    · next e => rw [e]; exact any_in hd hQ fuel _ _ _ h2
    · next o e =>
      rw [e]
      simp only
      split at h2
      · next hw =>
        rw [if_pos hw]
        exact oper_in (hd i o e) (fun a w => any_in hd hQ fuel _ a w) (h2.resolve_right fun k => hQ k.2)
      · next hw =>
        rw [if_neg hw]
        exact ⟨fun _ _ => trivial, any_in hd hQ fuel _ _ _ h2⟩
def noDefer (o : Oper) : Bool := match o.op with | .defer _ => false | _ => true
theorem noDefer_all {ops : Array Oper} (h : ops.all noDefer = true) : ∀ (i : Nat) o, ops[i]? = some o → ∀ c, o.op ≠ .defer c := fun i o e c ec => by
  have h1 := (Array.all_eq_true_iff_forall_mem.1 h) o (Array.mem_of_getElem? e)
  simp [noDefer, ec] at h1
/-- A region that draws its order, in a round. -/
theorem region_held_in {S : World → Prop} {l n : Nat} {P : Program} {ops : Array Oper} {Q : Exit → Act → World → Prop} {id : Nat} {a : Act} {w : World} (hm : P.follows .mixedOrders = true) (hS : S w.drew) (hd : ops.all noDefer = true) (hQ : ¬ LetsOut Q)
    (h : S w.drew → wpAnyH P .any ops Q S ops.size (Array.replicate ops.size false) a w.drew) : (Code.region id ops true).wpIn (Fence.wide.inRound l) n P Q a w :=
  wpIn_region_any hm (any_in (noDefer_all hd) hQ _ _ _ _ (wpAny_of_held _ _ _ _ (h hS)))
/-- What lay there lies there. -/
theorem keeps_below {w w' : World} (h : Below w.heap.size w w') : KeepsOthers w w' := ⟨h.size, fun k _ hk _ => (h.block k (Array.getElem?_eq_some_iff.1 hk).1).trans hk⟩
/-- The elements from the last on: the first t of them. -/
def dn (n : Nat) (hn : 0 < n) : Nat → List { x : Nat // x < n }
  | 0 => []
  | t + 1 => dn n hn t ++ [⟨n - 1 - t, by omega⟩]
theorem dn_len (n : Nat) (hn : 0 < n) (t : Nat) : (dn n hn t).length = t := by
  induction t with
  | zero => rfl
  | succ t ih => simp [dn, ih]
/-- Two blocks stay as they are. -/
def Kp2 (b g : Nat) (W W' : World) : Prop := W'.heap[b]? = W.heap[b]? ∧ W'.heap[g]? = W.heap[g]?
theorem Kp2.t {b g : Nat} {A B C : World} (h : Kp2 b g A B) (k : Kp2 b g B C) : Kp2 b g A C := ⟨k.1.trans h.1, k.2.trans h.2⟩
theorem backward_any (a : Option Addr) (n c : Nat) (w : World) : Calls Try.prog 42 #[.slice a n c] w fun e w' => e = .returned (.func (.func 55) #[] #[.pointer (some ⟨w.heap.size, 0, none⟩)]) ∧ w' = w.alloc (.cells #[.slice a n c] 54) := by
  go_enter Try.func42, Try.ntmps42
  go_wp2
  go_ret
  exact ⟨rfl, rfl⟩
set_option maxRecDepth 100000 in
set_option maxHeartbeats 2000000 in
theorem backward_stops (n0 : Nat) {w : World} {bx ge ce n : Nat} (hn : 0 < n) (hn2 : n ≤ 1000) {el : Nat → Value} (hb : bx < w.heap.size) (hc : w.cell? ⟨bx, 0, none⟩ = some (.slice (some ⟨ge, 0, none⟩) n ce)) (hE : ElAt w ge n el) :
    SeqStopsK (α := { x : Nat // x < n }) Fence.wide n0 Try.prog 55 #[.pointer (some ⟨bx, 0, none⟩)] (fun x => #[.int .i64 (x.1 : Int), el x.1]) (Kp2 bx ge) (fun xs => xs = dn n hn n) (fun _ => True) n w := by
  intro l J Jx W bW hJ hJx hY h0
  have hwf : ∀ f, Fence.wide.fn f := fun _ => trivial
  have hwd : Fence.wide.depth.isSome = false := rfl
  have hc1 : W.cell? ⟨bx, 0, none⟩ = some (.slice (some ⟨ge, 0, none⟩) n ce) := (bW.cell (p := ⟨bx, 0, none⟩) hb).trans hc
  have hE1 := hE.below bW
  clear hc hE hb
  have hn' : (n : Int) ≤ 1000 := by omega
  have hn1 : (0 : Int) < n := by omega
  refine callsIn_of_wp Try.func55 rfl trivial ?_ rfl
  simp only [Try.ntmps55, List.size_toArray, List.length_cons, List.length_nil, Nat.reduceAdd, Nat.reduceSub, Array.replicate_succ, Array.replicate_zero, List.push_toArray, List.append_toArray, List.nil_append, List.cons_append]
  gi_wp2
  gi_loopw [3] (fun u wr => ∃ t : Nat, t ≤ n ∧ u = .int .i64 ((n : Int) - 1 - t) ∧ wr.cell? ⟨bx, 0, none⟩ = some (.slice (some ⟨ge, 0, none⟩) n ce) ∧ ElAt wr ge n el ∧ J (dn n hn t) wr) (fun u _ => (intOf u + 1).toNat)
  case atStart => exact ⟨0, Nat.zero_le _, by simp, hc1, hE1, h0⟩
  case round =>
    clear hc1 hE1 h0
    obtain ⟨t, ht, rfl, hc1, hE1, hj⟩ := hrel
    by_cases htn : t < n
    · obtain ⟨i, hi⟩ : ∃ i : Nat, n - 1 - t = i := ⟨_, rfl⟩
      have hi' : (n : Int) - 1 - t = (i : Int) := by omega
      have hin : i < n := by omega
      have hin' : (i : Int) < (n : Int) := by omega
      have c0 := hE1.2 i hin
      obtain ⟨fn, tmps, assign, body, hy, hR⟩ := hY (dn n hn t) ⟨i, hin⟩ wr hj (by rw [dn_len]; exact htn)
      dsimp only at hy
      rw [hi']
      have HD : Hid (dn n hn (t + 1) = dn n hn t ++ [⟨i, hin⟩]) := by
        show _ = _
        rw [dn]
        simp [hi]
      have HI : Hid ((n : Int) - 1 - t = (i : Int)) := hi'
      clear hi hi'
      gi_wp2
      refine hR.mono ?_
      rintro e W3 (⟨rfl, hJ3, hk3⟩ | ⟨rfl, hJx3⟩)
      · have c3 : W3.cell? ⟨bx, 0, none⟩ = some (.slice (some ⟨ge, 0, none⟩) n ce) := (World.cell?_of_block hk3.1).trans hc1
        have E3 : ElAt W3 ge n el := by
          refine ⟨?_, fun j hj => (World.cell?_of_block hk3.2).trans (hE1.2 j hj)⟩
          have h1 := hk3.2
          rw [Array.getElem?_eq_getElem hE1.1] at h1
          exact (Array.getElem?_eq_some_iff.1 h1).1
        gi_wp2
        exact ⟨⟨t + 1, by omega, by have := HI.out; simp; omega, c3, E3, by rw [HD.out]; exact hJ3⟩, by simp [intOf]⟩
      · gi_wp2
        refine bodyPost_ret (results_none rfl _ _ _) rfl ?_
        exact ⟨⟨_, rfl⟩, .inr ⟨_, trivial, hJx3⟩⟩
    · obtain rfl : t = n := by omega
      have e1 : (t : Int) - 1 - t = -1 := by omega
      rw [e1]
      gi_wp2
      go_end0
      exact ⟨⟨_, rfl⟩, .inl ⟨_, rfl, hj⟩⟩
end Go.Proofs.Ytloailicdoknbaa
