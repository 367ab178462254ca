/-
  Lists of operators in memory of their own, read alone. No function of the program.
-/
import Derived.Test.YtfmbljmcdidocaaGreatE7a
import Derived.Test.YtfmbljmcdidocaaGreatMO
namespace Go.Proofs.YtfmbljmcdidocaaGreat
open Go.RowKit

/-- A list of operators in memory from lo up to hi. -/
structure OpsR (w : World) (lo hi g n : Nat) (A : Nat → OpD) : Prop where
  bl : lo ≤ g
  bh : g < hi
  ex : ∃ (X Y : Nat → Value) (cur : Array Value), At 31 w g cur ∧ (∀ i, i < n → cur[i * 2]? = some (X i) ∧ cur[i * 2 + 1]? = some (Y i)) ∧ (∀ i, i < n → Arr w lo hi (X i) (A i).n (A i).f) ∧ ∀ i, i < n → Arr w lo hi (Y i) (A i).k (A i).h
theorem OpsR.below {w w' : World} {lo hi g n : Nat} {A : Nat → OpD} (h : OpsR w lo hi g n A) (hb : Below w.heap.size w w') : OpsR w' lo hi g n A := by
  obtain ⟨X, Y, cur, a, e, xs, ys⟩ := h.ex
  exact ⟨h.bl, h.bh, X, Y, cur, a.below hb, e, fun i hi => (xs i hi).below hb, fun i hi => (ys i hi).below hb⟩
theorem OpsR.turn {w w' : World} {lo hi a b g n : Nat} {A : Nat → OpD} (h : OpsR w a b g n A) (ht : Turn lo hi w w') (hd : b ≤ lo ∨ hi ≤ a) : OpsR w' a b g n A := by
  obtain ⟨X, Y, cur, at', e, xs, ys⟩ := h.ex
  have h1 := h.bl
  have h2 := h.bh
  exact ⟨h1, h2, X, Y, cur, (ht.block g at'.lt (by omega)).trans at', e, fun i hi => (xs i hi).turn ht hd, fun i hi => (ys i hi).turn ht hd⟩
theorem OpsR.opsL {w : World} {lo hi g n : Nat} {A : Nat → OpD} (h : OpsR w lo hi g n A) : OpsL w g n A := by
  obtain ⟨X, Y, cur, a, e, xs, ys⟩ := h.ex
  refine ⟨a.lt, fun i hi => ?_⟩
  obtain ⟨x1, d1, e1, s1⟩ := (xs i hi).src
  obtain ⟨x2, d2, e2, s2⟩ := (ys i hi).src
  exact ⟨x1, d1, x2, d2, by rw [← e1]; exact a.cell _ (e i hi).1, by rw [← e2]; exact a.cell _ (e i hi).2, s1, s2⟩
theorem OpsR.lower {w : World} {lo lo' hi g n : Nat} {A : Nat → OpD} (h : OpsR w lo hi g n A) (hl : lo' ≤ lo) : OpsR w lo' hi g n A := by
  obtain ⟨X, Y, cur, a, e, xs, ys⟩ := h.ex
  exact ⟨Nat.le_trans hl h.bl, h.bh, X, Y, cur, a, e, fun i hi => (xs i hi).wide hl (Nat.le_refl _), fun i hi => (ys i hi).wide hl (Nat.le_refl _)⟩
theorem OpsP.opsR {w : World} {lo n : Nat} {v : Value} {X Y : Nat → Value} {A : Nat → OpD} (h : OpsP w lo v n X Y A) : ∃ g c, v = .slice (some ⟨g, 0, none⟩) n c ∧ OpsR w lo w.heap.size g n A := by
  obtain ⟨g, c, cur, rfl, hb, a, e⟩ := h.open
  exact ⟨g, c, rfl, hb, a.lt, X, Y, cur, a, e, fun i hi => by rw [(h.nk i hi).1]; exact h.xs i hi, fun i hi => by rw [(h.nk i hi).2]; exact h.ys i hi⟩
theorem opsR_empty {w : World} {lo : Nat} (A : Nat → OpD) (hb : lo ≤ w.heap.size) : OpsR (w.alloc (.cells #[] 31)) lo (w.alloc (.cells #[] 31)).heap.size w.heap.size 0 A :=
  ⟨hb, by simp, fun _ => undef, fun _ => undef, #[], at_new _ w #[], fun i hi => by omega, fun i hi => by omega, fun i hi => by omega⟩
theorem opsP_new {w W : World} {A : Nat → OpD} (a1 : At 31 W w.heap.size #[]) : OpsP W w.heap.size (.slice (some ⟨w.heap.size, 0, none⟩) 0 0) 0 (fun _ => undef) (fun _ => undef) A :=
  ⟨⟨rfl, .inr ⟨w.heap.size, 0, #[], rfl, Nat.le_refl _, a1, Nat.le_refl _, Nat.zero_le _, rfl, rfl⟩⟩, ne_nil _ _ _, fun i hi => by omega, fun i hi => by omega, fun i hi => by omega⟩
theorem ins_perm {α : Type} (f : Nat → α) (x : α) {c m : Nat} (hc : c ≤ m) : ((List.range (m + 1)).map (ins c f x)).Perm (x :: (List.range m).map f) := by
  obtain ⟨d, rfl⟩ : ∃ d, m = c + d := ⟨m - c, by omega⟩
  have h1 : (List.range (c + d + 1)).map (ins c f x) = (List.range c).map f ++ x :: (List.range d).map (fun t => f (c + t)) := by
    rw [show c + d + 1 = c + (d + 1) by omega, List.range_add, List.map_append, List.range_succ_eq_map]
    congr 1
    · exact List.map_congr_left (fun t ht => ins_lo (List.mem_range.1 ht))
    · simp only [List.map_cons, List.map_map, Nat.add_zero, ins_at, List.cons.injEq, true_and]
      refine List.map_congr_left (fun t ht => ?_)
      simp only [Function.comp_apply]
      rw [ins_hi (by omega)]
      congr 1
  have h2 : (List.range (c + d)).map f = (List.range c).map f ++ (List.range d).map (fun t => f (c + t)) := by
    rw [List.range_add, List.map_append, List.map_map]
    rfl
  rw [h1, h2]
  exact List.perm_middle
end Go.Proofs.YtfmbljmcdidocaaGreat
