/-
  Bytes that are gathered: the steps, and what they come to.
-/
import Derived.Test.YtdhfoekfejcceaaS16h
namespace Go.Proofs.Ytdhfoekfejcceaa
open Go.RowKit

theorem wpList_bt {w0 w : World} {L : List UInt8} {ops : Array Oper} {rest : List Oper} {o : Oper} {a : Act} {Q : Exit → Act → World → Prop} (hgd : o.guard = none) (s x : Operand)
    (ho : o.op = .call { callee := .builtin .append, args := #[s, x], argTypes := #[55, 55] })
    (v : Value) (hs : a.eval s = v) (G : Bt w0 w v L) (ad : Addr) (m c : Nat) (M : List UInt8) (hm : M.length = m) (hx : a.eval x = .slice (some ad) m c) (hnews : ∀ j u, (bCells M)[j]? = some u → w.cell? (ad.add j) = some u) (hb : L.length + M.length ≤ 100000000000000)
    (h : ∀ v' w', Bt w0 w' v' (L ++ M) → w.grownBy w' v.ownBlock → wpList Try.prog ops Q rest (a.put o.dst v') w') : wpList Try.prog ops Q (o :: rest) a w := by
  subst hm
  refine wpList_plain hgd fun _ hK => ?_
  obtain ⟨v', w', hr, h2, h3⟩ := bt_append G o.type ad c M hnews hb
  unfold Oper.wp execOp
  simp only [ho, resolve, invoke, builtin, Sem.run_bind, Sem.run_pure, Result.andThen_ok, List.map_toArray, List.map_cons, List.map_nil, hs, hx, hr]
  exact hK _ _ (h v' w' h2 h3)
theorem step_bt {w0 w : World} {L : List UInt8} {ops : Array Oper} {o : Oper} {a : Act} {K : Act → World → Prop} {Q : Exit → Act → World → Prop} {E : Prop} (hgd : o.guard = none) (s x : Operand)
    (ho : o.op = .call { callee := .builtin .append, args := #[s, x], argTypes := #[55, 55] })
    (v : Value) (hs : a.eval s = v) (G : Bt w0 w v L) (ad : Addr) (m c : Nat) (M : List UInt8) (hm : M.length = m) (hx : a.eval x = .slice (some ad) m c) (hnews : ∀ j u, (bCells M)[j]? = some u → w.cell? (ad.add j) = some u) (hb : L.length + M.length ≤ 100000000000000)
    (h : ∀ v' w', Bt w0 w' v' (L ++ M) → w.grownBy w' v.ownBlock → K (a.put o.dst v') w') : if Region.wanted o (yielded ops a.tmps) = true then Oper.wp Try.prog o a w K Q else E := by
  subst hm
  have hw : Region.wanted o (yielded ops a.tmps) = true := by simp [Region.wanted, hgd]
  rw [if_pos hw]
  obtain ⟨v', w', hr, h2, h3⟩ := bt_append G o.type ad c M hnews hb
  unfold Oper.wp execOp
  simp only [ho, resolve, invoke, builtin, Sem.run_bind, Sem.run_pure, Result.andThen_ok, List.map_toArray, List.map_cons, List.map_nil, hs, hx, hr]
  exact h v' w' h2 h3
/-- []byte(text). -/
theorem conv_any (w : World) (s : ByteArray) (hs : s.size ≤ 1000000) : ∃ W cap, (convert 9 55 (.string s)).run Try.prog w = .ok (.slice (some ⟨w.heap.size, 0, none⟩) s.size cap) W ∧ Below w.heap.size w W ∧ w.heap.size < W.heap.size ∧ s.size ≤ cap ∧ cap ≤ maxLen ∧ (∀ j u, (bCells s.data.toList)[j]? = some u → W.cell? ⟨w.heap.size, j, none⟩ = some u) ∧ ∀ j, s.size ≤ j → j < cap → (W.cell? ⟨w.heap.size, j, none⟩).isSome = true ∧ W.frozen? ⟨w.heap.size, j, none⟩ = false := by
  have cv := run_bytes_of_string (P := Try.prog) w 9 55 5 s Try.underlying9 Try.underlying55 Try.underlying5
  have hcap := grownCap_ge w s.size 0 5
  have hmax := grownCap_le_maxLen w s.size 0 5 (by unfold maxLen; omega)
  obtain ⟨c, hc⟩ : ∃ c, grownCap w s.size 0 5 = c := ⟨_, rfl⟩
  rw [hc] at cv hcap hmax
  have hsz : (bytesRow s c).size = c := by
    unfold bytesRow
    simp only [Array.size_append, Array.size_map, Array.size_replicate]
    have : s.data.size = s.size := rfl
    omega
  refine ⟨_, _, cv, (Below.refl _ w).drew.alloc (Nat.le_refl _) _, by rw [World.size_alloc]; exact Nat.lt_succ_self _, hcap, hmax, fun j u hu => ?_, fun j j1 j2 => ?_⟩
  · have hj := (List.getElem?_eq_some_iff.1 hu).1
    rw [bCells_len, Array.length_toList] at hj
    rw [bCells_at _ j (by rw [Array.length_toList]; exact hj)] at hu
    have h := World.cell?_alloc_mark w.drew (bytesRow s c) 5 ((bytesRow s c).size, (bytesRow s c).size + 1) j
    rw [bytesRow_at s c j hj] at h
    rw [← hu]
    simpa using h
  · have hb : (w.drew.alloc (.cells (bytesRow s c) 5 ((bytesRow s c).size, (bytesRow s c).size + 1))).heap[w.heap.size]? = some (.cells (bytesRow s c) 5 ((bytesRow s c).size, (bytesRow s c).size + 1)) := by
      show (w.heap.push _)[w.heap.size]? = _
      simp
    constructor
    · simp only [World.cell?, hb]
      simp [hsz, j2]
    · simp only [World.frozen?, hb]
      simp [hsz]
      omega
theorem Bt.text {w0 w : World} {v : Value} {L : List UInt8} (G : Bt w0 w v L) : (convert 55 9 v).run Try.prog w = .ok (.string ⟨L.toArray⟩) w := by
  obtain ⟨g, c, rfl, -, -, -, -, h4, -⟩ := G.own
  exact run_convert_bytes_back w 55 9 5 ⟨g, 0, none⟩ c L Try.underlying55 Try.underlying5 Try.underlying9 fun j hj => by rw [Addr.add_lit, Nat.zero_add]; exact h4 j _ (bCells_at L j hj)
/-- Lines, each with its end. -/
def fl (l : List ByteArray) : List UInt8 := l.flatMap fun x => x.data.toList ++ [10]
theorem fl_add (l m : List ByteArray) : fl (l ++ m) = fl l ++ fl m := by simp [fl]
theorem fl_one (x : ByteArray) : fl [x] = x.data.toList ++ [10] := by simp [fl]
theorem fl_join (x : ByteArray) (l : List ByteArray) : Lib.join ((x :: l).map (·.data.toList)) [10] ++ [10] = fl (x :: l) := by
  rw [List.map_cons, Lib.join_cons]
  induction l generalizing x with
  | nil => simp [Lib.joinTail, fl]
  | cons y l ih =>
    have h1 := ih y
    have h2 : fl (x :: y :: l) = x.data.toList ++ [10] ++ fl (y :: l) := by simp [fl]
    rw [h2, ← h1]
    simp [Lib.joinTail]
theorem join_add (l : List (List UInt8)) (x : List UInt8) (h : l ≠ []) : Lib.join (l ++ [x]) [32] = Lib.join l [32] ++ [32] ++ x := by
  cases l with
  | nil => exact absurd rfl h
  | cons y l =>
    rw [List.cons_append, Lib.join_cons, Lib.join_cons]
    simp [Lib.joinTail]
theorem shw_fl (s : ByteArray) (nm : Nat → ByteArray) (f : Nat → Nat → ByteArray) (rw : Nat → Int) (F : Nat) (lp : Nat → Int) (M : Nat) : shw s nm f rw F lp M = ⟨(fl (shL s nm f rw F lp F M)).toArray⟩ := by
  unfold shw
  have h : shL s nm f rw F lp F M = (DATA ++ s) :: (sgL nm f F ++ lsL nm f rw F lp M) := by simp [shL]
  rw [h, ← fl_join]
  refine ByteArray.ext ?_
  simp
end Go.Proofs.Ytdhfoekfejcceaa
