/-
  The slopes of a node: walked.
-/
import Derived.Test.YtloailicdoknbaaV15f
import Derived.Stop.Asserts
namespace Go.Proofs.Ytloailicdoknbaa
open Go.RowKit

/-- How many slopes a node has. -/
def spM (op : Int) : Nat := if op = 5 then 0 else if op = 2 ∨ op = 3 then 2 else 1
/-- Places and slopes by turns. -/
def spF (inp : Int) (op a b : Int) (v : Nat → Int) (i : Nat) : Int :=
  match i with
  | 0 => if op = 1 then a else inp + a
  | 1 => if op = 3 then v b.toNat else if op = 4 then -1 else 1
  | 2 => inp + b
  | _ => if op = 3 then v a.toNat else 1
def SlAt (w : World) (v : Value) (m : Nat) (pf : Nat → Int) : Prop := (m = 0 ∧ v = .slice none 0 0) ∨ ∃ g, v = .slice (some ⟨g, 0, none⟩) m m ∧ Recs 2 w g m pf
theorem SlAt.below {w w' : World} {v : Value} {m : Nat} {pf : Nat → Int} (h : SlAt w v m pf) (hb : Below w.heap.size w w') : SlAt w' v m pf := by
  refine h.imp id ?_
  rintro ⟨g, e, r⟩
  exact ⟨g, e, r.below hb⟩
/-- What is told of a node's slopes. -/
def SlP (w : World) (m : Nat) (pf : Nat → Int) (e : Ending) (w' : World) : Prop := (∃ v, e = .returned v ∧ SlAt w' v m pf) ∧ Below w.heap.size w w'
theorem recs1 {w : World} {t : TypeId} {g : Nat} {p q : Int} {pf : Nat → Int} (h : At t w g #[.int .i64 p, .int .i64 q]) (h0 : pf 0 = p) (h1 : pf 1 = q) : Recs 2 w g 1 pf := by
  refine ⟨h.lt, fun i hi => ?_⟩
  obtain rfl | rfl : i = 0 ∨ i = 1 := by omega
  · rw [h0]; exact h.cell 0 rfl
  · rw [h1]; exact h.cell 1 rfl
theorem recs2 {w : World} {t : TypeId} {g : Nat} {p q r s : Int} {pf : Nat → Int} (h : At t w g #[.int .i64 p, .int .i64 q, .int .i64 r, .int .i64 s]) (h0 : pf 0 = p) (h1 : pf 1 = q) (h2 : pf 2 = r) (h3 : pf 3 = s) : Recs 2 w g 2 pf := by
  refine ⟨h.lt, fun i hi => ?_⟩
  obtain rfl | rfl | rfl | rfl : i = 0 ∨ i = 1 ∨ i = 2 ∨ i = 3 := by omega
  · rw [h0]; exact h.cell 0 rfl
  · rw [h1]; exact h.cell 1 rfl
  · rw [h2]; exact h.cell 2 rfl
  · rw [h3]; exact h.cell 3 rfl
theorem inS_any (a : Int) (u : Value) (w : World) {pf : Nat → Int} (h0 : pf 0 = a) (h1 : pf 1 = 1) : Calls Try.prog 80 #[.agg #[.int .i64 a], u] w (SlP w 1 pf) := by
  have hb1 : ∀ (p q : Int) w, (Instr.buildSlice 63 1 #[(0, .agg #[.int .i64 p, .int .i64 q])]).run Try.prog w = .ok (.slice (some ⟨w.heap.size, 0, none⟩) 1 1) (w.alloc (.cells #[.int .i64 p, .int .i64 q] 66)) := fun _ _ _ => by kernel_rfl
  obtain ⟨W, hW, a1, bW, -⟩ := boxed w 97 #[.int .i64 a]
  obtain ⟨V, hV, a2, bV, -⟩ := boxed W 66 #[.int .i64 a, .int .i64 1]
  have k0 := a1.cell 0 rfl
  go_enter Try.func80, Try.ntmps80
  go_wp2
  go_ret
  exact ⟨⟨_, rfl, .inr ⟨_, rfl, recs1 a2 h0 h1⟩⟩, bW.trans (bV.mono bW.size)⟩
theorem minS_any (a : Int) (u : Value) (w : World) {pf : Nat → Int} (h0 : pf 0 = a) (h1 : pf 1 = -1) : Calls Try.prog 87 #[.agg #[.int .i64 a], u] w (SlP w 1 pf) := by
  have hb1 : ∀ (p q : Int) w, (Instr.buildSlice 63 1 #[(0, .agg #[.int .i64 p, .int .i64 q])]).run Try.prog w = .ok (.slice (some ⟨w.heap.size, 0, none⟩) 1 1) (w.alloc (.cells #[.int .i64 p, .int .i64 q] 66)) := fun _ _ _ => by kernel_rfl
  obtain ⟨W, hW, a1, bW, -⟩ := boxed w 101 #[.int .i64 a]
  obtain ⟨V, hV, a2, bV, -⟩ := boxed W 66 #[.int .i64 a, .int .i64 (-1)]
  have k0 := a1.cell 0 rfl
  go_enter Try.func87, Try.ntmps87
  go_wp2
  go_ret
  exact ⟨⟨_, rfl, .inr ⟨_, rfl, recs1 a2 h0 h1⟩⟩, bW.trans (bV.mono bW.size)⟩
theorem sumS_any (a b : Int) (u : Value) (w : World) {pf : Nat → Int} (h0 : pf 0 = a) (h1 : pf 1 = 1) (h2 : pf 2 = b) (h3 : pf 3 = 1) : Calls Try.prog 82 #[.agg #[.int .i64 a, .int .i64 b], u] w (SlP w 2 pf) := by
  have hb1 : ∀ (p q r s : Int) w, (Instr.buildSlice 63 2 #[(0, .agg #[.int .i64 p, .int .i64 q]), (1, .agg #[.int .i64 r, .int .i64 s])]).run Try.prog w = .ok (.slice (some ⟨w.heap.size, 0, none⟩) 2 2) (w.alloc (.cells #[.int .i64 p, .int .i64 q, .int .i64 r, .int .i64 s] 66)) := fun _ _ _ _ _ => by kernel_rfl
  obtain ⟨W, hW, a1, bW, -⟩ := boxed w 99 #[.int .i64 a, .int .i64 b]
  obtain ⟨V, hV, a2, bV, -⟩ := boxed W 66 #[.int .i64 a, .int .i64 1, .int .i64 b, .int .i64 1]
  have k0 := a1.cell 0 rfl
  have k1 := a1.cell 1 rfl
  go_enter Try.func82, Try.ntmps82
  go_wp2
  go_ret
  exact ⟨⟨_, rfl, .inr ⟨_, rfl, recs2 a2 h0 h1 h2 h3⟩⟩, bW.trans (bV.mono bW.size)⟩
set_option maxHeartbeats 1600000 in
theorem prodS_any {w : World} {g m c a b : Nat} {F : Nat → Int} (h : Ints w g 0 m F) (hg : g < w.heap.size) (ha : a < m) (hb : b < m) (hm : m ≤ 1000) {pf : Nat → Int} (h0 : pf 0 = (a : Int)) (h1 : pf 1 = F b) (h2 : pf 2 = (b : Int)) (h3 : pf 3 = F a) : Calls Try.prog 84 #[.agg #[.int .i64 (a : Int), .int .i64 (b : Int)], .slice (some ⟨g, 0, none⟩) m c] w (SlP w 2 pf) := by
  have hb1 : ∀ (p q r s : Int) w, (Instr.buildSlice 63 2 #[(0, .agg #[.int .i64 p, .int .i64 q]), (1, .agg #[.int .i64 r, .int .i64 s])]).run Try.prog w = .ok (.slice (some ⟨w.heap.size, 0, none⟩) 2 2) (w.alloc (.cells #[.int .i64 p, .int .i64 q, .int .i64 r, .int .i64 s] 66)) := fun _ _ _ _ _ => by kernel_rfl
  obtain ⟨W, hW, a1, bW, -⟩ := boxed w 100 #[.int .i64 (a : Int), .int .i64 (b : Int)]
  have bD := bW.drew
  obtain ⟨V, hV, a2, bV, -⟩ := boxed W.drew 66 #[.int .i64 (a : Int), .int .i64 (F b), .int .i64 (b : Int), .int .i64 (F a)]
  have k0 := a1.cell 0 rfl
  have k1 := a1.cell 1 rfl
  have k2 := cellAt (h.below hg bW) ha
  have k3 := cellAt (h.below hg bW) hb
  have ha' : (a : Int) < (m : Int) := by omega
  have hb' : (b : Int) < (m : Int) := by omega
  have hm' : (m : Int) ≤ 1000 := by omega
  have HR := recs2 a2 h0 h1 h2 h3
  have BV := bD.trans (bV.mono bD.size)
  clear h a1 a2 bV bW bD h0 h1 h2 h3 hg
  go_enter Try.func84, Try.ntmps84
  go_wp2_with fail
  go_region
  go_wp2
  go_ret
  exact ⟨⟨_, rfl, .inr ⟨_, rfl, HR⟩⟩, BV⟩
theorem smeth_in (a : Value) (w : World) : (method 220 97 (.agg #[a]) "loop.example/g00055/impl.slopes").run Try.prog w = .ok (80, .agg #[a]) w := by kernel_rfl
theorem smeth_sum (a b : Value) (w : World) : (method 220 99 (.agg #[a, b]) "loop.example/g00055/impl.slopes").run Try.prog w = .ok (82, .agg #[a, b]) w := by kernel_rfl
theorem smeth_prod (a b : Value) (w : World) : (method 220 100 (.agg #[a, b]) "loop.example/g00055/impl.slopes").run Try.prog w = .ok (84, .agg #[a, b]) w := by kernel_rfl
theorem smeth_min (a : Value) (w : World) : (method 220 101 (.agg #[a]) "loop.example/g00055/impl.slopes").run Try.prog w = .ok (87, .agg #[a]) w := by kernel_rfl
theorem has_in (v : Value) (w : World) : (Instr.typeAssert (.iface 97 v) 62 81 true).run Try.prog w = .ok (.tuple #[.iface 97 v, .bool true]) w := run_typeAssert_hasB Try.underlying81 (by kernel_rfl) v _ w
theorem has_sum (v : Value) (w : World) : (Instr.typeAssert (.iface 99 v) 62 81 true).run Try.prog w = .ok (.tuple #[.iface 99 v, .bool true]) w := run_typeAssert_hasB Try.underlying81 (by kernel_rfl) v _ w
theorem has_prod (v : Value) (w : World) : (Instr.typeAssert (.iface 100 v) 62 81 true).run Try.prog w = .ok (.tuple #[.iface 100 v, .bool true]) w := run_typeAssert_hasB Try.underlying81 (by kernel_rfl) v _ w
theorem has_min (v : Value) (w : World) : (Instr.typeAssert (.iface 101 v) 62 81 true).run Try.prog w = .ok (.tuple #[.iface 101 v, .bool true]) w := run_typeAssert_hasB Try.underlying81 (by kernel_rfl) v _ w
theorem lacks_con (v : Value) (w : World) : (Instr.typeAssert (.iface 102 v) 62 81 true).run Try.prog w = .ok (.tuple #[.nilIface, .bool false]) w := run_typeAssert_lacksB Try.underlying81 (by kernel_rfl) (by kernel_rfl) v _ w
set_option maxRecDepth 100000 in
set_option maxHeartbeats 1600000 in
theorem slopesOf_in (a : Int) (u : Value) (w : World) {pf : Nat → Int} (h0 : pf 0 = a) (h1 : pf 1 = 1) : Calls Try.prog 40 #[.iface 97 (.agg #[.int .i64 a]), u] w (SlP w 1 pf) := by
  have C := inS_any a u w h0 h1
  have hh := fun w => has_in (.agg #[.int .i64 a]) w
  have hm := fun w => smeth_in (.int .i64 a) w
  go_enter Try.func40, Try.ntmps40
  go_wp2_with fail
  refine C.mono ?_
  rintro e w2 ⟨⟨v, rfl, hv⟩, bb⟩
  go_wp2
  go_ret
  exact ⟨⟨_, rfl, hv⟩, bb⟩
set_option maxRecDepth 100000 in
set_option maxHeartbeats 1600000 in
theorem slopesOf_min (a : Int) (u : Value) (w : World) {pf : Nat → Int} (h0 : pf 0 = a) (h1 : pf 1 = -1) : Calls Try.prog 40 #[.iface 101 (.agg #[.int .i64 a]), u] w (SlP w 1 pf) := by
  have C := minS_any a u w h0 h1
  have hh := fun w => has_min (.agg #[.int .i64 a]) w
  have hm := fun w => smeth_min (.int .i64 a) w
  go_enter Try.func40, Try.ntmps40
  go_wp2_with fail
  refine C.mono ?_
  rintro e w2 ⟨⟨v, rfl, hv⟩, bb⟩
  go_wp2
  go_ret
  exact ⟨⟨_, rfl, hv⟩, bb⟩
set_option maxRecDepth 100000 in
set_option maxHeartbeats 1600000 in
theorem slopesOf_sum (a b : Int) (u : Value) (w : World) {pf : Nat → Int} (h0 : pf 0 = a) (h1 : pf 1 = 1) (h2 : pf 2 = b) (h3 : pf 3 = 1) : Calls Try.prog 40 #[.iface 99 (.agg #[.int .i64 a, .int .i64 b]), u] w (SlP w 2 pf) := by
  have C := sumS_any a b u w h0 h1 h2 h3
  have hh := fun w => has_sum (.agg #[.int .i64 a, .int .i64 b]) w
  have hm := fun w => smeth_sum (.int .i64 a) (.int .i64 b) w
  go_enter Try.func40, Try.ntmps40
  go_wp2_with fail
  refine C.mono ?_
  rintro e w2 ⟨⟨v, rfl, hv⟩, bb⟩
  go_wp2
  go_ret
  exact ⟨⟨_, rfl, hv⟩, bb⟩
set_option maxRecDepth 100000 in
set_option maxHeartbeats 1600000 in
theorem slopesOf_prod {w : World} {g m c a b : Nat} {F : Nat → Int} (h : Ints w g 0 m F) (hg : g < w.heap.size) (ha : a < m) (hb : b < m) (hm : m ≤ 1000) {pf : Nat → Int} (h0 : pf 0 = (a : Int)) (h1 : pf 1 = F b) (h2 : pf 2 = (b : Int)) (h3 : pf 3 = F a) : Calls Try.prog 40 #[.iface 100 (.agg #[.int .i64 (a : Int), .int .i64 (b : Int)]), .slice (some ⟨g, 0, none⟩) m c] w (SlP w 2 pf) := by
  have C := prodS_any (c := c) h hg ha hb hm h0 h1 h2 h3
  have hh := fun w => has_prod (.agg #[.int .i64 (a : Int), .int .i64 (b : Int)]) w
  have hm := fun w => smeth_prod (.int .i64 (a : Int)) (.int .i64 (b : Int)) w
  go_enter Try.func40, Try.ntmps40
  go_wp2_with fail
  refine C.mono ?_
  rintro e w2 ⟨⟨v, rfl, hv⟩, bb⟩
  go_wp2
  go_ret
  exact ⟨⟨_, rfl, hv⟩, bb⟩
set_option maxRecDepth 100000 in
set_option maxHeartbeats 1600000 in
theorem slopesOf_con (a : Int) (u : Value) (w : World) {pf : Nat → Int} : Calls Try.prog 40 #[.iface 102 (.int .i64 a), u] w (SlP w 0 pf) := by
  have hh := fun w => lacks_con (.int .i64 a) w
  go_enter Try.func40, Try.ntmps40
  go_wp2
  go_ret
  exact ⟨⟨_, rfl, .inl ⟨rfl, rfl⟩⟩, Below.refl _ _⟩
/-- The slopes of step k, over the values of the nodes ahead. -/
theorem slopesOf_any {w : World} {g n k c inp : Nat} {f x v : Nat → Int} (h : Ints w g 0 (inp + n) (Fx inp x v)) (hg : g < w.heap.size) (ok : TpOk n (inp : Int) f) (hk : k < n) :
    Calls Try.prog 40 #[els (inp : Int) f k, .slice (some ⟨g, 0, none⟩) (inp + n) c] w (SlP w (spM (f (k * 3))) (spF (inp : Int) (f (k * 3)) (f (k * 3 + 1)) (f (k * 3 + 2)) v)) := by
  have h1 := ok.1
  have h2 := ok.2.1.2
  rw [show els (inp : Int) f k = elV (inp : Int) (f (k * 3)) (f (k * 3 + 1)) (f (k * 3 + 2)) from rfl]
  rcases (ok.2.2 k hk).ways with ⟨e1, e2, A, e3, hA⟩ | ⟨e1, A, B, e2, e3, hA, hB⟩ | ⟨e1, A, B, e2, e3, hA, hB⟩ | ⟨e1, e2, A, e3, hA⟩ | ⟨e1, e2⟩
  · rw [e1, e2, e3]
    exact slopesOf_in _ _ _ rfl rfl
  · rw [e1, e2, e3]
    exact slopesOf_sum _ _ _ _ rfl rfl rfl rfl
  · rw [e1, e2, e3]
    exact slopesOf_prod (a := inp + A) (b := inp + B) h hg (by omega) (by omega) (by omega) rfl (Fx_at inp x v B).symm rfl (Fx_at inp x v A).symm
  · rw [e1, e2, e3]
    exact slopesOf_min _ _ _ rfl rfl
  · rw [e1, e2]
    exact slopesOf_con _ _ _
end Go.Proofs.Ytloailicdoknbaa
