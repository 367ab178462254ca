/-
  Lists of operators copied, and drawn groups handed out: walked.
-/
import Derived.Test.YtpolnkjmojofoaaD17a
import Derived.Test.YtpolnkjmojofoaaDrE
namespace Go.Proofs.Ytpolnkjmojofoaa
open Go.RowKit

/-- What is told of copies. -/
def CopG (w : World) (n : Nat) (A : Nat → OpD) (e : Ending) (w' : World) : Prop :=
  (∃ X Y v, e = .returned v ∧ OpsP w' w.heap.size v n X Y A) ∧ Below w.heap.size w w'
theorem OpsP.alikeP {w : World} {lo n : Nat} {v : Value} {X Y : Nat → Value} {A A' : Nat → OpD} (h : OpsP w lo v n X Y A) (e : ∀ i, i < n → A i = A' i) : OpsP w lo v n X Y A' :=
  ⟨h.row, h.nn, fun i hi => e i hi ▸ h.xs i hi, fun i hi => e i hi ▸ h.ys i hi, fun i hi => e i hi ▸ h.nk i hi⟩
set_option maxRecDepth 100000 in
set_option maxHeartbeats 3000000 in
theorem copyOps_any {w : World} {g n c : Nat} {A : Nat → OpD} (hL : OpsL w g n A) (hn : n ≤ 192) (ok : ∀ i, i < n → (A i).ok) :
    Calls Try.prog 10 #[.slice (some ⟨g, 0, none⟩) n c] w (CopG w n A) := by
  have hbs : ∀ w, (Instr.buildSlice 24 0 #[]).run Try.prog w = .ok (.slice (some ⟨w.heap.size, 0, none⟩) 0 0) (w.alloc (.cells #[] 33)) := fun _ => by kernel_rfl
  obtain ⟨i0, hi0, hz0, hz1, hz2⟩ := info_parts Try.info33
  have hn' : (n : Int) ≤ 192 := by omega
  obtain ⟨W1, hW1, a1, B1, -⟩ := boxed w 33 #[]
  obtain ⟨g0, hg0⟩ : ∃ q, w.heap.size = q := ⟨_, rfl⟩
  have O1 : OpsP W1 w.heap.size (.slice (some ⟨g0, 0, none⟩) 0 0) 0 (fun _ => undef) (fun _ => undef) A := by
    rw [← hg0]; exact opsP_new1 a1
  clear a1
  have HL := hid_of hL
  have HO := hid_of ok
  clear hL ok
  go_enter Try.func10, Try.ntmps10
  go_wp2
  clear hW1 hg0
  go_loopw [3, 4] (fun v s wr => ∃ (i : Nat), i ≤ n ∧ s = .int .i64 (i : Int) ∧ Hid ((∃ X Y, OpsP wr w.heap.size v i X Y A) ∧ Below w.heap.size w wr)) (fun _ s _ => n - (intOf s).toNat)
  case atStart => exact ⟨0, Nat.zero_le _, rfl, ⟨_, _, O1⟩, B1⟩
  case round =>
    clear O1 B1
    obtain ⟨i, hi, rfl, I⟩ := hrel
    obtain ⟨⟨X, Y, O⟩, B⟩ := I.out
    clear I
    by_cases hlt : i < n
    · have hlt' : (i : Int) < (n : Int) := by omega
      have hm1 : i + 1 ≤ maxLen := by unfold maxLen; omega
      have hm2 : (i + 1) * 48 ≤ 140737488355328 := by omega
      have hLB := HL.out.below B
      have okk := HO.out i hlt
      obtain ⟨xa, xc, xb, xd, f0, f1, s1, s2⟩ := hLB.2 i hlt
      rw [okk.1] at f0 s1
      rw [okk.2.1] at f1 s2
      have rk : (A i).n = 9 ∧ (A i).k = 3 := ⟨okk.1, okk.2.1⟩
      rcases s1 with s1 | ⟨b1, o1, rfl, l1, i1⟩
      · omega
      rcases s2 with s2 | ⟨b2, o2, rfl, l2, i2⟩
      · omega
      have CP := copyOpA_any (c1 := xc) (c2 := xd) i1 i2 l1 l2
      clear hLB okk i1 i2
      go_wp2_with fail
      refine CP.mono ?_
      rintro e w3 ⟨x3, l3, x4, l4, rfl, t1, t2, b3⟩
      clear CP f0 f1
      obtain ⟨W6, hW6, a6, b6, -⟩ := boxed w3 33 #[.slice x3 9 l3, .slice x4 3 l4]
      have O6 := (O.below b3).below b6
      have B6 := (B.trans (b3.mono B.size)).trans (b6.mono (B.trans (b3.mono B.size)).size)
      have rx6 := ((t1.wide B.size (Nat.le_refl _)).below b6).wide (Nat.le_refl _) b6.size
      have ry6 := ((t2.wide B.size (Nat.le_refl _)).below b6).wide (Nat.le_refl _) b6.size
      have hnw : ∀ j u, [Value.slice x3 9 l3, Value.slice x4 3 l4][j]? = some u → W6.cell? ((⟨w3.heap.size, 0, none⟩ : Addr).add j) = some u := by
        intro j u hu
        match j with
        | 0 => cases hu; exact a6.cell 0 rfl
        | 1 => cases hu; exact a6.cell 1 rfl
        | j + 2 => cases hu
      have h1c : ∀ u ∈ [Value.slice x3 9 l3, Value.slice x4 3 l4], u.oneCell' = true := by
        intro u hu
        simp at hu
        rcases hu with rfl | rfl <;> rfl
      have hm3 : w.heap.size ≤ W6.heap.size := B6.size
      clear O t1 t2 b3 b6 B
      go_wp2_with (at_builtin; refine Hid.out (?_ : Hid _))
      refine (?_ : wpList _ _ _ _ _ _)
      refine wpList_append_own_at _ rfl _ _ _ rfl w.heap.size 33 i0 _ 2 48 Try.underlying24 hi0 hz0 hz1 hz2 rfl (by omega) u3 i _ rfl O6.row ⟨w3.heap.size, 0, none⟩ 1 1 [.slice x3 9 l3, .slice x4 3 l4] rfl rfl hnw h1c hm1 hm2 hm3 ?_
      intro v3 w7 hown3 hgrow3 hne3 hblk3
      have e3 : v3 ≠ .slice none 0 0 := by
        intro e
        have := (hne3.1 e).2
        omega
      have B7 := B6.grown hgrow3 hm3 (fun x hx => ownBlock_ge O6.row hx)
      have O7 := O6.snoc (o := A i) rx6 ry6 rk hgrow3 hown3 e3
      have I7 : Hid ((∃ X Y, OpsP w7 w.heap.size v3 (i + 1) X Y A) ∧ Below w.heap.size w w7) := ⟨⟨_, _, O7.alikeP (fun j hj => by
        by_cases e : j = i
        · subst e; exact snoc_at _ _ _
        · exact snoc_lo (by omega))⟩, B7⟩
      clear O6 rx6 ry6 hnw h1c hm3 hown3 hgrow3 hne3 hblk3 e3 hm1 hm2 a6 hW6 rk B6 B7 O7
      go_wp2
      exact ⟨⟨i + 1, by omega, by go_num, I7⟩, by simp [intOf]; omega⟩
    · have hlt' : ¬ (i : Int) < (n : Int) := by omega
      obtain rfl : i = n := by omega
      have N : Hid (CopG w i A (.returned u3) wr) := ⟨⟨X, Y, _, rfl, O⟩, B⟩
      clear O B
      go_wp2
      go_ret
      exact N.out
end Go.Proofs.Ytpolnkjmojofoaa
