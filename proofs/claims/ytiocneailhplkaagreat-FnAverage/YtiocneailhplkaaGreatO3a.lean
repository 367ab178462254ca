/-
  Deeds of a list of operators: walked.
-/
import Derived.Test.YtiocneailhplkaaGreatNB
import Derived.Test.YtiocneailhplkaaGreatMR
import Derived.Test.YtiocneailhplkaaGreatE7a
namespace Go.Proofs.YtiocneailhplkaaGreat
open Go.RowKit

/-- The cells of the first n deeds. -/
def dl (Q : Nat → Nat) (n : Nat) : List Value := (List.range n).map (fun i => dV (Q i))
theorem dl_len (Q : Nat → Nat) (n : Nat) : (dl Q n).length = n := by simp [dl]
theorem dl_next (Q : Nat → Nat) (n q : Nat) : dl (fun t => if t = n then q else Q t) (n + 1) = dl Q n ++ [dV q] := by
  have e : (List.range n).map (fun i => dV (if i = n then q else Q i)) = (List.range n).map (fun i => dV (Q i)) := List.map_congr_left (fun t ht => by
    have := List.mem_range.1 ht
    rw [if_neg (by omega)])
  unfold dl
  rw [List.range_succ, List.map_append, List.map_cons, List.map_nil]
  show (List.range n).map (fun i => dV (if i = n then q else Q i)) ++ [dV (if n = n then q else Q n)] = _
  rw [if_pos rfl, e]
theorem dl_get (Q : Nat → Nat) {n i : Nat} (hi : i < n) : (dl Q n)[i]? = some (dV (Q i)) := by
  unfold dl
  rw [List.getElem?_map, List.getElem?_range hi]
  rfl
/-- A list of deeds of the program's own; each one's operator lies in a block of its own. -/
structure DeedsG (w : World) (lo : Nat) (v : Value) (n : Nat) (Q : Nat → Nat) (K : Nat → Nat → Int) : Prop where
  row : w.ownsRow lo 92 1 v n (dl Q n)
  nn : v ≠ .slice none 0 0
  bx : ∀ i, i < n → lo ≤ Q i ∧ At 90 w (Q i) (opA (K i) (kh (K i)))
theorem DeedsG.below {w w' : World} {lo n : Nat} {v : Value} {Q : Nat → Nat} {K : Nat → Nat → Int} (h : DeedsG w lo v n Q K) (hb : Below w.heap.size w w') : DeedsG w' lo v n Q K :=
  ⟨own_below h.row hb, h.nn, fun i hi => ⟨(h.bx i hi).1, (h.bx i hi).2.below hb⟩⟩
theorem DeedsG.open {w : World} {lo n : Nat} {v : Value} {Q : Nat → Nat} {K : Nat → Nat → Int} (h : DeedsG w lo v n Q K) : ∃ g c, v = .slice (some ⟨g, 0, none⟩) n c ∧ lo ≤ g ∧ g < w.heap.size ∧ (∃ cur, At 92 w g cur) ∧ ∀ i, i < n → w.cell? ⟨g, i, none⟩ = some (dV (Q i)) := by
  obtain ⟨e0, h1 | ⟨g, c, cur, rfl, hb, hh, h3, h4, h5, h6⟩⟩ := h.row
  · exact absurd h1.1 h.nn
  · have a : At 92 w g cur := hh
    refine ⟨g, c, rfl, hb, a.lt, ⟨cur, a⟩, fun i hi => a.cell i ?_⟩
    have := congrArg (fun L => L[i]?) h6
    simp only [List.getElem?_take] at this
    rw [if_pos (by omega), dl_get Q hi] at this
    simpa using this
theorem news1d {w : World} {q : Nat} {x : Value} {t : TypeId} (a : At t w q #[x]) : ∀ j u, ([x] : List Value)[j]? = some u → w.cell? ((⟨q, 0, none⟩ : Addr).add j) = some u := by
  intro j u hu
  have h2 := a.cell j (v := u) (by simpa using hu)
  by_cases e : j = 0
  · subst e; simpa [Addr.add] using h2
  · simpa [Addr.add, e] using h2
/-- What is told of a list's deeds. -/
def DeP (w : World) (n : Nat) (F : Nat → Nat → Int) (e : Ending) (w' : World) : Prop := (∃ v Q, e = .returned v ∧ DeedsG w' w.heap.size v n Q F) ∧ Below w.heap.size w w'
theorem Tryz.info92 : (Tryz.prog.info? 92).map (fun i => (i.zero, i.size, i.bytes)) = some (some .nilFunc, 1, 8) := by kernel_rfl
set_option maxRecDepth 100000 in
set_option maxHeartbeats 3000000 in
theorem deedsOf_any {w : World} {base g n c : Nat} {F : Nat → Nat → Int} (hF : Oprs w base (.slice (some ⟨g, 0, none⟩) n c) n F) (hn : n ≤ 192) :
    Calls Tryz.prog 30 #[.slice (some ⟨g, 0, none⟩) n c] w (DeP w n F) := by
  have hbs : ∀ w, (Instr.buildSlice 58 0 #[]).run Tryz.prog w = .ok (.slice (some ⟨w.heap.size, 0, none⟩) 0 0) (w.alloc (.cells #[] 92)) := fun _ => by kernel_rfl
  obtain ⟨i0, hi0, hz0, hz1, hz2⟩ := info_parts Tryz.info92
  have hn' : (n : Int) ≤ 192 := by omega
  obtain ⟨W1, hW1, a1, B1, -⟩ := boxed w 92 #[]
  obtain ⟨p1, hp1⟩ : ∃ q, w.heap.size = q := ⟨_, rfl⟩
  have o1 : Hid (DeedsG W1 w.heap.size (.slice (some ⟨p1, 0, none⟩) 0 0) 0 (fun _ => 0) F) := ⟨⟨rfl, .inr ⟨p1, 0, #[], rfl, by omega, hp1 ▸ a1, Nat.le_refl _, Nat.zero_le _, rfl, rfl⟩⟩, ne_nil _ _ _, fun i hi => by omega⟩
  have HF : Hid (Oprs w base (.slice (some ⟨g, 0, none⟩) n c) n F) := hF
  clear hF a1
  go_enter Tryz.func30, Tryz.ntmps30
  go_wp2
  try rw [hp1]
  clear hW1 hp1
  go_loopw [3, 9] (fun v s wr => ∃ (i : Nat) (Q : Nat → Nat), i ≤ n ∧ s = .int .i64 (i : Int) ∧ Hid (DeedsG wr w.heap.size v i Q F) ∧ Below w.heap.size w wr) (fun _ s _ => n - (intOf s).toNat)
  case atStart => exact ⟨0, _, Nat.zero_le _, rfl, o1, B1⟩
  case round =>
    clear o1 B1
    obtain ⟨i, Q, hi, rfl, own, B⟩ := hrel
    by_cases hlt : i < n
    rotate_left
    · obtain rfl : i = n := by omega
      have hlt' : ¬ (i : Int) < (i : Int) := by omega
      go_wp2
      go_ret
      exact ⟨⟨_, Q, rfl, own.out⟩, B⟩
    have hlt' : (i : Int) < (n : Int) := by omega
    obtain ⟨e0, e1, e2, e3, e4, e5, e6, e7, e8, e9, e10, e11⟩ := (HF.out.below B).open i hlt
    obtain ⟨K, hK⟩ : ∃ K, F i = K := ⟨_, rfl⟩
    have HK : Hid (F i = K) := hK
    simp only [hK] at e0 e1 e2 e3 e4 e5 e6 e7 e8 e9 e10 e11
    clear hK
    obtain ⟨W7, hW7, a7, b7, -⟩ := boxed wr 90 (kc K).toArray
    obtain ⟨p7, hp7⟩ : ∃ p, wr.heap.size = p := ⟨_, rfl⟩
    rw [hp7] at a7
    have own7 := hid_of (own.out.below b7)
    replace B := B.trans (b7.mono B.size)
    have A7 : At 90 W7 p7 (opA K (kh K)) := a7
    clear own b7 a7
    obtain ⟨z0, z1, z2, z3, z4, z5, z6, z7, z8, z9, z10, z11⟩ := At.openk (x := K) A7
    have DD := deed_any K (kh K)
    have eK : opA K (kh K) = #[.int .i64 (K 0), .int .i64 (K 1), .int .i64 (K 2), .int .i64 (K 3), .int .i64 (K 4), .int .i64 (K 5), .int .i64 (K 6), .int .i64 (K 7), .int .i64 (K 8), .int .i64 (K 9), .int .i64 (K 10), .int .i64 (K 11)] := rfl
    rw [eK] at DD
    clear eK
    unfold kc at hW7
    go_wp2_with fail
    clear e0 e1 e2 e3 e4 e5 e6 e7 e8 e9 e10 e11 hW7 hp7
    refine (DD _).mono ?_
    rintro e w8 ⟨rfl, AD, hs8, b8⟩
    obtain ⟨qd, hqd⟩ : ∃ q, W7.heap.size = q := ⟨_, rfl⟩
    rw [hqd] at AD ⊢
    replace AD : At 90 w8 qd (opA K (kh K)) := AD
    have hqd' : w.heap.size ≤ qd := by rw [← hqd]; exact B.size
    have own8 := hid_of (own7.out.below b8)
    have B8 := B.trans (b8.mono B.size)
    clear z0 z1 z2 z3 z4 z5 z6 z7 z8 z9 z10 z11 own7 b8 hs8 hqd A7 B DD
    obtain ⟨W9, hW9, a9, b9, -⟩ := boxed w8 92 #[dV qd]
    obtain ⟨p9, hp9⟩ : ∃ p, w8.heap.size = p := ⟨_, rfl⟩
    rw [hp9] at a9
    have own9 := hid_of (own8.out.below b9)
    have row9 := hid_of own9.out.row
    have AD9 := AD.below b9
    have B9 := B8.trans (b9.mono B8.size)
    have hm1 : i + 1 ≤ maxLen := by unfold maxLen; omega
    have hm2 : (i + 1) * 8 ≤ 140737488355328 := by omega
    clear own8 AD b9 B8
    unfold dV at hW9 a9 ⊢
    go_wp2_with (at_builtin; refine Hid.out (?_ : Hid _))
    refine (?_ : wpList _ _ _ _ _ _)
    refine wpList_append_own_at _ rfl _ _ _ rfl w.heap.size 92 i0 _ 1 8 Tryz.underlying58 hi0 hz0 hz1 hz2 rfl (by omega) u3 i (dl Q i) rfl row9.out ⟨p9, 0, none⟩ 1 1 [dV qd] rfl rfl (news1d a9) (by intro u hu; simp at hu; subst hu; rfl) hm1 hm2 B9.size ?_
    intro v7 w7 hown7 hgrow7 hne7 hblk7
    have BF : Below w.heap.size w w7 := B9.grown hgrow7 B9.size (fun x hx => ownBlock_ge row9.out hx)
    have hbox : ∀ q, At 90 W9 q (opA K (kh K)) → True := fun _ _ => trivial
    have keep : ∀ {q : Nat} {vs : Array Value}, At 90 W9 q vs → At 90 w7 q vs := fun {q vs} a => by
      refine (hgrow7.block q a.lt (fun e => ?_)).trans a
      obtain ⟨g', c', e', -, -, ⟨cur, ac⟩, -⟩ := own9.out.open
      rw [e'] at e
      simp only [Value.ownBlock, Option.some.injEq] at e
      subst e
      have := ac.symm.trans a
      simp at this
    have OF : Hid (DeedsG w7 w.heap.size v7 (i + 1) (fun t => if t = i then qd else Q t) F) := by
      refine ⟨by rw [dl_next]; exact hown7, fun e => by have := (hne7.1 e).2; omega, fun t ht => ?_⟩
      by_cases e : t = i
      · subst e
        rw [if_pos rfl, HK.out]
        exact ⟨hqd', keep AD9⟩
      · rw [if_neg e]
        exact ⟨(own9.out.bx t (by omega)).1, keep (own9.out.bx t (by omega)).2⟩
    clear hown7 hgrow7 hne7 hblk7 own9 row9 AD9 B9 a9 hW9 hp9 hbox
    go_wp2
    exact ⟨⟨i + 1, _, by omega, by go_num, OF, BF⟩, by simp [intOf]; omega⟩
end Go.Proofs.YtiocneailhplkaaGreat
