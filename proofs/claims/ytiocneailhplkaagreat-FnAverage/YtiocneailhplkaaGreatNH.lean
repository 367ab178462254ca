/-
  The specification's known operators, walked: sixteen texts are read.
-/
import Derived.Test.YtiocneailhplkaaGreatDrA
import Derived.Test.YtiocneailhplkaaGreatNG
import Derived.Test.YtiocneailhplkaaGreatDrK
namespace Go.Proofs.YtiocneailhplkaaGreat
open Go.RowKit

/-- The texts. -/
def txt (k : Nat) : ByteArray :=
  match k with
  | 0 => ⟨#[45, 120, 44, 45, 121, 44, 45, 122]⟩
  | 1 => ⟨#[45, 120, 44, 45, 121, 44, 122]⟩
  | 2 => ⟨#[45, 120, 44, 121, 43, 49, 47, 50, 44, 45, 122]⟩
  | 3 => ⟨#[120, 44, 45, 121, 44, 122, 43, 49, 47, 50]⟩
  | 4 => ⟨#[45, 121, 44, 120, 44, 122]⟩
  | 5 => ⟨#[45, 121, 44, 120, 44, 122, 43, 49, 47, 52]⟩
  | 6 => ⟨#[122, 44, 120, 44, 121]⟩
  | 7 => ⟨#[45, 121, 44, 120, 45, 121, 44, 122]⟩
  | 8 => ⟨#[45, 121, 44, 120, 45, 121, 44, 122, 43, 49, 47, 51]⟩
  | 9 => ⟨#[120, 43, 49, 47, 50, 44, 121, 43, 49, 47, 50, 44, 122]⟩
  | 10 => ⟨#[120, 43, 49, 47, 50, 44, 121, 43, 49, 47, 50, 44, 122, 43, 49, 47, 50]⟩
  | 11 => ⟨#[121, 44, 120, 44, 45, 122]⟩
  | 12 => ⟨#[120, 44, 121, 43, 49, 47, 50, 44, 122, 43, 49, 47, 50]⟩
  | 13 => ⟨#[45, 120, 43, 49, 47, 50, 44, 121, 43, 49, 47, 50, 44, 45, 122]⟩
  | 14 => ⟨#[45, 121, 43, 49, 47, 52, 44, 120, 43, 49, 47, 52, 44, 122, 43, 51, 47, 52]⟩
  | _ => ⟨#[120, 45, 121, 44, 120, 44, 122, 43, 49, 47, 50]⟩
def txts : Array Value := #[.string ⟨#[45, 120, 44, 45, 121, 44, 45, 122]⟩, .string ⟨#[45, 120, 44, 45, 121, 44, 122]⟩, .string ⟨#[45, 120, 44, 121, 43, 49, 47, 50, 44, 45, 122]⟩, .string ⟨#[120, 44, 45, 121, 44, 122, 43, 49, 47, 50]⟩, .string ⟨#[45, 121, 44, 120, 44, 122]⟩, .string ⟨#[45, 121, 44, 120, 44, 122, 43, 49, 47, 52]⟩, .string ⟨#[122, 44, 120, 44, 121]⟩, .string ⟨#[45, 121, 44, 120, 45, 121, 44, 122]⟩, .string ⟨#[45, 121, 44, 120, 45, 121, 44, 122, 43, 49, 47, 51]⟩, .string ⟨#[120, 43, 49, 47, 50, 44, 121, 43, 49, 47, 50, 44, 122]⟩, .string ⟨#[120, 43, 49, 47, 50, 44, 121, 43, 49, 47, 50, 44, 122, 43, 49, 47, 50]⟩, .string ⟨#[121, 44, 120, 44, 45, 122]⟩, .string ⟨#[120, 44, 121, 43, 49, 47, 50, 44, 122, 43, 49, 47, 50]⟩, .string ⟨#[45, 120, 43, 49, 47, 50, 44, 121, 43, 49, 47, 50, 44, 45, 122]⟩, .string ⟨#[45, 121, 43, 49, 47, 52, 44, 120, 43, 49, 47, 52, 44, 122, 43, 51, 47, 52]⟩, .string ⟨#[120, 45, 121, 44, 120, 44, 122, 43, 49, 47, 50]⟩]
theorem txt_at (k : Nat) (hk : k < 16) : txts[k]? = some (.string (txt k)) := by
  rcases (by omega : k = 0 ∨ k = 1 ∨ k = 2 ∨ k = 3 ∨ k = 4 ∨ k = 5 ∨ k = 6 ∨ k = 7 ∨ k = 8 ∨ k = 9 ∨ k = 10 ∨ k = 11 ∨ k = 12 ∨ k = 13 ∨ k = 14 ∨ k = 15) with rfl | rfl | rfl | rfl | rfl | rfl | rfl | rfl | rfl | rfl | rfl | rfl | rfl | rfl | rfl | rfl <;> rfl
theorem txt_size (k : Nat) (hk : k < 16) : (txt k).size ≤ 200 := by
  have h : ∀ k : Fin 16, (txt k.val).size ≤ 200 := by decide +kernel
  exact h ⟨k, hk⟩
theorem txt_read (k : Nat) (hk : k < 16) : (readF (txt k) ((txt k).size + 2) 0 0 0 (fun _ => 0) (fun _ => 0)).1 = true := by
  have h : ∀ k : Fin 16, (readF (txt k.val) ((txt k.val).size + 2) 0 0 0 (fun _ => 0) (fun _ => 0)).1 = true := by decide +kernel
  exact h ⟨k, hk⟩
/-- What is read is right. -/
theorem readF_right (s : ByteArray) (fu i k c : Nat) (M T : Nat → Int) (h : (readF s fu i k c M T).1 = true) : isOp 9 (readF s fu i k c M T).2.2.1 3 (readF s fu i k c M T).2.2.2 := by
  induction fu generalizing i k c M T with
  | zero => simp [readF] at h
  | succ fu ih =>
    rw [readF] at h ⊢
    split at h
    · split at h
      · rename_i h1 h2
        rw [if_pos h1, if_pos h2]; exact h2.2
      · simp at h
    · split at h
      · rename_i h1 h2
        rw [if_neg h1, if_pos h2]; exact ih _ _ _ _ _ h
      · rename_i h1 h2
        rw [if_neg h1, if_neg h2]
        dsimp only at h ⊢
        split at h
        · rename_i h3
          rw [if_pos h3]; exact ih _ _ _ _ _ h
        · simp at h
/-- Two lists that are a right operator; neither lies in the block named. -/
def RightP (w : World) (lo : Nat) (row : Option Nat) (v1 v2 : Value) : Prop :=
  ∃ g1 c1 g2 c2 f h, ((lo ≤ g1 ∧ lo ≤ g2) ∧ c1 ≤ maxLen ∧ c2 ≤ maxLen) ∧ v1 = .slice (some ⟨g1, 0, none⟩) 9 c1 ∧ v2 = .slice (some ⟨g2, 0, none⟩) 3 c2 ∧ row ≠ some g1 ∧ row ≠ some g2 ∧ Made w g1 c1 9 f ∧ Made w g2 c2 3 h ∧ isR f h
/-- A list of right operators. -/
def Rights (w : World) (lo : Nat) (v : Value) (k : Nat) (ys : List Value) : Prop :=
  ys.length = k * 2 ∧ ∀ i, i < k → ∃ v1 v2, ys[i * 2]? = some v1 ∧ ys[i * 2 + 1]? = some v2 ∧ RightP w lo v.ownBlock v1 v2
theorem Made.grown {w w' : World} {g c n : Nat} {f : Nat → Int} {row : Option Nat} (h : Made w g c n f) (hg : w.grownBy w' row) (hr : row ≠ some g) : Made w' g c n f := by
  obtain ⟨cur, h1, h2⟩ := h
  exact ⟨cur, (hg.block g h1.lt (fun e => hr e.symm)).trans h1, h2⟩
theorem RightP.below {w w' : World} {lo : Nat} {row : Option Nat} {v1 v2 : Value} (h : RightP w lo row v1 v2) (hb : Below w.heap.size w w') : RightP w' lo row v1 v2 := by
  obtain ⟨g1, c1, g2, c2, f, h, l, e1, e2, n1, n2, m1, m2, r⟩ := h
  exact ⟨g1, c1, g2, c2, f, h, l, e1, e2, n1, n2, m1.below hb, m2.below hb, r⟩
theorem Rights.below {w w' : World} {lo : Nat} {v : Value} {k : Nat} {ys : List Value} (h : Rights w lo v k ys) (hb : Below w.heap.size w w') : Rights w' lo v k ys := by
  refine ⟨h.1, fun i hi => ?_⟩
  obtain ⟨v1, v2, e1, e2, r⟩ := h.2 i hi
  exact ⟨v1, v2, e1, e2, r.below hb⟩
theorem Made.kept {w w' : World} {p g n k : Nat} {f : Nat → Int} (h : Made w g n k f) (hk : Kept p w w') (hne : g ≠ p) : Made w' g n k f := by
  obtain ⟨cur, h1, h2⟩ := h
  exact ⟨cur, (hk.block g h1.lt hne).trans h1, h2⟩
theorem Rights.kept {w w' : World} {lo p : Nat} {v : Value} {k : Nat} {ys : List Value} (h : Rights w lo v k ys) (hk : Kept p w w') (hp : p < lo) : Rights w' lo v k ys := by
  refine ⟨h.1, fun i hi => ?_⟩
  obtain ⟨v1, v2, e1, e2, g1, c1, g2, c2, f, h, l, e3, e4, n1, n2, m1, m2, r⟩ := h.2 i hi
  exact ⟨v1, v2, e1, e2, g1, c1, g2, c2, f, h, l, e3, e4, n1, n2, m1.kept hk (by omega), m2.kept hk (by omega), r⟩
theorem own_cell {w : World} {base g n c j : Nat} {e : TypeId} {ys : List Value} {v : Value} (h : w.ownsRow base e 2 (.slice (some ⟨g, 0, none⟩) n c) n ys) (hj : j < n * 2) (hv : ys[j]? = some v) : w.cell? ⟨g, j, none⟩ = some v := by
  rcases h.2 with ⟨h1, _⟩ | ⟨g', cap', cur, hv', _, hh, _, _, _, ht⟩
  · cases h1
  · cases hv'
    rw [← ht, List.getElem?_take_of_lt hj] at hv
    simp only [World.cell?, hh]
    simpa using hv
/-- One more. -/
theorem Rights.snoc {w w' : World} {lo : Nat} {v v' v1 v2 : Value} {k : Nat} {ys : List Value} (h : Rights w lo v k ys) (hg : w.grownBy w' v.ownBlock) (hb : v'.ownBlock = v.ownBlock ∨ v'.ownBlock = some w.heap.size) (hn : RightP w lo v.ownBlock v1 v2) : Rights w' lo v' (k + 1) (ys ++ [v1, v2]) := by
  have key : ∀ {u1 u2 : Value}, RightP w lo v.ownBlock u1 u2 → RightP w' lo v'.ownBlock u1 u2 := by
    rintro u1 u2 ⟨g1, c1, g2, c2, f, h, l, e1, e2, n1, n2, m1, m2, r⟩
    have hne : ∀ {g c n : Nat} {f : Nat → Int}, Made w g c n f → v.ownBlock ≠ some g → v'.ownBlock ≠ some g := by
      intro g c n f m ne e
      rcases hb with q | q
      · exact ne (q.symm.trans e)
      · have h1 := m.lt
        have h2 : g = w.heap.size := Option.some.inj (e.symm.trans q)
        omega
    exact ⟨g1, c1, g2, c2, f, h, l, e1, e2, hne m1 n1, hne m2 n2, m1.grown hg n1, m2.grown hg n2, r⟩
  refine ⟨by simp [h.1]; omega, fun i hi => ?_⟩
  by_cases e : i = k
  · subst e
    have hl := h.1
    refine ⟨v1, v2, ?_, ?_, key hn⟩
    · rw [List.getElem?_append_right (by omega), h.1]; simp
    · rw [List.getElem?_append_right (by omega), h.1]; simp
  · obtain ⟨u1, u2, e1, e2, r⟩ := h.2 i (by omega)
    have hl := h.1
    exact ⟨u1, u2, by rw [List.getElem?_append_left (by omega)]; exact e1, by rw [List.getElem?_append_left (by omega)]; exact e2, key r⟩
theorem Tryz.infoR57 : (Tryz.prog.info? 57).map (fun i => (i.zero, i.size, i.bytes)) = some (some (.agg #[.slice none 0 0, .slice none 0 0]), 2, 48) := by kernel_rfl
theorem told_right {w : World} {lo hi : Nat} {o : Value} {f h : Nat → Int} (ho : Told w lo hi o true f h) (hop : isOp 9 f 3 h) (r : Option Nat) (hr : ∀ x, r = some x → x < lo) {lo' : Nat} (hl : lo' ≤ lo) : ∃ a1 c1 a2 c2, o = .agg #[.slice a1 9 c1, .slice a2 3 c2] ∧ RightP w lo' r (.slice a1 9 c1) (.slice a2 3 c2) := by
  obtain ⟨v1, v2, rfl, m1, m2, -⟩ := ho
  rcases m1 with ⟨-, h0⟩ | ⟨g1, c1, rfl, l1, u1, n1, M1⟩
  · simp at h0
  rcases m2 with ⟨-, h0⟩ | ⟨g2, c2, rfl, l2, u2, n2, M2⟩
  · simp at h0
  refine ⟨_, _, _, _, rfl, g1, c1, g2, c2, f, h, ⟨⟨by omega, by omega⟩, n1.2, n2.2⟩, rfl, rfl, fun e => ?_, fun e => ?_, M1, M2, hop.2.2⟩
  · have := hr _ e; omega
  · have := hr _ e; omega
set_option maxRecDepth 100000 in
theorem some_any (w : World) : Calls Tryz.prog 89 #[] w fun e w' => ∃ g c ys, e = .returned (.slice (some ⟨g, 0, none⟩) 16 c) ∧ w'.ownsRow w.heap.size 57 2 (.slice (some ⟨g, 0, none⟩) 16 c) 16 ys ∧ Rights w' w.heap.size (.slice (some ⟨g, 0, none⟩) 16 c) 16 ys ∧ Below w.heap.size w w' := by
  have hbs : ∀ w, (Instr.buildSlice 27 0 #[]).run Tryz.prog w = .ok (.slice (some ⟨w.heap.size, 0, none⟩) 0 0) (w.alloc (.cells #[] 57)) := fun _ => by kernel_rfl
  obtain ⟨i0, hi0, hz0, hz1, hz2⟩ := info_parts Tryz.infoR57
  obtain ⟨W1, hW1, a1, B, z1⟩ := boxed w 57 #[]
  obtain ⟨W2, hW2, a2, B2, z2⟩ := boxed W1 9 #[.string ⟨#[45, 120, 44, 45, 121, 44, 45, 122]⟩, .string ⟨#[45, 120, 44, 45, 121, 44, 122]⟩, .string ⟨#[45, 120, 44, 121, 43, 49, 47, 50, 44, 45, 122]⟩, .string ⟨#[120, 44, 45, 121, 44, 122, 43, 49, 47, 50]⟩, .string ⟨#[45, 121, 44, 120, 44, 122]⟩, .string ⟨#[45, 121, 44, 120, 44, 122, 43, 49, 47, 52]⟩, .string ⟨#[122, 44, 120, 44, 121]⟩, .string ⟨#[45, 121, 44, 120, 45, 121, 44, 122]⟩, .string ⟨#[45, 121, 44, 120, 45, 121, 44, 122, 43, 49, 47, 51]⟩, .string ⟨#[120, 43, 49, 47, 50, 44, 121, 43, 49, 47, 50, 44, 122]⟩, .string ⟨#[120, 43, 49, 47, 50, 44, 121, 43, 49, 47, 50, 44, 122, 43, 49, 47, 50]⟩, .string ⟨#[121, 44, 120, 44, 45, 122]⟩, .string ⟨#[120, 44, 121, 43, 49, 47, 50, 44, 122, 43, 49, 47, 50]⟩, .string ⟨#[45, 120, 43, 49, 47, 50, 44, 121, 43, 49, 47, 50, 44, 45, 122]⟩, .string ⟨#[45, 121, 43, 49, 47, 52, 44, 120, 43, 49, 47, 52, 44, 122, 43, 51, 47, 52]⟩, .string ⟨#[120, 45, 121, 44, 120, 44, 122, 43, 49, 47, 50]⟩]
  have o0 : W1.ownsRow w.heap.size 57 2 (.slice (some ⟨w.heap.size, 0, none⟩) 0 0) 0 [] := ⟨rfl, .inr ⟨w.heap.size, 0, #[], rfl, Nat.le_refl _, a1, Nat.le_refl _, Nat.zero_le _, rfl, rfl⟩⟩
  replace o0 := own_below o0 B2
  have t2 : At 9 W2 W1.heap.size txts := a2
  have r0 : Hid (Rights W2 w.heap.size (.slice (some ⟨w.heap.size, 0, none⟩) 0 0) 0 []) := ⟨rfl, fun i hi => by omega⟩
  have h0 : Hid ((Value.slice (some ⟨w.heap.size, 0, none⟩) 0 0).ownBlock ≠ some W1.heap.size) := by
    intro e
    have : w.heap.size = W1.heap.size := Option.some.inj e
    omega
  replace B := B.trans (B2.mono B.size)
  have zz : w.heap.size < W1.heap.size := by omega
  clear a1 a2 B2 z1 z2
  go_enter Tryz.func89, Tryz.ntmps89
  go_wp2
  clear hW1 hW2 hbs
  go_loopw [1, 3] (fun v s wr => ∃ (k : Nat) (ys : List Value), k ≤ 16 ∧ s = .int .i64 k ∧ Hid (v ≠ .slice none 0 0) ∧ At 9 wr W1.heap.size txts ∧ wr.ownsRow w.heap.size 57 2 v k ys ∧ Hid (Rights wr w.heap.size v k ys) ∧ Hid (v.ownBlock ≠ some W1.heap.size) ∧ Below w.heap.size w wr) (fun _ s _ => 16 - (intOf s).toNat)
  case atStart => exact ⟨0, [], Nat.zero_le _, rfl, ne_nil _ _ _, t2, o0, r0, h0, B⟩
  case round =>
    clear t2 o0 r0 h0 B
    obtain ⟨k, ys, hk, rfl, hnn, t, own, rs, hne, B⟩ := hrel
    have hrow : Hid (∀ x, u1.ownBlock = some x → x < wr.heap.size) := fun x hx => ownBlock_lt own hx
    have hrow2 : Hid (∀ x, u1.ownBlock = some x → w.heap.size ≤ x) := fun x hx => ownBlock_ge own hx
    by_cases hk2 : k < 16
    · have hk3 : (k : Int) < 16 := by omega
      have ct := t.cell k (txt_at k hk2)
      have hrd := opRead_any (txt k) wr (txt_size k hk2)
      have htr := txt_read k hk2
      have hop := readF_right _ _ _ _ _ _ _ htr
      rw [htr] at hrd
      generalize (readF (txt k) ((txt k).size + 2) 0 0 0 (fun _ => 0) (fun _ => 0)).2.1 = R1 at hrd
      generalize (readF (txt k) ((txt k).size + 2) 0 0 0 (fun _ => 0) (fun _ => 0)).2.2.1 = R2 at hrd hop
      generalize (readF (txt k) ((txt k).size + 2) 0 0 0 (fun _ => 0) (fun _ => 0)).2.2.2 = R3 at hrd hop
      clear htr
      generalize txt k = tx at ct hrd
      go_wp2_with fail
      refine hrd.mono ?_
      rintro e w3 ⟨o, rfl, ho, b3⟩
      obtain ⟨x1, c1, x2, c2, rfl, hr⟩ := told_right ho hop u1.ownBlock hrow.out (lo' := w.heap.size) (by have := B.size; omega)
      clear ho hop hrd ct
      replace t := t.below b3
      replace own := own_below own b3
      have rs3 := rs.out.below b3
      replace B := B.trans (b3.mono B.size)
      have s3 := b3.size
      clear rs b3
      obtain ⟨X4, hX4, w4, hY4, a4, b4, y0, y1, y2, y3⟩ := boxed2 w3 (.slice x1 9 c1) (.slice x2 3 c2)
      replace t := t.below b4
      replace own := own_below own b4
      replace rs3 := rs3.below b4
      replace hr := hr.below b4
      replace B := B.trans (b4.mono B.size)
      have s4 := b4.size
      clear b4
      obtain ⟨w5, hw5, a5, b5, -⟩ := boxed w4 57 #[.slice x1 9 c1, .slice x2 3 c2]
      have t5 := t.below b5
      have own5 := own_below own b5
      have rs5 : Hid (Rights w5 w.heap.size u1 k ys) := rs3.below b5
      have hr5 : Hid (RightP w5 w.heap.size u1.ownBlock (.slice x1 9 c1) (.slice x2 3 c2)) := hr.below b5
      have B5 := B.trans (b5.mono B.size)
      have s5 := b5.size
      obtain ⟨d0, d1, f0, f1⟩ := a4.open2
      have hnw : ∀ j u, [Value.slice x1 9 c1, Value.slice x2 3 c2][j]? = some u → w5.cell? ((⟨w4.heap.size, 0, none⟩ : Addr).add j) = some u := by
        intro j u hu
        match j with
        | 0 => cases hu; exact a5.cell 0 rfl
        | 1 => cases hu; exact a5.cell 1 rfl
        | j + 2 => cases hu
      have h1c : ∀ u ∈ [Value.slice x1 9 c1, Value.slice x2 3 c2], u.oneCell' = true := by
        intro u hu
        simp at hu
        rcases hu with rfl | rfl <;> rfl
      have hm1 : k + 1 ≤ maxLen := by unfold maxLen; omega
      have hm2 : (k + 1) * 48 ≤ 140737488355328 := by omega
      have hm3 : w.heap.size ≤ w5.heap.size := B5.size
      clear t own rs3 hr B b5
      go_wp2_with (at_builtin; refine Hid.out (?_ : Hid _))
      refine (?_ : wpList _ _ _ _ _ _)
      refine wpList_append_own_at _ rfl _ _ _ rfl w.heap.size 57 i0 _ 2 48 Tryz.underlying27 hi0 hz0 hz1 hz2 rfl (by omega) u1 k ys rfl own5 ⟨w4.heap.size, 0, none⟩ 1 1 [.slice x1 9 c1, .slice x2 3 c2] rfl rfl hnw h1c hm1 hm2 hm3 ?_
      intro v3 w6 hown3 hgrow3 hne3 hblk3
      have e3 : Hid (v3 ≠ .slice none 0 0) := by
        intro e
        have := (hne3.1 e).2
        omega
      have rs6 : Hid (Rights w6 w.heap.size v3 (k + 1) (ys ++ [.slice x1 9 c1, .slice x2 3 c2])) := rs5.out.snoc hgrow3 hblk3 hr5.out
      have hz := hrow2.out
      have t6 : At 9 w6 W1.heap.size txts := (hgrow3.block _ t5.lt (fun e => hne.out e.symm)).trans t5
      have hn6 : Hid (v3.ownBlock ≠ some W1.heap.size) := by
        intro e
        rcases hblk3 with q | q
        · exact hne.out (q.symm.trans e)
        · have h1 := t5.lt
          have h2 : W1.heap.size = w5.heap.size := Option.some.inj (e.symm.trans q)
          omega
      have B6 : Below w.heap.size w w6 := B5.grown hgrow3 hm3 (fun x hx => hz x hx)
      clear hz hrow2 hrow hblk3 hgrow3 hne3 own5 t5 rs5 hr5 B5 hnw h1c hm1 hm2 hm3 d0 d1 f0 f1 a5 a4 y0 y1 y2 y3 hX4 hY4 hw5
      go_wp2
      exact ⟨⟨k + 1, _, by omega, by go_num, e3, t6, hown3, rs6, hn6, B6⟩, by simp [intOf]; omega⟩
    · have hk3 : ¬ (k : Int) < 16 := by omega
      obtain rfl : k = 16 := by omega
      obtain ⟨g, c, rfl⟩ : ∃ g c, u1 = .slice (some ⟨g, 0, none⟩) 16 c := by
        rcases own.2 with ⟨h1, _⟩ | ⟨g, c, cur, hv, _⟩
        · exact absurd h1 hnn.out
        · exact ⟨g, c, hv⟩
      clear hrow hrow2 hnn hne t
      go_wp2
      go_ret
      exact ⟨g, c, rfl, ys, own, rs.out, B⟩
end Go.Proofs.YtiocneailhplkaaGreat
/-
  Operators drawn, walked.
-/
namespace Go.Proofs.YtiocneailhplkaaGreat
open Go.RowKit

theorem Made.put {w : World} {g n k : Nat} {f : Nat → Int} (h : Made w g n k f) {i : Nat} (hi : i < k) (hk : k ≤ n) (x : Int) : Made (w.setCell ⟨g, i, none⟩ (.int .i64 x)) g n k (fun j => if j = i then x else f j) := by
  obtain ⟨cur, h1, h2, h3⟩ := h
  refine ⟨_, h1.set i _, by simpa using h2, fun j hj => ?_⟩
  have l0 : i < cur.size := by omega
  by_cases e : j = i
  · subst e
    simp [l0]
  · rw [Array.getElem?_setIfInBounds, if_neg (by omega), h3 j hj]
    simp [e]
theorem Dr.set {w0 w : World} {p g i : Nat} {a : Option Addr} {len cap : Nat} (h : Dr w0 p a len cap w) (hg : w0.heap.size ≤ g) (hp : p < w0.heap.size) (v : Value) : Dr w0 p a len cap (w.setCell ⟨g, i, none⟩ v) := by
  have hs := h.1.size
  have hb : Below w0.heap.size w (w.setCell ⟨g, i, none⟩ v) := (Below.refl _ _).setCell (p := ⟨g, i, none⟩) hg v
  have hk : Kept p w0 (w.setCell ⟨g, i, none⟩ v) := ⟨hb.os.trans h.1.os, hb.tape.trans h.1.tape, hb.output.trans h.1.output, Nat.le_trans hs (by simp [World.setCell]), fun k hk hkp => (hb.block k hk).trans (h.1.block k hk hkp)⟩
  refine ⟨hk, ?_⟩
  obtain ⟨j, x, hj, hh, hr⟩ := h.2
  refine ⟨j, x, hj, (hb.block p hp).trans hh, hr.1, hr.2.imp id ?_⟩
  rintro ⟨b, off, e, hbp, hc⟩
  refine ⟨b, off, e, hbp, fun j hj => ?_⟩
  obtain ⟨n, n0, n1, hn⟩ := hc j hj
  exact ⟨n, n0, n1, (hb.cell (p := ⟨b, off + j, none⟩) (Nat.lt_trans hbp hp)).trans hn⟩
theorem At.kept {t : TypeId} {w w' : World} {p q : Nat} {vs : Array Value} (h : At t w q vs) (hk : Kept p w w') (hne : q ≠ p) : At t w' q vs := (hk.block q h.lt hne).trans h
theorem made_ints {w : World} {g c n : Nat} {f : Nat → Int} (h : Made w g c n f) : Ints w g 0 n f := by
  obtain ⟨cur, h1, h2, h3⟩ := h
  intro i hi
  have := h1.cell i (h3 i hi)
  simpa using this
theorem made_src {w : World} {g c n : Nat} {f : Nat → Int} (h : Made w g c n f) : Src w (some ⟨g, 0, none⟩) n f := .inr ⟨g, 0, rfl, h.lt, made_ints h⟩
/-- An operator of its own memory: where its lists lie. -/
def Pair (w : World) (lo g1 c1 g2 c2 : Nat) (f h : Nat → Int) : Prop :=
  (lo ≤ g1 ∧ lo ≤ g2 ∧ g1 ≠ g2 ∧ c1 = 9 ∧ c2 = 3) ∧ Made w g1 c1 9 f ∧ Made w g2 c2 3 h
theorem Pair.below {w w' : World} {lo g1 c1 g2 c2 : Nat} {f h : Nat → Int} (x : Pair w lo g1 c1 g2 c2 f h) (hb : Below w.heap.size w w') : Pair w' lo g1 c1 g2 c2 f h := ⟨x.1, x.2.1.below hb, x.2.2.below hb⟩
theorem Pair.kept {w w' : World} {p lo g1 c1 g2 c2 : Nat} {f h : Nat → Int} (x : Pair w lo g1 c1 g2 c2 f h) (hk : Kept p w w') (hp : p < lo) : Pair w' lo g1 c1 g2 c2 f h := by
  have := x.1
  exact ⟨x.1, x.2.1.kept hk (by omega), x.2.2.kept hk (by omega)⟩
theorem Pair.set {w : World} {q i lo g1 c1 g2 c2 : Nat} {f h : Nat → Int} (x : Pair w lo g1 c1 g2 c2 f h) (h1 : g1 ≠ q) (h2 : g2 ≠ q) (v : Value) : Pair (w.setCell ⟨q, i, none⟩ v) lo g1 c1 g2 c2 f h := ⟨x.1, x.2.1.setOther h1 v, x.2.2.setOther h2 v⟩
theorem pair_own {w : World} {lo hi lo' g1 g2 : Nat} {f h : Nat → Int} (ho : OpAt w lo hi (.agg #[.slice (some ⟨g1, 0, none⟩) 9 9, .slice (some ⟨g2, 0, none⟩) 3 3]) 9 f 3 h) (hl : lo' ≤ lo) : (lo ≤ g1 ∧ lo ≤ g2) ∧ Pair w lo' g1 9 g2 3 f h := by
  obtain ⟨v1, v2, e, m1, m2, ap⟩ := ho
  rcases m1 with ⟨-, h0⟩ | ⟨x1, c1, rfl, l1, u1, n1, M1⟩
  · simp at h0
  rcases m2 with ⟨-, h0⟩ | ⟨x2, c2, rfl, l2, u2, n2, M2⟩
  · simp at h0
  cases e
  exact ⟨⟨l1, l2⟩, ⟨by omega, by omega, fun e => ap _ rfl (by rw [e]; rfl), rfl, rfl⟩, M1, M2⟩
theorem tab8 {w : World} {q : Nat} {v0 v1 v2 v3 v4 v5 v6 v7 : Int} (h : At 2 w q #[.int .i64 v0, .int .i64 v1, .int .i64 v2, .int .i64 v3, .int .i64 v4, .int .i64 v5, .int .i64 v6, .int .i64 v7]) (z : Nat) (hz : z < 8) : ∃ y : Int, w.cell? ⟨q, z, none⟩ = some (.int .i64 y) := by
  rcases (by omega : z = 0 ∨ z = 1 ∨ z = 2 ∨ z = 3 ∨ z = 4 ∨ z = 5 ∨ z = 6 ∨ z = 7) with rfl | rfl | rfl | rfl | rfl | rfl | rfl | rfl
  · exact ⟨_, h.cell 0 rfl⟩
  · exact ⟨_, h.cell 1 rfl⟩
  · exact ⟨_, h.cell 2 rfl⟩
  · exact ⟨_, h.cell 3 rfl⟩
  · exact ⟨_, h.cell 4 rfl⟩
  · exact ⟨_, h.cell 5 rfl⟩
  · exact ⟨_, h.cell 6 rfl⟩
  · exact ⟨_, h.cell 7 rfl⟩
set_option maxRecDepth 100000 in
set_option maxHeartbeats 1600000 in
theorem draw_dr {w : World} {p : Nat} {a : Option Addr} {len cap : Nat} (hc : Cur w p a len cap) :
    Calls Tryz.prog 74 #[.pointer (some ⟨p, 0, none⟩)] w fun e w' => ∃ g1 c1 g2 c2 f h, e = .returned (.agg #[.slice (some ⟨g1, 0, none⟩) 9 c1, .slice (some ⟨g2, 0, none⟩) 3 c2]) ∧ Pair w' w.heap.size g1 c1 g2 c2 f h ∧ Dr w p a len cap w' := by
  have hlt := hc.lt
  obtain ⟨W1, hW1, a1, B, z1⟩ := boxed w 57 #[.slice none 0 0, .slice none 0 0]
  have hd : Dr w p a len cap W1 := (Dr.start hc).below B
  go_enter Tryz.func74, Tryz.ntmps74
  go_wp2_with fail
  refine (l3One_any W1).mono ?_
  rintro e w1 ⟨g1, g2, rfl, o1, b1⟩
  clear hW1
  have s1 := b1.size
  replace a1 := a1.below b1
  replace hd := hd.below b1
  clear b1 B hc
  obtain ⟨l1, P⟩ := pair_own o1 (lo' := w.heap.size) (by omega)
  clear o1
  obtain ⟨X4, hX4, w4, hY4, a4, b4, y0, y1, y2, y3⟩ := boxed2 w1 (.slice (some ⟨g1, 0, none⟩) 9 9) (.slice (some ⟨g2, 0, none⟩) 3 3)
  have s4 := b4.size
  have lt1 := P.2.1.lt
  have lt2 := P.2.2.lt
  replace a1 := a1.below b4
  replace hd := hd.below b4
  replace P := P.below b4
  clear b4
  have hR0 : Hid (isR oneF (fun _ => 0)) := by show isR _ _; decide
  go_wp2_with fail
  refine (below_dr (Dr.start hd.2) 4 (by omega) (by omega)).mono ?_
  rintro e w5 ⟨x, rfl, x0, xx, hd5⟩
  clear hX4 hY4 y0 y1 y2 y3
  obtain ⟨q, hq⟩ : ∃ q, w1.heap.size = q := ⟨_, rfl⟩
  rw [hq] at a4 ⊢
  obtain ⟨m, rfl⟩ := Int.eq_ofNat_of_zero_le x0
  replace a1 := a1.kept hd5.1 (by omega)
  replace a4 := a4.kept hd5.1 (by omega)
  replace P := P.kept hd5.1 hlt
  replace hd := hd5.from hd.1
  have s5 : w4.heap.size ≤ w5.heap.size := hd5.1.size
  clear hd5
  have hqb : w.heap.size < q := by omega
  have hb0 : q ≠ g1 ∧ q ≠ g2 ∧ w.heap.size ≠ g1 ∧ w.heap.size ≠ g2 := by omega
  clear hq s1 s4 s5 lt1 lt2 l1 z1
  go_wp2_with fail
  go_loopw [4] (fun s wr => ∃ (n g1 c1 g2 c2 : Nat) (f h : Nat → Int), n ≤ 3 ∧ s = .int .i64 n ∧ At 57 wr w.heap.size #[.slice none 0 0, .slice none 0 0] ∧ At 57 wr q #[.slice (some ⟨g1, 0, none⟩) 9 c1, .slice (some ⟨g2, 0, none⟩) 3 c2] ∧ (q ≠ g1 ∧ q ≠ g2 ∧ w.heap.size ≠ g1 ∧ w.heap.size ≠ g2) ∧ Pair wr w.heap.size g1 c1 g2 c2 f h ∧ Hid (isR f h) ∧ Dr w p a len cap wr) (fun s _ => (intOf s).toNat)
  case atStart => exact ⟨m, g1, 9, g2, 3, _, _, by omega, rfl, a1, a4, hb0, P, hR0, hd⟩
  case round =>
    clear a1 a4 P hd hb0 hR0
    obtain ⟨n, g1, c1, g2, c2, f, h, hn, rfl, a1, a4, hb0, P, hR, hd⟩ := hrel
    have hs0 : w.heap.size ≤ wr.heap.size := hd.1.size
    by_cases h0 : 0 < n
    · have h1 : (0 : Int) < n := by omega
      go_wp2_with fail
      refine (some_any wr).mono ?_
      rintro e w6 ⟨G, C, ys, rfl, own, rs, b6⟩
      replace a1 := a1.below b6
      replace a4 := a4.below b6
      replace P := P.below b6
      replace hd := hd.below b6
      have s6 := b6.size
      clear b6
      go_wp2_with fail
      refine (some_any w6).mono ?_
      rintro e w7 ⟨G', C', ys', rfl, -, -, b7⟩
      replace a1 := a1.below b7
      replace a4 := a4.below b7
      replace P := P.below b7
      replace hd := hd.below b7
      replace own := own_below own b7
      replace rs := rs.below b7
      have s7 := b7.size
      clear b7
      go_wp2_with fail
      refine (below_dr (Dr.start hd.2) 16 (by omega) (by omega)).mono ?_
      rintro e w8 ⟨z, rfl, z0, z1, hd8⟩
      have s8 : w7.heap.size ≤ w8.heap.size := hd8.1.size
      replace a1 := a1.kept hd8.1 (by omega)
      replace a4 := a4.kept hd8.1 (by omega)
      replace P := P.kept hd8.1 hlt
      replace own := ownsRow_kept own hd8.1 (by omega)
      replace rs := rs.kept hd8.1 (by omega)
      replace hd := hd8.from hd.1
      clear hd8
      obtain ⟨y, rfl⟩ := Int.eq_ofNat_of_zero_le z0
      have hy : y < 16 := by omega
      obtain ⟨v1, v2, e1, e2, G1, C1, G2, C2, F, H, L, rfl, rfl, -, -, m1, m2, hR'⟩ := rs.2 y hy
      have k0 := own_cell own (by omega) e1
      have k1 := own_cell own (by omega) e2
      clear rs own e1 e2
      have HR' : Hid (isR F H) := hR'
      clear hR'
      obtain ⟨X9, hX9, w9, hY9, a9, b9, y0, y1, y2, y3⟩ := boxed2 w8 (.slice (some ⟨G1, 0, none⟩) 9 C1) (.slice (some ⟨G2, 0, none⟩) 3 C2)
      have s9 := b9.size
      replace a1 := a1.below b9
      replace a4 := a4.below b9
      replace P := P.below b9
      replace hd := hd.below b9
      replace m1 := m1.below b9
      replace m2 := m2.below b9
      clear b9
      obtain ⟨d0, d1, f0, f1⟩ := a4.open2
      obtain ⟨d2, d3, f2, f3⟩ := a9.open2
      go_wp2_with fail
      refine (l3Mul_own c1 c2 C1 C2 (made_ints P.2.1) (made_ints P.2.2) (made_ints m1) (made_ints m2) P.2.1.lt P.2.2.lt m1.lt m2.lt hR.out HR'.out).mono ?_
      rintro e w10 ⟨F1, F3, rfl, oq, b10⟩
      clear d0 d1 d2 d3 f0 f1 f2 f3 hX9 hY9 y0 y1 y2 y3 m1 m2 HR' k0 k1
      have s10 := b10.size
      have lq := a4.lt
      replace a1 := a1.below b10
      replace a4 := a4.below b10
      replace P := P.below b10
      replace hd := hd.below b10
      clear b10 a9
      obtain ⟨lF, PF⟩ := pair_own oq (lo' := w.heap.size) (by omega)
      clear oq
      obtain ⟨M, hM⟩ : ∃ M, mulM f F = M := ⟨_, rfl⟩
      obtain ⟨T, hT⟩ : ∃ T, behV f h H = T := ⟨_, rfl⟩
      rw [hM, hT] at PF
      clear hM hT
      obtain ⟨X11, hX11, w11, hY11, a11, b11, y0, y1, y2, y3⟩ := boxed2 w10 (.slice (some ⟨F1, 0, none⟩) 9 9) (.slice (some ⟨F3, 0, none⟩) 3 3)
      have s11 := b11.size
      replace a1 := a1.below b11
      replace a4 := a4.below b11
      replace P := P.below b11
      replace PF := PF.below b11
      replace hd := hd.below b11
      clear b11
      obtain ⟨d2, d3, f2, f3⟩ := a11.open2
      go_wp2_with fail
      refine (specOk_any 9 3 (made_src PF.2.1) (made_src PF.2.2)).mono ?_
      rintro e w12 ⟨rfl, b12⟩
      clear d2 d3 f2 f3 hX11 hY11 y0 y1 y2 y3
      replace a1 := a1.below b12
      replace a4 := a4.below b12
      replace a11 := a11.below b12
      replace P := P.below b12
      replace PF := PF.below b12
      replace hd := hd.below b12
      clear b12
      have hn1 : ((n - 1 : Nat) : Int) = (n : Int) - 1 := by omega
      by_cases hop : isOp 9 M 3 T
      · simp only [decide_eq_true hop]
        have HO : Hid (isR M T) := hop.2.2
        clear hop hR
        obtain ⟨d0, d1, f0, f1⟩ := a4.open2
        obtain ⟨d2, d3, f2, f3⟩ := a11.open2
        go_wp2
        exact ⟨⟨n - 1, F1, 9, F3, 3, M, T, by omega, by rw [hn1], (a1.setOther (by omega) _).setOther (by omega) _, by simpa using (a4.set 0 (.slice (some ⟨F1, 0, none⟩) 9 9)).set 1 (.slice (some ⟨F3, 0, none⟩) 3 3), by omega, (PF.set (by omega) (by omega) _).set (by omega) (by omega) _, HO, (hd.set (by omega) hlt _).set (by omega) hlt _⟩, by simp [intOf]; omega⟩
      · simp only [decide_eq_false hop]
        clear hop
        go_wp2
        exact ⟨⟨n - 1, g1, c1, g2, c2, f, h, by omega, by rw [hn1], a1, a4, hb0, P, hR, hd⟩, by simp [intOf]; omega⟩
    · have h1 : ¬ (0 : Int) < n := by omega
      clear hR
      go_wp2_with fail
      refine (once_dr (Dr.start hd.2) 3 (by omega) (by omega)).mono ?_
      rintro e w6 ⟨bo, rfl, hd6⟩
      replace a1 := a1.kept hd6.1 (by omega)
      replace a4 := a4.kept hd6.1 (by omega)
      replace P := P.kept hd6.1 hlt
      replace hd := hd6.from hd.1
      clear hd6
      cases bo
      · obtain ⟨d0, d1, f0, f1⟩ := a1.open2
        obtain ⟨d2, d3, f2, f3⟩ := a4.open2
        go_wp2
        have a8 := nil2_at a1 (.slice (some ⟨g1, 0, none⟩) 9 c1) (.slice (some ⟨g2, 0, none⟩) 3 c2)
        obtain ⟨p0, p1, -⟩ := a8.open2
        have P8 := (P.set (q := w.heap.size) (i := 0) (by omega) (by omega) (.slice (some ⟨g1, 0, none⟩) 9 c1)).set (q := w.heap.size) (i := 1) (by omega) (by omega) (.slice (some ⟨g2, 0, none⟩) 3 c2)
        have D8 := (hd.set (g := w.heap.size) (i := 0) (by omega) hlt (.slice (some ⟨g1, 0, none⟩) 9 c1)).set (g := w.heap.size) (i := 1) (by omega) hlt (.slice (some ⟨g2, 0, none⟩) 3 c2)
        exact bodyPost_ret (v := .agg #[.slice (some ⟨g1, 0, none⟩) 9 c1, .slice (some ⟨g2, 0, none⟩) 3 c2]) (by simp [results, Tryz.results74, go_sem, p0, p1]) rfl ⟨g1, c1, g2, c2, f, h, rfl, P8, D8⟩
      · go_wp2_with fail
        have P0 : ∃ h, Pair w6 w.heap.size g1 c1 g2 c2 f h := ⟨_, P⟩
        clear P
        go_loopw [7] (fun s wr => ∃ (k : Nat), k ≤ 3 ∧ s = .int .i64 k ∧ At 57 wr w.heap.size #[.slice none 0 0, .slice none 0 0] ∧ At 57 wr q #[.slice (some ⟨g1, 0, none⟩) 9 c1, .slice (some ⟨g2, 0, none⟩) 3 c2] ∧ (∃ h, Pair wr w.heap.size g1 c1 g2 c2 f h) ∧ Dr w p a len cap wr) (fun s _ => 3 - (intOf s).toNat)
        case atStart => exact ⟨0, Nat.zero_le _, rfl, a1, a4, P0, hd⟩
        case round =>
          clear a1 a4 P0 hd
          obtain ⟨k, hk, rfl, a1, a4, ⟨h, P⟩, hd⟩ := hrel
          have hs1 : w.heap.size ≤ wr.heap.size := hd.1.size
          by_cases hk3 : k < 3
          · have hk4 : (k : Int) < 3 := by omega
            have hb4 := hb0
            go_wp2_with fail
            obtain ⟨u0, hu0, A1, A4, PP, HD, zu0⟩ : ∃ u0, wr.drew = u0 ∧ At 57 u0 w.heap.size #[.slice none 0 0, .slice none 0 0] ∧ At 57 u0 q #[.slice (some ⟨g1, 0, none⟩) 9 c1, .slice (some ⟨g2, 0, none⟩) 3 c2] ∧ Pair u0 w.heap.size g1 c1 g2 c2 f h ∧ Dr w p a len cap u0 ∧ wr.heap.size ≤ u0.heap.size := ⟨_, rfl, a1, a4, P.below (Below.refl _ _).drew, hd.below (Below.refl _ _).drew, Nat.le_refl _⟩
            clear a1 a4 P hd
            refine wp_region_held_drew (S := One2 q (.slice (some ⟨g1, 0, none⟩) 9 c1) (.slice (some ⟨g2, 0, none⟩) 3 c2)) (by kernel_rfl) (by rw [hu0]; exact one2_mk A4) (fun hHeld => ?_)
            rw [hu0] at hHeld ⊢
            clear hu0
            change wpAnyH _ _ _ _ _ 12 #[false, false, false, false, false, false, false, false, false, false, false, false] _ _
            refine wpAnyH_take (i := 0) (v := .pointer (some ⟨q, 1, none⟩)) rfl (by kernel_rfl) (by kernel_rfl) (by kernel_rfl) (fun _ _ _ h => h) (Or.inl ⟨by kernel_rfl, ?_⟩) hHeld ?_
            · intro w' hSw; go_simp
            try simp only [Act.put, List.setIfInBounds_toArray, List.set_cons_zero]
            refine wpAnyH_take (i := 1) (v := .slice (some ⟨g2, 0, none⟩) 3 c2) rfl (by kernel_rfl) (by kernel_rfl) (by kernel_rfl) (fun _ _ _ h => h) (Or.inl ⟨by kernel_rfl, ?_⟩) hHeld ?_
            · intro w' hSw; obtain ⟨z0, z1⟩ := hSw; go_simp
            try simp only [Act.put, List.setIfInBounds_toArray, List.set_cons_zero, List.set_cons_succ]
            refine wpAnyH_take (i := 2) (v := .int .i64 (k : Int)) rfl (by kernel_rfl) (by kernel_rfl) (by kernel_rfl) (fun _ _ _ h => h) (Or.inl ⟨by kernel_rfl, ?_⟩) hHeld ?_
            · intro w' hSw; go_simp
            try simp only [Act.put, List.setIfInBounds_toArray, List.set_cons_zero, List.set_cons_succ]
            refine wpAnyH_take (i := 3) (v := .pointer (some ⟨p, 0, none⟩)) rfl (by kernel_rfl) (by kernel_rfl) (by kernel_rfl) (fun _ _ _ h => h) (Or.inl ⟨by kernel_rfl, ?_⟩) hHeld ?_
            · intro w' hSw; go_simp
            try simp only [Act.put, List.setIfInBounds_toArray, List.set_cons_zero, List.set_cons_succ]
            refine wpAnyH_take (i := 6) (v := .pointer (some ⟨p, 0, none⟩)) rfl (by kernel_rfl) (by kernel_rfl) (by kernel_rfl) (fun _ _ _ h => h) (Or.inl ⟨by kernel_rfl, ?_⟩) hHeld ?_
            · intro w' hSw; go_simp
            try simp only [Act.put, List.setIfInBounds_toArray, List.set_cons_zero, List.set_cons_succ]
            refine wpAnyH_ready (rs := [4]) (by kernel_rfl) (by simp) ?_
            refine AllReadyH.cons rfl (fun KK hK' => ?_) AllReadyH.nil
            go_simp
            refine (below_dr (Dr.start HD.2) 24 (by omega) (by omega)).mono ?_
            rintro e u1 ⟨z, rfl, z0, z1, hdn⟩
            replace A1 := A1.kept hdn.1 (by omega)
            replace A4 := A4.kept hdn.1 (by omega)
            replace PP := PP.kept hdn.1 hlt
            have zu1 : u0.heap.size ≤ u1.heap.size := hdn.1.size
            replace HD := hdn.from HD.1
            clear hdn
            try go_wp2_with fail
            clear hHeld
            refine hK'.out _ _ (one2_mk A4) (fun hHeld => ?_)
            clear hK' KK
            try simp only [List.setIfInBounds_toArray, List.set_cons_zero, List.set_cons_succ]
            refine wpAnyH_ready (rs := [5, 7]) (by kernel_rfl) (by simp) ?_
            refine AllReadyH.cons rfl (fun KK hK' => ?_) ?_
            · obtain ⟨u2, hb, tb, bb, -⟩ := boxed u1 2 #[.int .i64 0, .int .i64 12, .int .i64 6, .int .i64 8, .int .i64 0, .int .i64 18, .int .i64 16, .int .i64 z]
              go_simp
              try rw [hb]
              clear hb
              replace A1 := A1.below bb
              replace A4 := A4.below bb
              replace PP := PP.below bb
              replace HD := HD.below bb
              have zu2 := bb.size
              clear bb
              obtain ⟨t, ht⟩ : ∃ t, u1.heap.size = t := ⟨_, rfl⟩
              have tt : w.heap.size ≤ t := by omega
              rw [ht] at tb
              try rw [ht]
              clear ht
              clear hHeld
              refine hK'.out _ _ (one2_mk A4) (fun hHeld => ?_)
              clear hK' KK
              try simp only [List.setIfInBounds_toArray, List.set_cons_zero, List.set_cons_succ]
              refine wpAnyH_ready (rs := [7]) (by kernel_rfl) (by simp) ?_
              refine AllReadyH.cons rfl (fun KK hK' => ?_) AllReadyH.nil
              go_simp
              refine (below_dr (Dr.start HD.2) 8 (by omega) (by omega)).mono ?_
              rintro e u3 ⟨y, rfl, y0, y1, hdn⟩
              replace A1 := A1.kept hdn.1 (by omega)
              replace A4 := A4.kept hdn.1 (by omega)
              replace PP := PP.kept hdn.1 hlt
              have ltt := tb.lt
              replace tb := tb.kept hdn.1 (by omega)
              have zu3 : u2.heap.size ≤ u3.heap.size := hdn.1.size
              replace HD := hdn.from HD.1
              clear hdn
              try go_wp2_with fail
              clear hHeld
              refine hK'.out _ _ (one2_mk A4) (fun hHeld => ?_)
              clear hK' KK
              try simp only [List.setIfInBounds_toArray, List.set_cons_zero, List.set_cons_succ]
              obtain ⟨y', rfl⟩ := Int.eq_ofNat_of_zero_le y0
              have hy8 : (y' : Int) < 8 := by omega
              obtain ⟨v, hv⟩ := tab8 tb y' (by omega)
              refine wpAnyH_take (i := 8) (v := .pointer (some ⟨t, y', none⟩)) rfl (by kernel_rfl) (by kernel_rfl) (by kernel_rfl) (fun _ _ _ h => h) (Or.inl ⟨by kernel_rfl, ?_⟩) hHeld ?_
              · intro w' hSw; go_simp
              try simp only [Act.put, List.setIfInBounds_toArray, List.set_cons_zero, List.set_cons_succ]
              refine wpAnyH_ready (rs := [9]) (by kernel_rfl) (by simp) ?_
              refine AllReadyH.cons rfl (fun KK hK' => ?_) AllReadyH.nil
              go_simp
              clear hHeld
              refine hK'.out _ _ (one2_mk A4) (fun hHeld => ?_)
              clear hK' KK
              try simp only [List.setIfInBounds_toArray, List.set_cons_zero, List.set_cons_succ]
              refine wpAnyH_take (i := 10) (v := .pointer (some ⟨g2, k, none⟩)) rfl (by kernel_rfl) (by kernel_rfl) (by kernel_rfl) (fun _ _ _ h => h) (Or.inl ⟨by kernel_rfl, ?_⟩) hHeld ?_
              · intro w' hSw; go_simp
              try simp only [Act.put, List.setIfInBounds_toArray, List.set_cons_zero, List.set_cons_succ]
              refine wpAnyH_ready (rs := [11]) (by kernel_rfl) (by simp) ?_
              refine AllReadyH.cons rfl (fun KK hK' => ?_) AllReadyH.nil
              obtain ⟨⟨l1, l2, ne12, n1, n2⟩, M1, M2⟩ := PP
              have hcell : u3.cell? ⟨g2, k, none⟩ = some (.int .i64 (h k)) ∧ u3.frozen? ⟨g2, k, none⟩ = false := by
                obtain ⟨cur, q1, q2, q3⟩ := M2
                exact ⟨q1.cell k (q3 k hk3), q1.frozen k⟩
              obtain ⟨e1, e2⟩ := hcell
              go_simp
              clear e1 e2 hv
              replace A1 := A1.setOther (p := g2) (i := k) (by omega) (.int .i64 v)
              replace A4 := A4.setOther (p := g2) (i := k) (by omega) (.int .i64 v)
              replace M1 := M1.setOther (q := g2) (i := k) (by omega) (.int .i64 v)
              replace M2 := M2.put hk3 (by omega) v
              replace HD := HD.set (g := g2) (i := k) l2 hlt (.int .i64 v)
              clear hHeld
              refine hK'.out _ _ (one2_mk A4) (fun hHeld => ?_)
              clear hK' KK
              try simp only [List.setIfInBounds_toArray, List.set_cons_zero, List.set_cons_succ]
              clear hHeld
              refine wpAnyH_done (by kernel_rfl) ?_ _
              go_wp2
              exact ⟨⟨k + 1, by omega, by go_num, A1, A4, ⟨_, ⟨l1, l2, ne12, n1, n2⟩, M1, M2⟩, HD⟩, by simp [intOf]; omega⟩
            refine AllReadyH.cons rfl (fun KK hK' => ?_) AllReadyH.nil
            go_simp
            refine (below_dr (Dr.start HD.2) 8 (by omega) (by omega)).mono ?_
            rintro e u2 ⟨y, rfl, y0, y1, hdn⟩
            replace A1 := A1.kept hdn.1 (by omega)
            replace A4 := A4.kept hdn.1 (by omega)
            replace PP := PP.kept hdn.1 hlt
            have zu2 : u1.heap.size ≤ u2.heap.size := hdn.1.size
            replace HD := hdn.from HD.1
            clear hdn
            try go_wp2_with fail
            clear hHeld
            refine hK'.out _ _ (one2_mk A4) (fun hHeld => ?_)
            clear hK' KK
            try simp only [List.setIfInBounds_toArray, List.set_cons_zero, List.set_cons_succ]
            refine wpAnyH_ready (rs := [5]) (by kernel_rfl) (by simp) ?_
            refine AllReadyH.cons rfl (fun KK hK' => ?_) AllReadyH.nil
            obtain ⟨u3, hb, tb, bb, -⟩ := boxed u2 2 #[.int .i64 0, .int .i64 12, .int .i64 6, .int .i64 8, .int .i64 0, .int .i64 18, .int .i64 16, .int .i64 z]
            go_simp
            try rw [hb]
            clear hb
            replace A1 := A1.below bb
            replace A4 := A4.below bb
            replace PP := PP.below bb
            replace HD := HD.below bb
            have zu3 := bb.size
            clear bb
            obtain ⟨t, ht⟩ : ∃ t, u2.heap.size = t := ⟨_, rfl⟩
            have tt : w.heap.size ≤ t := by omega
            rw [ht] at tb
            try rw [ht]
            clear ht
            clear hHeld
            refine hK'.out _ _ (one2_mk A4) (fun hHeld => ?_)
            clear hK' KK
            try simp only [List.setIfInBounds_toArray, List.set_cons_zero, List.set_cons_succ]
            obtain ⟨y', rfl⟩ := Int.eq_ofNat_of_zero_le y0
            have hy8 : (y' : Int) < 8 := by omega
            obtain ⟨v, hv⟩ := tab8 tb y' (by omega)
            refine wpAnyH_take (i := 8) (v := .pointer (some ⟨t, y', none⟩)) rfl (by kernel_rfl) (by kernel_rfl) (by kernel_rfl) (fun _ _ _ h => h) (Or.inl ⟨by kernel_rfl, ?_⟩) hHeld ?_
            · intro w' hSw; go_simp
            try simp only [Act.put, List.setIfInBounds_toArray, List.set_cons_zero, List.set_cons_succ]
            refine wpAnyH_ready (rs := [9]) (by kernel_rfl) (by simp) ?_
            refine AllReadyH.cons rfl (fun KK hK' => ?_) AllReadyH.nil
            go_simp
            clear hHeld
            refine hK'.out _ _ (one2_mk A4) (fun hHeld => ?_)
            clear hK' KK
            try simp only [List.setIfInBounds_toArray, List.set_cons_zero, List.set_cons_succ]
            refine wpAnyH_take (i := 10) (v := .pointer (some ⟨g2, k, none⟩)) rfl (by kernel_rfl) (by kernel_rfl) (by kernel_rfl) (fun _ _ _ h => h) (Or.inl ⟨by kernel_rfl, ?_⟩) hHeld ?_
            · intro w' hSw; go_simp
            try simp only [Act.put, List.setIfInBounds_toArray, List.set_cons_zero, List.set_cons_succ]
            refine wpAnyH_ready (rs := [11]) (by kernel_rfl) (by simp) ?_
            refine AllReadyH.cons rfl (fun KK hK' => ?_) AllReadyH.nil
            obtain ⟨⟨l1, l2, ne12, n1, n2⟩, M1, M2⟩ := PP
            have hcell : u3.cell? ⟨g2, k, none⟩ = some (.int .i64 (h k)) ∧ u3.frozen? ⟨g2, k, none⟩ = false := by
              obtain ⟨cur, q1, q2, q3⟩ := M2
              exact ⟨q1.cell k (q3 k hk3), q1.frozen k⟩
            obtain ⟨e1, e2⟩ := hcell
            go_simp
            clear e1 e2 hv
            replace A1 := A1.setOther (p := g2) (i := k) (by omega) (.int .i64 v)
            replace A4 := A4.setOther (p := g2) (i := k) (by omega) (.int .i64 v)
            replace M1 := M1.setOther (q := g2) (i := k) (by omega) (.int .i64 v)
            replace M2 := M2.put hk3 (by omega) v
            replace HD := HD.set (g := g2) (i := k) l2 hlt (.int .i64 v)
            clear hHeld
            refine hK'.out _ _ (one2_mk A4) (fun hHeld => ?_)
            clear hK' KK
            try simp only [List.setIfInBounds_toArray, List.set_cons_zero, List.set_cons_succ]
            clear hHeld
            refine wpAnyH_done (by kernel_rfl) ?_ _
            go_wp2
            exact ⟨⟨k + 1, by omega, by go_num, A1, A4, ⟨_, ⟨l1, l2, ne12, n1, n2⟩, M1, M2⟩, HD⟩, by simp [intOf]; omega⟩
          · have hk4 : ¬ (k : Int) < 3 := by omega
            obtain ⟨d0, d1, f0, f1⟩ := a1.open2
            obtain ⟨d2, d3, f2, f3⟩ := a4.open2
            go_wp2
            have a8 := nil2_at a1 (.slice (some ⟨g1, 0, none⟩) 9 c1) (.slice (some ⟨g2, 0, none⟩) 3 c2)
            obtain ⟨p0, p1, -⟩ := a8.open2
            have P8 := (P.set (q := w.heap.size) (i := 0) (by omega) (by omega) (.slice (some ⟨g1, 0, none⟩) 9 c1)).set (q := w.heap.size) (i := 1) (by omega) (by omega) (.slice (some ⟨g2, 0, none⟩) 3 c2)
            have D8 := (hd.set (g := w.heap.size) (i := 0) (by omega) hlt (.slice (some ⟨g1, 0, none⟩) 9 c1)).set (g := w.heap.size) (i := 1) (by omega) hlt (.slice (some ⟨g2, 0, none⟩) 3 c2)
            exact bodyPost_ret (v := .agg #[.slice (some ⟨g1, 0, none⟩) 9 c1, .slice (some ⟨g2, 0, none⟩) 3 c2]) (by simp [results, Tryz.results74, go_sem, p0, p1]) rfl ⟨g1, c1, g2, c2, rfl, ⟨f, h, P8⟩, D8⟩
end Go.Proofs.YtiocneailhplkaaGreat
