/-
  The specification's known operators, walked: sixteen texts are read.
-/
import Derived.Test.YtpolnkjmojofoaaDrA
import Derived.Test.YtpolnkjmojofoaaRu
namespace Go.Proofs.Ytpolnkjmojofoaa
open Go.RowKit

/-- The texts. -/
def txt (k : Nat) : ByteArray :=
  match k with
  | 0 => ⟨#[45, 120, 44, 45, 121, 44, 45, 122]⟩
  | 1 => ⟨#[45, 120, 44, 45, 121, 44, 122]⟩
  | 2 => ⟨#[45, 120, 44, 121, 43, 49, 47, 50, 44, 45, 122]⟩
  | 3 => ⟨#[120, 44, 45, 121, 44, 122, 43, 49, 47, 50]⟩
  | 4 => ⟨#[45, 121, 44, 120, 44, 122]⟩
  | 5 => ⟨#[45, 121, 44, 120, 44, 122, 43, 49, 47, 52]⟩
  | 6 => ⟨#[122, 44, 120, 44, 121]⟩
  | 7 => ⟨#[45, 121, 44, 120, 45, 121, 44, 122]⟩
  | 8 => ⟨#[45, 121, 44, 120, 45, 121, 44, 122, 43, 49, 47, 51]⟩
  | 9 => ⟨#[120, 43, 49, 47, 50, 44, 121, 43, 49, 47, 50, 44, 122]⟩
  | 10 => ⟨#[120, 43, 49, 47, 50, 44, 121, 43, 49, 47, 50, 44, 122, 43, 49, 47, 50]⟩
  | 11 => ⟨#[121, 44, 120, 44, 45, 122]⟩
  | 12 => ⟨#[120, 44, 121, 43, 49, 47, 50, 44, 122, 43, 49, 47, 50]⟩
  | 13 => ⟨#[45, 120, 43, 49, 47, 50, 44, 121, 43, 49, 47, 50, 44, 45, 122]⟩
  | 14 => ⟨#[45, 121, 43, 49, 47, 52, 44, 120, 43, 49, 47, 52, 44, 122, 43, 51, 47, 52]⟩
  | _ => ⟨#[120, 45, 121, 44, 120, 44, 122, 43, 49, 47, 50]⟩
def txts : Array Value := #[.string ⟨#[45, 120, 44, 45, 121, 44, 45, 122]⟩, .string ⟨#[45, 120, 44, 45, 121, 44, 122]⟩, .string ⟨#[45, 120, 44, 121, 43, 49, 47, 50, 44, 45, 122]⟩, .string ⟨#[120, 44, 45, 121, 44, 122, 43, 49, 47, 50]⟩, .string ⟨#[45, 121, 44, 120, 44, 122]⟩, .string ⟨#[45, 121, 44, 120, 44, 122, 43, 49, 47, 52]⟩, .string ⟨#[122, 44, 120, 44, 121]⟩, .string ⟨#[45, 121, 44, 120, 45, 121, 44, 122]⟩, .string ⟨#[45, 121, 44, 120, 45, 121, 44, 122, 43, 49, 47, 51]⟩, .string ⟨#[120, 43, 49, 47, 50, 44, 121, 43, 49, 47, 50, 44, 122]⟩, .string ⟨#[120, 43, 49, 47, 50, 44, 121, 43, 49, 47, 50, 44, 122, 43, 49, 47, 50]⟩, .string ⟨#[121, 44, 120, 44, 45, 122]⟩, .string ⟨#[120, 44, 121, 43, 49, 47, 50, 44, 122, 43, 49, 47, 50]⟩, .string ⟨#[45, 120, 43, 49, 47, 50, 44, 121, 43, 49, 47, 50, 44, 45, 122]⟩, .string ⟨#[45, 121, 43, 49, 47, 52, 44, 120, 43, 49, 47, 52, 44, 122, 43, 51, 47, 52]⟩, .string ⟨#[120, 45, 121, 44, 120, 44, 122, 43, 49, 47, 50]⟩]
theorem txt_at (k : Nat) (hk : k < 16) : txts[k]? = some (.string (txt k)) := by
  rcases (by omega : k = 0 ∨ k = 1 ∨ k = 2 ∨ k = 3 ∨ k = 4 ∨ k = 5 ∨ k = 6 ∨ k = 7 ∨ k = 8 ∨ k = 9 ∨ k = 10 ∨ k = 11 ∨ k = 12 ∨ k = 13 ∨ k = 14 ∨ k = 15) with rfl | rfl | rfl | rfl | rfl | rfl | rfl | rfl | rfl | rfl | rfl | rfl | rfl | rfl | rfl | rfl <;> rfl
theorem txt_size (k : Nat) (hk : k < 16) : (txt k).size ≤ 200 := by
  have h : ∀ k : Fin 16, (txt k.val).size ≤ 200 := by decide +kernel
  exact h ⟨k, hk⟩
theorem txt_read (k : Nat) (hk : k < 16) : (readF (txt k) ((txt k).size + 2) 0 0 0 (fun _ => 0) (fun _ => 0)).1 = true := by
  have h : ∀ k : Fin 16, (readF (txt k.val) ((txt k.val).size + 2) 0 0 0 (fun _ => 0) (fun _ => 0)).1 = true := by decide +kernel
  exact h ⟨k, hk⟩
/-- What is read is right. -/
theorem readF_right (s : ByteArray) (fu i k c : Nat) (M T : Nat → Int) (h : (readF s fu i k c M T).1 = true) : isOp 9 (readF s fu i k c M T).2.2.1 3 (readF s fu i k c M T).2.2.2 := by
  induction fu generalizing i k c M T with
  | zero => simp [readF] at h
  | succ fu ih =>
    rw [readF] at h ⊢
    split at h
    · split at h
      · rename_i h1 h2
        rw [if_pos h1, if_pos h2]; exact h2.2
      · simp at h
    · split at h
      · rename_i h1 h2
        rw [if_neg h1, if_pos h2]; exact ih _ _ _ _ _ h
      · rename_i h1 h2
        rw [if_neg h1, if_neg h2]
        dsimp only at h ⊢
        split at h
        · rename_i h3
          rw [if_pos h3]; exact ih _ _ _ _ _ h
        · simp at h
/-- Two lists that are a right operator; neither lies in the block named. -/
def RightP (w : World) (lo : Nat) (row : Option Nat) (v1 v2 : Value) : Prop :=
  ∃ g1 c1 g2 c2 f h, ((lo ≤ g1 ∧ lo ≤ g2) ∧ c1 ≤ maxLen ∧ c2 ≤ maxLen) ∧ v1 = .slice (some ⟨g1, 0, none⟩) 9 c1 ∧ v2 = .slice (some ⟨g2, 0, none⟩) 3 c2 ∧ row ≠ some g1 ∧ row ≠ some g2 ∧ Made w g1 c1 9 f ∧ Made w g2 c2 3 h ∧ isR f h
/-- A list of right operators. -/
def Rights (w : World) (lo : Nat) (v : Value) (k : Nat) (ys : List Value) : Prop :=
  ys.length = k * 2 ∧ ∀ i, i < k → ∃ v1 v2, ys[i * 2]? = some v1 ∧ ys[i * 2 + 1]? = some v2 ∧ RightP w lo v.ownBlock v1 v2
theorem Made.grown {w w' : World} {g c n : Nat} {f : Nat → Int} {row : Option Nat} (h : Made w g c n f) (hg : w.grownBy w' row) (hr : row ≠ some g) : Made w' g c n f := by
  obtain ⟨cur, h1, h2⟩ := h
  exact ⟨cur, (hg.block g h1.lt (fun e => hr e.symm)).trans h1, h2⟩
theorem RightP.below {w w' : World} {lo : Nat} {row : Option Nat} {v1 v2 : Value} (h : RightP w lo row v1 v2) (hb : Below w.heap.size w w') : RightP w' lo row v1 v2 := by
  obtain ⟨g1, c1, g2, c2, f, h, l, e1, e2, n1, n2, m1, m2, r⟩ := h
  exact ⟨g1, c1, g2, c2, f, h, l, e1, e2, n1, n2, m1.below hb, m2.below hb, r⟩
theorem Rights.below {w w' : World} {lo : Nat} {v : Value} {k : Nat} {ys : List Value} (h : Rights w lo v k ys) (hb : Below w.heap.size w w') : Rights w' lo v k ys := by
  refine ⟨h.1, fun i hi => ?_⟩
  obtain ⟨v1, v2, e1, e2, r⟩ := h.2 i hi
  exact ⟨v1, v2, e1, e2, r.below hb⟩
theorem Made.kept {w w' : World} {p g n k : Nat} {f : Nat → Int} (h : Made w g n k f) (hk : Kept p w w') (hne : g ≠ p) : Made w' g n k f := by
  obtain ⟨cur, h1, h2⟩ := h
  exact ⟨cur, (hk.block g h1.lt hne).trans h1, h2⟩
theorem Rights.kept {w w' : World} {lo p : Nat} {v : Value} {k : Nat} {ys : List Value} (h : Rights w lo v k ys) (hk : Kept p w w') (hp : p < lo) : Rights w' lo v k ys := by
  refine ⟨h.1, fun i hi => ?_⟩
  obtain ⟨v1, v2, e1, e2, g1, c1, g2, c2, f, h, l, e3, e4, n1, n2, m1, m2, r⟩ := h.2 i hi
  exact ⟨v1, v2, e1, e2, g1, c1, g2, c2, f, h, l, e3, e4, n1, n2, m1.kept hk (by omega), m2.kept hk (by omega), r⟩
theorem own_cell {w : World} {base g n c j : Nat} {e : TypeId} {ys : List Value} {v : Value} (h : w.ownsRow base e 2 (.slice (some ⟨g, 0, none⟩) n c) n ys) (hj : j < n * 2) (hv : ys[j]? = some v) : w.cell? ⟨g, j, none⟩ = some v := by
  rcases h.2 with ⟨h1, _⟩ | ⟨g', cap', cur, hv', _, hh, _, _, _, ht⟩
  · cases h1
  · cases hv'
    rw [← ht, List.getElem?_take_of_lt hj] at hv
    simp only [World.cell?, hh]
    simpa using hv
/-- One more. -/
theorem Rights.snoc {w w' : World} {lo : Nat} {v v' v1 v2 : Value} {k : Nat} {ys : List Value} (h : Rights w lo v k ys) (hg : w.grownBy w' v.ownBlock) (hb : v'.ownBlock = v.ownBlock ∨ v'.ownBlock = some w.heap.size) (hn : RightP w lo v.ownBlock v1 v2) : Rights w' lo v' (k + 1) (ys ++ [v1, v2]) := by
  have key : ∀ {u1 u2 : Value}, RightP w lo v.ownBlock u1 u2 → RightP w' lo v'.ownBlock u1 u2 := by
    rintro u1 u2 ⟨g1, c1, g2, c2, f, h, l, e1, e2, n1, n2, m1, m2, r⟩
    have hne : ∀ {g c n : Nat} {f : Nat → Int}, Made w g c n f → v.ownBlock ≠ some g → v'.ownBlock ≠ some g := by
      intro g c n f m ne e
      rcases hb with q | q
      · exact ne (q.symm.trans e)
      · have h1 := m.lt
        have h2 : g = w.heap.size := Option.some.inj (e.symm.trans q)
        omega
    exact ⟨g1, c1, g2, c2, f, h, l, e1, e2, hne m1 n1, hne m2 n2, m1.grown hg n1, m2.grown hg n2, r⟩
  refine ⟨by simp [h.1]; omega, fun i hi => ?_⟩
  by_cases e : i = k
  · subst e
    have hl := h.1
    refine ⟨v1, v2, ?_, ?_, key hn⟩
    · rw [List.getElem?_append_right (by omega), h.1]; simp
    · rw [List.getElem?_append_right (by omega), h.1]; simp
  · obtain ⟨u1, u2, e1, e2, r⟩ := h.2 i (by omega)
    have hl := h.1
    exact ⟨u1, u2, by rw [List.getElem?_append_left (by omega)]; exact e1, by rw [List.getElem?_append_left (by omega)]; exact e2, key r⟩
theorem Try.infoR33 : (Try.prog.info? 33).map (fun i => (i.zero, i.size, i.bytes)) = some (some (.agg #[.slice none 0 0, .slice none 0 0]), 2, 48) := by kernel_rfl
theorem told_right {w : World} {lo hi : Nat} {o : Value} {f h : Nat → Int} (ho : Told w lo hi o true f h) (hop : isOp 9 f 3 h) (r : Option Nat) (hr : ∀ x, r = some x → x < lo) {lo' : Nat} (hl : lo' ≤ lo) : ∃ a1 c1 a2 c2, o = .agg #[.slice a1 9 c1, .slice a2 3 c2] ∧ RightP w lo' r (.slice a1 9 c1) (.slice a2 3 c2) := by
  obtain ⟨v1, v2, rfl, m1, m2, -⟩ := ho
  rcases m1 with ⟨-, h0⟩ | ⟨g1, c1, rfl, l1, u1, n1, M1⟩
  · simp at h0
  rcases m2 with ⟨-, h0⟩ | ⟨g2, c2, rfl, l2, u2, n2, M2⟩
  · simp at h0
  refine ⟨_, _, _, _, rfl, g1, c1, g2, c2, f, h, ⟨⟨by omega, by omega⟩, n1.2, n2.2⟩, rfl, rfl, fun e => ?_, fun e => ?_, M1, M2, hop.2.2⟩
  · have := hr _ e; omega
  · have := hr _ e; omega
set_option maxRecDepth 100000 in
theorem some_any (w : World) : Calls Try.prog 47 #[] w fun e w' => ∃ g c ys, e = .returned (.slice (some ⟨g, 0, none⟩) 16 c) ∧ w'.ownsRow w.heap.size 33 2 (.slice (some ⟨g, 0, none⟩) 16 c) 16 ys ∧ Rights w' w.heap.size (.slice (some ⟨g, 0, none⟩) 16 c) 16 ys ∧ Below w.heap.size w w' := by
  have hbs : ∀ w, (Instr.buildSlice 24 0 #[]).run Try.prog w = .ok (.slice (some ⟨w.heap.size, 0, none⟩) 0 0) (w.alloc (.cells #[] 33)) := fun _ => by kernel_rfl
  obtain ⟨i0, hi0, hz0, hz1, hz2⟩ := info_parts Try.infoR33
  obtain ⟨W1, hW1, a1, B, z1⟩ := boxed w 33 #[]
  obtain ⟨W2, hW2, a2, B2, z2⟩ := boxed W1 9 #[.string ⟨#[45, 120, 44, 45, 121, 44, 45, 122]⟩, .string ⟨#[45, 120, 44, 45, 121, 44, 122]⟩, .string ⟨#[45, 120, 44, 121, 43, 49, 47, 50, 44, 45, 122]⟩, .string ⟨#[120, 44, 45, 121, 44, 122, 43, 49, 47, 50]⟩, .string ⟨#[45, 121, 44, 120, 44, 122]⟩, .string ⟨#[45, 121, 44, 120, 44, 122, 43, 49, 47, 52]⟩, .string ⟨#[122, 44, 120, 44, 121]⟩, .string ⟨#[45, 121, 44, 120, 45, 121, 44, 122]⟩, .string ⟨#[45, 121, 44, 120, 45, 121, 44, 122, 43, 49, 47, 51]⟩, .string ⟨#[120, 43, 49, 47, 50, 44, 121, 43, 49, 47, 50, 44, 122]⟩, .string ⟨#[120, 43, 49, 47, 50, 44, 121, 43, 49, 47, 50, 44, 122, 43, 49, 47, 50]⟩, .string ⟨#[121, 44, 120, 44, 45, 122]⟩, .string ⟨#[120, 44, 121, 43, 49, 47, 50, 44, 122, 43, 49, 47, 50]⟩, .string ⟨#[45, 120, 43, 49, 47, 50, 44, 121, 43, 49, 47, 50, 44, 45, 122]⟩, .string ⟨#[45, 121, 43, 49, 47, 52, 44, 120, 43, 49, 47, 52, 44, 122, 43, 51, 47, 52]⟩, .string ⟨#[120, 45, 121, 44, 120, 44, 122, 43, 49, 47, 50]⟩]
  have o0 : W1.ownsRow w.heap.size 33 2 (.slice (some ⟨w.heap.size, 0, none⟩) 0 0) 0 [] := ⟨rfl, .inr ⟨w.heap.size, 0, #[], rfl, Nat.le_refl _, a1, Nat.le_refl _, Nat.zero_le _, rfl, rfl⟩⟩
  replace o0 := own_below o0 B2
  have t2 : At 9 W2 W1.heap.size txts := a2
  have r0 : Hid (Rights W2 w.heap.size (.slice (some ⟨w.heap.size, 0, none⟩) 0 0) 0 []) := ⟨rfl, fun i hi => by omega⟩
  have h0 : Hid ((Value.slice (some ⟨w.heap.size, 0, none⟩) 0 0).ownBlock ≠ some W1.heap.size) := by
    intro e
    have : w.heap.size = W1.heap.size := Option.some.inj e
    omega
  replace B := B.trans (B2.mono B.size)
  have zz : w.heap.size < W1.heap.size := by omega
  clear a1 a2 B2 z1 z2
  go_enter Try.func47, Try.ntmps47
  go_wp2
  clear hW1 hW2 hbs
  go_loopw [1, 3] (fun v s wr => ∃ (k : Nat) (ys : List Value), k ≤ 16 ∧ s = .int .i64 k ∧ Hid (v ≠ .slice none 0 0) ∧ At 9 wr W1.heap.size txts ∧ wr.ownsRow w.heap.size 33 2 v k ys ∧ Hid (Rights wr w.heap.size v k ys) ∧ Hid (v.ownBlock ≠ some W1.heap.size) ∧ Below w.heap.size w wr) (fun _ s _ => 16 - (intOf s).toNat)
  case atStart => exact ⟨0, [], Nat.zero_le _, rfl, ne_nil _ _ _, t2, o0, r0, h0, B⟩
  case round =>
    clear t2 o0 r0 h0 B
    obtain ⟨k, ys, hk, rfl, hnn, t, own, rs, hne, B⟩ := hrel
    have hrow : Hid (∀ x, u1.ownBlock = some x → x < wr.heap.size) := fun x hx => ownBlock_lt own hx
    have hrow2 : Hid (∀ x, u1.ownBlock = some x → w.heap.size ≤ x) := fun x hx => ownBlock_ge own hx
    by_cases hk2 : k < 16
    · have hk3 : (k : Int) < 16 := by omega
      have ct := t.cell k (txt_at k hk2)
      have hrd := opRead_any (txt k) wr (txt_size k hk2)
      have htr := txt_read k hk2
      have hop := readF_right _ _ _ _ _ _ _ htr
      rw [htr] at hrd
      generalize (readF (txt k) ((txt k).size + 2) 0 0 0 (fun _ => 0) (fun _ => 0)).2.1 = R1 at hrd
      generalize (readF (txt k) ((txt k).size + 2) 0 0 0 (fun _ => 0) (fun _ => 0)).2.2.1 = R2 at hrd hop
      generalize (readF (txt k) ((txt k).size + 2) 0 0 0 (fun _ => 0) (fun _ => 0)).2.2.2 = R3 at hrd hop
      clear htr
      generalize txt k = tx at ct hrd
      go_wp2_with fail
      refine hrd.mono ?_
      rintro e w3 ⟨o, rfl, ho, b3⟩
      obtain ⟨x1, c1, x2, c2, rfl, hr⟩ := told_right ho hop u1.ownBlock hrow.out (lo' := w.heap.size) (by have := B.size; omega)
      clear ho hop hrd ct
      replace t := t.below b3
      replace own := own_below own b3
      have rs3 := rs.out.below b3
      replace B := B.trans (b3.mono B.size)
      have s3 := b3.size
      clear rs b3
      obtain ⟨X4, hX4, w4, hY4, a4, b4, y0, y1, y2, y3⟩ := boxed2 w3 (.slice x1 9 c1) (.slice x2 3 c2)
      replace t := t.below b4
      replace own := own_below own b4
      replace rs3 := rs3.below b4
      replace hr := hr.below b4
      replace B := B.trans (b4.mono B.size)
      have s4 := b4.size
      clear b4
      obtain ⟨w5, hw5, a5, b5, -⟩ := boxed w4 33 #[.slice x1 9 c1, .slice x2 3 c2]
      have t5 := t.below b5
      have own5 := own_below own b5
      have rs5 : Hid (Rights w5 w.heap.size u1 k ys) := rs3.below b5
      have hr5 : Hid (RightP w5 w.heap.size u1.ownBlock (.slice x1 9 c1) (.slice x2 3 c2)) := hr.below b5
      have B5 := B.trans (b5.mono B.size)
      have s5 := b5.size
      obtain ⟨d0, d1, f0, f1⟩ := a4.open2
      have hnw : ∀ j u, [Value.slice x1 9 c1, Value.slice x2 3 c2][j]? = some u → w5.cell? ((⟨w4.heap.size, 0, none⟩ : Addr).add j) = some u := by
        intro j u hu
        match j with
        | 0 => cases hu; exact a5.cell 0 rfl
        | 1 => cases hu; exact a5.cell 1 rfl
        | j + 2 => cases hu
      have h1c : ∀ u ∈ [Value.slice x1 9 c1, Value.slice x2 3 c2], u.oneCell' = true := by
        intro u hu
        simp at hu
        rcases hu with rfl | rfl <;> rfl
      have hm1 : k + 1 ≤ maxLen := by unfold maxLen; omega
      have hm2 : (k + 1) * 48 ≤ 140737488355328 := by omega
      have hm3 : w.heap.size ≤ w5.heap.size := B5.size
      clear t own rs3 hr B b5
      go_wp2_with (at_builtin; refine Hid.out (?_ : Hid _))
      refine (?_ : wpList _ _ _ _ _ _)
      refine wpList_append_own_at _ rfl _ _ _ rfl w.heap.size 33 i0 _ 2 48 Try.underlying24 hi0 hz0 hz1 hz2 rfl (by omega) u1 k ys rfl own5 ⟨w4.heap.size, 0, none⟩ 1 1 [.slice x1 9 c1, .slice x2 3 c2] rfl rfl hnw h1c hm1 hm2 hm3 ?_
      intro v3 w6 hown3 hgrow3 hne3 hblk3
      have e3 : Hid (v3 ≠ .slice none 0 0) := by
        intro e
        have := (hne3.1 e).2
        omega
      have rs6 : Hid (Rights w6 w.heap.size v3 (k + 1) (ys ++ [.slice x1 9 c1, .slice x2 3 c2])) := rs5.out.snoc hgrow3 hblk3 hr5.out
      have hz := hrow2.out
      have t6 : At 9 w6 W1.heap.size txts := (hgrow3.block _ t5.lt (fun e => hne.out e.symm)).trans t5
      have hn6 : Hid (v3.ownBlock ≠ some W1.heap.size) := by
        intro e
        rcases hblk3 with q | q
        · exact hne.out (q.symm.trans e)
        · have h1 := t5.lt
          have h2 : W1.heap.size = w5.heap.size := Option.some.inj (e.symm.trans q)
          omega
      have B6 : Below w.heap.size w w6 := B5.grown hgrow3 hm3 (fun x hx => hz x hx)
      clear hz hrow2 hrow hblk3 hgrow3 hne3 own5 t5 rs5 hr5 B5 hnw h1c hm1 hm2 hm3 d0 d1 f0 f1 a5 a4 y0 y1 y2 y3 hX4 hY4 hw5
      go_wp2
      exact ⟨⟨k + 1, _, by omega, by go_num, e3, t6, hown3, rs6, hn6, B6⟩, by simp [intOf]; omega⟩
    · have hk3 : ¬ (k : Int) < 16 := by omega
      obtain rfl : k = 16 := by omega
      obtain ⟨g, c, rfl⟩ : ∃ g c, u1 = .slice (some ⟨g, 0, none⟩) 16 c := by
        rcases own.2 with ⟨h1, _⟩ | ⟨g, c, cur, hv, _⟩
        · exact absurd h1 hnn.out
        · exact ⟨g, c, hv⟩
      clear hrow hrow2 hnn hne t
      go_wp2
      go_ret
      exact ⟨g, c, rfl, ys, own, rs.out, B⟩
end Go.Proofs.Ytpolnkjmojofoaa
