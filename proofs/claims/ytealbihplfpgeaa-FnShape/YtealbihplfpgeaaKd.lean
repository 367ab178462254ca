/-
  The comparing closure of the corners, walked.
-/
import Derived.Test.YtealbihplfpgeaaKc
namespace Go.Proofs.Ytealbihplfpgeaa
open Go.RowKit Go.Shelf Go.Sort

def cmp3 (x y : Int) : Int := if x < y then -1 else if y < x then 1 else 0
theorem isNaN_any (x : Int) (w : World) : Calls Try.prog 92 #[.int .i64 x] w fun e w' => e = .returned (.bool false) ∧ w = w' := by
  have h : (x != x) = false := by simp
  go_enter Try.func92, Try.ntmps92
  go_wp2
  go_ret
  exact ⟨rfl, rfl⟩
theorem cmp_any (x y : Int) (w : World) : Calls Try.prog 72 #[.int .i64 x, .int .i64 y] w fun e w' => e = .returned (.int .i64 (cmp3 x y)) ∧ w = w' := by
  unfold cmp3
  rcases (by omega : x < y ∨ (¬ x < y ∧ y < x) ∨ (¬ x < y ∧ ¬ y < x)) with h | ⟨h, h'⟩ | ⟨h, h'⟩
  · rw [if_pos h]
    go_enter Try.func72, Try.ntmps72
    go_wp2_with (go_at_call 92; refine (isNaN_any _ _).mono ?_; rintro e w2 ⟨rfl, rfl⟩)
    go_ret
    exact ⟨rfl, rfl⟩
  · rw [if_neg h, if_pos h']
    go_enter Try.func72, Try.ntmps72
    go_wp2_with (go_at_call 92; refine (isNaN_any _ _).mono ?_; rintro e w2 ⟨rfl, rfl⟩)
    go_ret
    exact ⟨rfl, rfl⟩
  · rw [if_neg h, if_neg h']
    go_enter Try.func72, Try.ntmps72
    go_wp2_with (go_at_call 92; refine (isNaN_any _ _).mono ?_; rintro e w2 ⟨rfl, rfl⟩)
    go_ret
    exact ⟨rfl, rfl⟩
theorem isNaNi_any (x : Int) (w : World) : Calls Try.prog 91 #[.int .i64 x] w fun e w' => e = .returned (.bool false) ∧ w = w' := by
  have h : (x != x) = false := by simp
  go_enter Try.func91, Try.ntmps91
  go_wp2
  go_ret
  exact ⟨rfl, rfl⟩
theorem cmpi_any (x y : Int) (w : World) : Calls Try.prog 70 #[.int .i64 x, .int .i64 y] w fun e w' => e = .returned (.int .i64 (cmp3 x y)) ∧ w = w' := by
  unfold cmp3
  rcases (by omega : x < y ∨ (¬ x < y ∧ y < x) ∨ (¬ x < y ∧ ¬ y < x)) with h | ⟨h, h'⟩ | ⟨h, h'⟩
  · rw [if_pos h]
    go_enter Try.func70, Try.ntmps70
    go_wp2_with (go_at_call 91; refine (isNaNi_any _ _).mono ?_; rintro e w2 ⟨rfl, rfl⟩)
    go_ret
    exact ⟨rfl, rfl⟩
  · rw [if_neg h, if_pos h']
    go_enter Try.func70, Try.ntmps70
    go_wp2_with (go_at_call 91; refine (isNaNi_any _ _).mono ?_; rintro e w2 ⟨rfl, rfl⟩)
    go_ret
    exact ⟨rfl, rfl⟩
  · rw [if_neg h, if_neg h']
    go_enter Try.func70, Try.ntmps70
    go_wp2_with (go_at_call 91; refine (isNaNi_any _ _).mono ?_; rintro e w2 ⟨rfl, rfl⟩)
    go_ret
    exact ⟨rfl, rfl⟩
theorem or_any (x y : Int) (g cap : Nat) (w : World) (h0 : w.cell? ⟨g, 0, none⟩ = some (.int .i64 x)) (h1 : w.cell? ⟨g, 1, none⟩ = some (.int .i64 y)) :
    Calls Try.prog 69 #[.slice (some ⟨g, 0, none⟩) 2 cap] w fun e w' => e = .returned (.int .i64 (if x = 0 then y else x)) ∧ w = w' := by
  obtain ⟨R, hR⟩ : ∃ R, (if x = 0 then y else x) = R := ⟨_, rfl⟩
  have HR : Hid ((if x = 0 then y else x) = R) := hR
  rw [hR]
  clear hR
  go_enter Try.func69, Try.ntmps69
  go_wp2
  go_loopw [8] (fun s wr => ∃ k : Nat, k ≤ 2 ∧ s = .int .i64 k ∧ w = wr ∧ (1 ≤ k → x = 0) ∧ (2 ≤ k → y = 0)) (fun s _ => 2 - (intOf s).toNat)
  case atStart => exact ⟨0, Nat.zero_le _, rfl, rfl, fun h => by omega, fun h => by omega⟩
  case round =>
    obtain ⟨k, hk, rfl, rfl, hx, hy⟩ := hrel
    rcases (by omega : k = 0 ∨ k = 1 ∨ k = 2) with rfl | rfl | rfl
    · clear hx hy
      by_cases hz : x = 0
      · have hz' : (x != 0) = false := by simp [hz]
        have HZ : Hid (x = 0) := hz
        clear hz
        go_wp2
        exact ⟨⟨1, by omega, by go_num, by trivial, fun _ => HZ.out, fun h => by omega⟩, by simp [intOf]⟩
      · have hz' : (x != 0) = true := by simp [hz]
        go_wp2
        go_ret
        exact ⟨by rw [← HR.out, if_neg hz]; rfl, rfl⟩
    · have HX : Hid (x = 0) := hx (by omega)
      clear hx hy
      by_cases hz : y = 0
      · have hz' : (y != 0) = false := by simp [hz]
        have HZ : Hid (y = 0) := hz
        clear hz
        go_wp2
        exact ⟨⟨2, by omega, by go_num, by trivial, fun _ => HX.out, fun _ => HZ.out⟩, by simp [intOf]⟩
      · have hz' : (y != 0) = true := by simp [hz]
        go_wp2
        go_ret
        exact ⟨by rw [← HR.out, if_pos HX.out]; rfl, rfl⟩
    · have HX : Hid (x = 0) := hx (by omega)
      have HY : Hid (y = 0) := hy (by omega)
      clear hx hy
      go_wp2
      go_ret
      exact ⟨by rw [← HR.out, if_pos HX.out, HY.out]; rfl, rfl⟩
/-- The world behind it: draws, and new blocks. -/
def Grew (w w' : World) : Prop := ∃ q os, w' = Go.Sort.grow (w.drewN q) os
theorem Grew.refl (w : World) : Grew w w := ⟨0, #[], by simp [Go.Sort.grow, World.drewN]⟩
theorem Grew.drew {w w' : World} (h : Grew w w') : Grew w w'.drew := by
  obtain ⟨q, os, rfl⟩ := h
  exact ⟨q + 1, os, rfl⟩
theorem Grew.alloc {w w' : World} (h : Grew w w') (o : Obj) : Grew w (w'.alloc o) := by
  obtain ⟨q, os, rfl⟩ := h
  exact ⟨q, os ++ #[o], by rw [Go.Sort.alloc_eq_grow, Go.Sort.grow_grow]⟩
theorem Grew.below {w w' : World} (h : Grew w w') : Below w.heap.size w w' := by
  obtain ⟨q, os, rfl⟩ := h
  refine ⟨rfl, rfl, rfl, by simp [Go.Sort.grow, World.drewN], fun k hk => ?_⟩
  simp only [Go.Sort.grow, World.drewN]
  rw [Array.getElem?_append_left hk]
theorem Grew.trans {w w' w'' : World} (h : Grew w w') (h' : Grew w' w'') : Grew w w'' := by
  obtain ⟨q, os, rfl⟩ := h
  obtain ⟨q', os', rfl⟩ := h'
  refine ⟨q + q', os ++ os', ?_⟩
  simp [Go.Sort.grow, World.drewN, Array.append_assoc, Nat.add_assoc]
theorem turnC_any (a b g c d h : Int) (w : World) (ha : -1000000 ≤ a ∧ a ≤ 1000000) (hb : -1000000 ≤ b ∧ b ≤ 1000000) (hc : -1000000 ≤ c ∧ c ≤ 1000000) (hd : -1000000 ≤ d ∧ d ≤ 1000000) :
    Calls Try.prog 73 #[fV a b g, fV c d h] w fun e w' => e = .returned (.int .i64 (a * d - b * c)) ∧ Grew w w' := by
  have m1 := mul_bound ha hd
  have m2 := mul_bound hb hc
  obtain ⟨W, hW, b0, b1, bW, -⟩ := boxed2 w 33 33 #[.int .i64 a, .int .i64 b, .int .i64 g] #[.int .i64 c, .int .i64 d, .int .i64 h]
  obtain ⟨c0, c1, c2, -⟩ := b0.open3
  obtain ⟨d0, d1, d2, -⟩ := b1.open3
  have G : Grew w W := by rw [← hW]; exact ((Grew.refl w).alloc _).alloc _
  go_enter Try.func73, Try.ntmps73
  go_wp2
  go_ret
  exact ⟨rfl, G⟩
/-- Half turns between two corners. -/
def hT (a b g c d h : Int) : Int := if (a = c ∧ b = d ∧ g = h) ∨ 0 < a * d - b * c then 0 else 1
theorem half_any (a b g c d h : Int) (w : World) (ha : -1000000 ≤ a ∧ a ≤ 1000000) (hb : -1000000 ≤ b ∧ b ≤ 1000000) (hc : -1000000 ≤ c ∧ c ≤ 1000000) (hd : -1000000 ≤ d ∧ d ≤ 1000000) :
    Calls Try.prog 71 #[fV a b g, fV c d h] w fun e w' => e = .returned (.int .i64 (hT a b g c d h)) ∧ Grew w w' := by
  have T := fun w => turnC_any a b g c d h w ha hb hc hd
  obtain ⟨t, ht⟩ : ∃ t, a * d - b * c = t := ⟨_, rfl⟩
  unfold hT
  rw [ht] at T ⊢
  clear ht
  obtain ⟨W, hW, b0, b1, bW, -⟩ := boxed2 w 33 33 #[.int .i64 a, .int .i64 b, .int .i64 g] #[.int .i64 c, .int .i64 d, .int .i64 h]
  obtain ⟨c0, c1, c2, -⟩ := b0.open3
  obtain ⟨d0, d1, d2, -⟩ := b1.open3
  have G : Grew w W := by rw [← hW]; exact ((Grew.refl w).alloc _).alloc _
  have fin : (a = c ∧ b = d ∧ g = h) ∨ (a = c ∧ b = d ∧ ¬ g = h) ∨ (a = c ∧ ¬ b = d) ∨ ¬ a = c := by omega
  by_cases p : 0 < t
  · rw [if_pos (.inr p)]
    rcases fin with ⟨rfl, rfl, rfl⟩ | ⟨rfl, rfl, ng⟩ | ⟨rfl, ng⟩ | ng
    all_goals
      go_enter Try.func71, Try.ntmps71
      go_wp2_with (go_at_call 73; refine (T _).mono ?_; rintro e w2 ⟨rfl, g2⟩)
      go_ret
      first | exact ⟨rfl, G⟩ | exact ⟨rfl, G.trans g2⟩
  · rcases fin with ⟨rfl, rfl, rfl⟩ | ⟨rfl, rfl, ng⟩ | ⟨rfl, ng⟩ | ng
    · rw [if_pos (.inl ⟨rfl, rfl, rfl⟩)]
      go_enter Try.func71, Try.ntmps71
      go_wp2_with fail
      go_ret
      exact ⟨rfl, G⟩
    all_goals
      rw [if_neg (by omega)]
      go_enter Try.func71, Try.ntmps71
      go_wp2_with (go_at_call 73; refine (T _).mono ?_; rintro e w2 ⟨rfl, g2⟩)
      go_ret
      exact ⟨rfl, G.trans g2⟩
end Go.Proofs.Ytealbihplfpgeaa
