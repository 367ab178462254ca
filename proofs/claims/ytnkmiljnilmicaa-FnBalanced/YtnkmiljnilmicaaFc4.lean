/-
  The law of a balanced row: walked.
-/
import Derived.Test.YtnkmiljnilmicaaFc3
import Derived.Test.YtnkmiljnilmicaaTf
import Derived.Test.YtnkmiljnilmicaaTo
import Derived.Test.YtnkmiljnilmicaaTs
namespace Go.Proofs.Ytnkmiljnilmicaa
open Go.RowKit

theorem cut_row (f : Int) {m : Nat} (hm : m ≤ 1000) : rowOk (tx (cutR f m)) 1000 = true := by
  rw [rowOk_iff]
  have hs : (tx (cutR f m)).size = m := by rw [tx_size, cutR_len]
  refine ⟨by omega, fun k hk => ?_⟩
  have hk' : k < (cutR f m).length := by rw [cutR_len]; omega
  have h1 := cutR_get f m k hk'
  have h2 := tx_sb (cutR f m) k hk'
  rw [h2, h1]
  unfold cutL
  split <;> simp
/-- A stretch of a row that is cut. -/
theorem cut_sx (f : Int) {m k i : Nat} (h : i + k ≤ m) : bl (sx (tx (cutR f m)) k i) = (List.range k).map fun j => cutL f (i + j) := by
  unfold bl sx tx
  refine List.ext_getElem (by simp [cutR_len]; omega) fun j h1 h2 => ?_
  have h3 : j < k := by simpa using h2
  simp [cutR_get]
theorem fac_len {f : Int} (h0 : 0 ≤ f) (h1 : f ≤ 100000000) {m k : Nat} (hm : m ≤ 200) {D : List ByteArray} (hD : FacD (tx (cutR f m)) k D) : D.length ≤ k + 1 ∧ (0 < D.length ↔ k ≤ m) := by
  have hs : (tx (cutR f m)).size = m := by rw [tx_size, cutR_len]
  constructor
  · have h2 := cut_factors h0 h1 (k := k) (D.map bl) (hD.2.imp (fun hlt e => by subst e; exact absurd hlt (List.lt_irrefl _))) (fun s hsm => by
      obtain ⟨x, hx, rfl⟩ := List.mem_map.1 hsm
      obtain ⟨i, hi, rfl⟩ := (hD.1 x).1 hx
      exact ⟨i, by omega, cut_sx f (by omega)⟩)
    rwa [List.length_map] at h2
  · constructor
    · intro h
      obtain ⟨x, hx⟩ := List.exists_mem_of_length_pos h
      obtain ⟨i, hi, -⟩ := (hD.1 x).1 hx
      omega
    · intro h
      exact List.length_pos_of_mem ((hD.1 _).2 ⟨0, by omega, rfl⟩)
def LLSS : ByteArray := ⟨#[76, 76, 83, 83]⟩
theorem llss_unev : unev LLSS 2 := ⟨0, 2, by decide, by decide, by decide +kernel⟩
theorem llss_row : rowOk LLSS 1000 = true := by decide +kernel
set_option maxRecDepth 100000 in
set_option maxHeartbeats 4000000 in
theorem balanced_walk {w : World} {a : Option Addr} {len cap : Nat} (hr : Row w w.heap.size a len) :
    Calls Try.prog 3 #[.slice a len cap] w fun e w' => e = .returned (.bool true) ∧ Below w.heap.size w w' := by
  have CL : ∀ w, Calls Try.prog 9 #[.string LLSS] w fun e w' => e = .returned (.bool false) ∧ Below w.heap.size w w' := fun w => by
    refine (implBal_yes LLSS w llss_row).mono ?_
    rintro e w' ⟨⟨b, hb, rfl⟩, bb⟩
    cases b
    · exact ⟨rfl, bb⟩
    · exact absurd llss_unev (hb.1 rfl 2 (by decide))
  unfold LLSS at CL
  go_enter Try.func3, Try.ntmps3
  go_wp2_with fail
  refine (big_any a len cap w hr.1).mono ?_
  rintro e w' ⟨rfl, rfl⟩
  by_cases hb : 1048576 < len
  · simp only [decide_eq_true hb]
    go_wp2
    go_ret
    exact ⟨rfl, Below.refl _ _⟩
  simp only [decide_eq_false hb]
  go_wp2_with fail
  refine (drawCut_any hr).mono ?_
  rintro e w1 ⟨f, n, rfl, B⟩
  clear hr
  by_cases hc : 0 ≤ f ∧ f ≤ 100000000 ∧ 0 ≤ n ∧ n ≤ 200
  rotate_left
  · have hcs : f < 0 ∨ (¬ f < 0 ∧ 100000000 < f) ∨ (¬ f < 0 ∧ ¬ 100000000 < f ∧ n < 0) ∨ (¬ f < 0 ∧ ¬ 100000000 < f ∧ ¬ n < 0 ∧ 200 < n) := by omega
    clear hc
    rcases hcs with h | ⟨h, h2⟩ | ⟨h, h2, h3⟩ | ⟨h, h2, h3, h4⟩ <;> (go_wp2; go_ret; exact ⟨rfl, B⟩)
  obtain ⟨f0, f1, n0, n1⟩ := hc
  obtain ⟨m, rfl⟩ := Int.eq_ofNat_of_zero_le n0
  have hm : m ≤ 200 := by omega
  go_wp2_with fail
  refine (implCut_yes f m _ f0 f1 (by omega)).mono ?_
  rintro e w2 ⟨rfl, b2⟩
  have B2 := B.trans (b2.mono B.size)
  have hrow := cut_row f (m := m) (by omega)
  have hsz : (tx (cutR f m)).size = m := by rw [tx_size, cutR_len]
  have hbal : ∀ n, ¬ unev (tx (cutR f m)) n := cut_balanced f0 f1 (by omega)
  obtain ⟨r, hrr⟩ : ∃ r, len % 20 = r := ⟨_, rfl⟩
  have hr20 : r < 20 := by omega
  have htm : Int.tmod (len : Int) 20 = (r : Int) := by
    rw [Int.tmod_eq_emod_of_nonneg (by omega)]
    omega
  have CF := fun w => implFactors_yes (w := w) (tx (cutR f m)) (1 + r) hrow ⟨by omega, by omega⟩
  have hfl : ∀ D, FacD (tx (cutR f m)) (1 + r) D → D.length ≤ 1 + r + 1 ∧ (0 < D.length ↔ 1 + r ≤ m) := fun D hD => fac_len f0 f1 hm hD
  rw [show (⟨(cutR f m).toArray⟩ : ByteArray) = tx (cutR f m) from rfl]
  generalize tx (cutR f m) = s at CF hfl hrow hsz hbal ⊢
  simp only [Int.natCast_add, Int.natCast_one] at CF
  clear b2 B
  go_wp2_with fail
  refine (CF _).mono ?_
  rintro e w3 ⟨⟨D, g, c, hD, rfl, -, -, -, -⟩, b3⟩
  obtain ⟨hl1, hl2⟩ := hfl D hD
  have B3 := B2.trans (b3.mono B2.size)
  have hszi : (s.size : Int) = (m : Int) := by omega
  obtain ⟨d, hd⟩ : ∃ d, D.length = d := ⟨_, rfl⟩
  rw [hd] at hl1 hl2 ⊢
  have hle : (d : Int) ≤ 1 + (r : Int) + 1 := by omega
  have CB : ∀ w, Calls Try.prog 9 #[.string s] w fun e w' => e = .returned (.bool true) ∧ Below w.heap.size w w' := fun w => by
    refine (implBal_yes s w hrow).mono ?_
    rintro e w' ⟨⟨b, hb, rfl⟩, bb⟩
    rw [hb.2 (fun n _ => hbal n)]
    exact ⟨rfl, bb⟩
  clear b3 B2 CF hfl hbal hrow hD hd
  by_cases hk : 1 + r ≤ m
  · have hd0 : (0 : Int) < (d : Int) := by have := hl2.2 hk; omega
    have hk' : 1 + (r : Int) ≤ (m : Int) := by omega
    clear hl2
    go_wp2_with fail
    refine (CB _).mono ?_
    rintro e w4 ⟨rfl, b4⟩
    have B4 := B3.trans (b4.mono B3.size)
    go_wp2_with fail
    refine (CL _).mono ?_
    rintro e w5 ⟨rfl, b5⟩
    have B5 := B4.trans (b5.mono B4.size)
    clear b4 b5
    go_wp2
    go_ret
    exact ⟨rfl, B5⟩
  · have hd0 : ¬ (0 : Int) < (d : Int) := fun h => hk (hl2.1 (by omega))
    have hk' : ¬ 1 + (r : Int) ≤ (m : Int) := by omega
    clear hl2
    go_wp2_with fail
    refine (CB _).mono ?_
    rintro e w4 ⟨rfl, b4⟩
    have B4 := B3.trans (b4.mono B3.size)
    go_wp2_with fail
    refine (CL _).mono ?_
    rintro e w5 ⟨rfl, b5⟩
    have B5 := B4.trans (b5.mono B4.size)
    clear b4 b5
    go_wp2
    go_ret
    exact ⟨rfl, B5⟩
end Go.Proofs.Ytnkmiljnilmicaa
