/-
  The law FnExactDeflate: walked.
-/
import Derived.Test.YtninblhahjldcaaTc
namespace Go.Proofs.Ytninblhahjldcaa
open Go.RowKit

set_option maxHeartbeats 1000000 in
theorem exactDeflate_walk (s : ByteArray) (w : World) : Calls Try.prog 7 #[.string s] w fun e w' => e = .returned (.bool true) ∧ Below w.heap.size w w' := by
  by_cases h0 : (1048576 : Int) < s.size
  · go_enter Try.func7, Try.ntmps7
    go_wp2
    go_ret
    exact ⟨rfl, Below.refl _ _⟩
  · by_cases h : rowOk s 20000 = true
    · go_enter Try.func7, Try.ntmps7
      go_wp2_with (go_at_call 25; refine (specDeflate_yes _ _ h).mono ?_; rintro e w2 ⟨r, hr, rfl, b2⟩)
      go_wp2_with (go_at_call 13; refine (implDeflate_yes _ _ h).mono ?_; rintro e w3 ⟨r', hr', rfl, b3⟩; obtain rfl := hr.det hr'; have hne := bne_self_eq_false (⟨(r.getD []).toArray⟩ : ByteArray).toList; have hne2 := bne_self_eq_false r.isSome)
      go_ret
      exact ⟨rfl, b2.trans (b3.mono b2.size)⟩
    · have h : rowOk s 20000 = false := by simpa using h
      go_enter Try.func7, Try.ntmps7
      go_wp2_with (go_at_call 25; refine (specDeflate_no _ _ h).mono ?_; rintro e w2 ⟨rfl, b2⟩)
      go_wp2_with (go_at_call 13; refine (implDeflate_no _ _ h).mono ?_; rintro e w3 ⟨rfl, b3⟩)
      go_ret
      exact ⟨rfl, b2.trans (b3.mono b2.size)⟩
end Go.Proofs.Ytninblhahjldcaa
