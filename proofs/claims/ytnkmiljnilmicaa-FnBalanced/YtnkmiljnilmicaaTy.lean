/-
  The draws of rows: walked.
-/
import Derived.Test.YtnkmiljnilmicaaTe
import Derived.Test.YtnkmiljnilmicaaTw
import Derived.Test.YtnkmiljnilmicaaDx
import Derived.Laws.Concat
import Derived.Deep.CutRange
namespace Go.Proofs.Ytnkmiljnilmicaa
open Go.RowKit

theorem At.kept9 {t : TypeId} {w w' : World} {q p : Nat} {vs : Array Value} (h : At t w q vs) (k : Kept p w w') (hq : q ≠ p) : At t w' q vs := (k.block q h.lt hq).trans h
theorem gr_len (t : Nat) : ∀ (L M : List UInt8), L.length ≤ 20000 → gr t L = some M → M.length ≤ 20000 := by
  induction t with
  | zero => intro L M h e; rw [gr] at e; cases e; exact h
  | succ t ih =>
    intro L M h e
    rw [gr] at e
    by_cases hb : (infl L).length ≤ 20000
    · rw [if_pos hb] at e; exact ih _ _ hb e
    · rw [if_neg hb] at e; cases e
end Go.Proofs.Ytnkmiljnilmicaa
