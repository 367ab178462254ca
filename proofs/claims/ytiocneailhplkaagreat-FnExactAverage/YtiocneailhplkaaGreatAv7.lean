/-
  The law of Average, of what came in. No walk.
-/
import Derived.Test.YtiocneailhplkaaGreatAv6
import Derived.Test.YtiocneailhplkaaGreatMA
namespace Go.Proofs.YtiocneailhplkaaGreat
open Go.RowKit

theorem average_of {w : World} {a a' : Option Addr} {len cap n cap' : Nat} {zs : List Int} {A : Nat → OpD} {N : Int} (hN : (Lit.int .i64 N).wf = true) (h1 : IsRow .i64 w a len cap zs) (hS : OpsS w a' n A) (hn : n ≤ maxLen) :
    Calls Tryz.prog 4 #[mV N (.slice a len cap), .slice a' n cap'] w fun e w' => e = .returned (.bool true) ∧ Below w.heap.size w w' := by
  obtain ⟨f, hs, hl, -⟩ := src_of h1
  exact exactAverage_walk N (wf64 hN) hs hl hS hn
end Go.Proofs.YtiocneailhplkaaGreat
