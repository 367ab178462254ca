/-
  DERIVED. GIVEN WITH THE SEED: THE CARDS: each row of YtmpakpdbkojkaaaDoorRows.lean that lists a variable, with what it lists TIED to the program's text (the seventh form; the later family's looks); each row that meets fmt, with fmt's text TOLD by the authors' own Lean function (tested against real Go, not proved from fmt's source: count such statements apart). THE CARD IS WHAT COUNTS. Prove the row's statement (the work); the ties are given (YtmpakpdbkojkaaaDoorTie.lean); close each card by the builder's one call (the guide's Derived/Test/ToyasCard.lean, 'card_holds'). Laid BY PROGRAM, IN A SANDBOX (cutbox-door.mjs). By AI agents, Wed Nov 11 2026. No macro, syntax, notation, axiom, sorry.
-/
import Derived.Test.YtmpakpdbkojkaaaDoorRows
import GoSem.ClaimSeven
namespace Go.Proofs.YtmpakpdbkojkaaaDoor
namespace Rows

/-- THE TIED CARD OF 'laws.FnExactCycMul'. -/
def fnExactCycMulCard : Claim7 := { stood := { row := fnExactCycMulRow, standIns := [], harness := (true, "9cc1f05ca67a88b9fc948d4ea97e6e3d3f0486013bb24c82d08bfc9698ff77da"), looks := false }, kinds := [], alts := [], laidByText := true, laidKinds := [.data], laidTests := true, laidLooks := .later }
def FnExactCycMulCardSaid : Prop := Claim7.holds Tryd.pinned (.plain (OpenSpec.ofChange fnExactCycMulSpec)) fnExactCycMulCard

/-- THE TIED CARD OF 'laws.FnExactPower'. -/
def fnExactPowerCard : Claim7 := { stood := { row := fnExactPowerRow, standIns := [], harness := (true, "9cc1f05ca67a88b9fc948d4ea97e6e3d3f0486013bb24c82d08bfc9698ff77da"), looks := false }, kinds := [], alts := [], laidByText := true, laidKinds := [.data], laidTests := true, laidLooks := .later }
def FnExactPowerCardSaid : Prop := Claim7.holds Tryd.pinned (.plain (OpenSpec.ofChange fnExactPowerSpec)) fnExactPowerCard

/-- THE SECOND FORM's CARD OF 'laws.FnExactCycMul'. -/
def fnExactCycMulUptoCard : Claim7 := { stood := { row := fnExactCycMulUptoRow, standIns := [], harness := (true, "9cc1f05ca67a88b9fc948d4ea97e6e3d3f0486013bb24c82d08bfc9698ff77da"), looks := false }, kinds := [], alts := [], laidByText := true, laidKinds := [.data], laidTests := true, laidLooks := .later }
def FnExactCycMulUptoCardSaid : Prop := Claim7.holds Tryd.pinned (.plain (OpenSpec.upto fnExactCycMulSpec)) fnExactCycMulUptoCard

/-- THE SECOND FORM's CARD OF 'laws.FnExactPower'. -/
def fnExactPowerUptoCard : Claim7 := { stood := { row := fnExactPowerUptoRow, standIns := [], harness := (true, "9cc1f05ca67a88b9fc948d4ea97e6e3d3f0486013bb24c82d08bfc9698ff77da"), looks := false }, kinds := [], alts := [], laidByText := true, laidKinds := [.data], laidTests := true, laidLooks := .later }
def FnExactPowerUptoCardSaid : Prop := Claim7.holds Tryd.pinned (.plain (OpenSpec.upto fnExactPowerSpec)) fnExactPowerUptoCard
end Rows
end Go.Proofs.YtmpakpdbkojkaaaDoor
