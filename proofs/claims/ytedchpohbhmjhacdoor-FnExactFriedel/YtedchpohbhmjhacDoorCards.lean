/-
  DERIVED. GIVEN WITH THE SEED: THE CARDS: each row of YtedchpohbhmjhacDoorRows.lean that lists a variable, with what it lists TIED to the program's text (the seventh form; the later family's looks); each row that meets fmt, with fmt's text TOLD by the authors' own Lean function (tested against real Go, not proved from fmt's source: count such statements apart). THE CARD IS WHAT COUNTS. Prove the row's statement (the work); the ties are given (YtedchpohbhmjhacDoorTie.lean); close each card by the builder's one call (the guide's Derived/Test/ToyasCard.lean, 'card_holds'). Laid BY PROGRAM, IN A SANDBOX (cutbox-door.mjs). By AI agents, Wed Nov 11 2026. No macro, syntax, notation, axiom, sorry.
-/
import Derived.Test.YtedchpohbhmjhacDoorRows
import GoSem.ClaimSeven
namespace Go.Proofs.YtedchpohbhmjhacDoor
namespace Rows

/-- THE TIED CARD OF 'laws.FnExactFloat'. -/
def fnExactFloatCard : Claim7 := { stood := { row := fnExactFloatRow, standIns := [], harness := (true, "fae8030b4a967b8bfc38fb11c283248aae13f8fa395e9044cf7476475b2768e3"), looks := false }, kinds := [], alts := [], goes := true, laidByText := true, laidKinds := [.data], laidTests := true, laidLooks := .later }
def FnExactFloatCardSaid : Prop := Claim7.holds Tryd.pinned (.plain (OpenSpec.ofChange fnExactFloatSpec)) fnExactFloatCard

/-- THE TIED CARD OF 'laws.FnExactPower'. -/
def fnExactPowerCard : Claim7 := { stood := { row := fnExactPowerRow, standIns := [], harness := (true, "fae8030b4a967b8bfc38fb11c283248aae13f8fa395e9044cf7476475b2768e3"), looks := false }, kinds := [], alts := [], laidByText := true, laidKinds := [.data], laidTests := true, laidLooks := .later }
def FnExactPowerCardSaid : Prop := Claim7.holds Tryd.pinned (.plain (OpenSpec.ofChange fnExactPowerSpec)) fnExactPowerCard

/-- THE TIED CARD OF 'laws.FnExactFriedel'. -/
def fnExactFriedelCard : Claim7 := { stood := { row := fnExactFriedelRow, standIns := [], harness := (true, "fae8030b4a967b8bfc38fb11c283248aae13f8fa395e9044cf7476475b2768e3"), looks := false }, kinds := [], alts := [], laidByText := true, laidKinds := [.data], laidTests := true, laidLooks := .later }
def FnExactFriedelCardSaid : Prop := Claim7.holds Tryd.pinned (.plain (OpenSpec.ofChange fnExactFriedelSpec)) fnExactFriedelCard

/-- THE SECOND FORM's CARD OF 'laws.FnExactFloat'. -/
def fnExactFloatUptoCard : Claim7 := { stood := { row := fnExactFloatUptoRow, standIns := [], harness := (true, "fae8030b4a967b8bfc38fb11c283248aae13f8fa395e9044cf7476475b2768e3"), looks := false }, kinds := [], alts := [], goes := true, laidByText := true, laidKinds := [.data], laidTests := true, laidLooks := .later }
def FnExactFloatUptoCardSaid : Prop := Claim7.holds Tryd.pinned (.plain (OpenSpec.upto fnExactFloatSpec)) fnExactFloatUptoCard

/-- THE SECOND FORM's CARD OF 'laws.FnExactPower'. -/
def fnExactPowerUptoCard : Claim7 := { stood := { row := fnExactPowerUptoRow, standIns := [], harness := (true, "fae8030b4a967b8bfc38fb11c283248aae13f8fa395e9044cf7476475b2768e3"), looks := false }, kinds := [], alts := [], laidByText := true, laidKinds := [.data], laidTests := true, laidLooks := .later }
def FnExactPowerUptoCardSaid : Prop := Claim7.holds Tryd.pinned (.plain (OpenSpec.upto fnExactPowerSpec)) fnExactPowerUptoCard

/-- THE SECOND FORM's CARD OF 'laws.FnExactFriedel'. -/
def fnExactFriedelUptoCard : Claim7 := { stood := { row := fnExactFriedelUptoRow, standIns := [], harness := (true, "fae8030b4a967b8bfc38fb11c283248aae13f8fa395e9044cf7476475b2768e3"), looks := false }, kinds := [], alts := [], laidByText := true, laidKinds := [.data], laidTests := true, laidLooks := .later }
def FnExactFriedelUptoCardSaid : Prop := Claim7.holds Tryd.pinned (.plain (OpenSpec.upto fnExactFriedelSpec)) fnExactFriedelUptoCard
end Rows
end Go.Proofs.YtedchpohbhmjhacDoor
