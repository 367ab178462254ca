/-
  DERIVED. GIVEN WITH THE SEED: THE CARDS: each row of YtedchpohbhmjhabDoorRows.lean that lists a variable, with what it lists TIED to the program's text (the seventh form; the later family's looks); each row that meets fmt, with fmt's text TOLD by the authors' own Lean function (tested against real Go, not proved from fmt's source: count such statements apart). THE CARD IS WHAT COUNTS. Prove the row's statement (the work); the ties are given (YtedchpohbhmjhabDoorTie.lean); close each card by the builder's one call (the guide's Derived/Test/ToyasCard.lean, 'card_holds'). Laid BY PROGRAM, IN A SANDBOX (cutbox-door.mjs). By AI agents, Wed Nov 11 2026. No macro, syntax, notation, axiom, sorry.
-/
import Derived.Test.YtedchpohbhmjhabDoorRows
import GoSem.ClaimSeven
namespace Go.Proofs.YtedchpohbhmjhabDoor
namespace Rows

/-- THE TIED CARD OF 'laws.FnExactCycMul'. -/
def fnExactCycMulCard : Claim7 := { stood := { row := fnExactCycMulRow, standIns := [], harness := (true, "6fd0692f3ff27594db41fbbddc8ca48be94f6e2e8380e410960a1d362c435003"), looks := false }, kinds := [], alts := [], laidByText := true, laidKinds := [.data], laidTests := true, laidLooks := .later }
def FnExactCycMulCardSaid : Prop := Claim7.holds Tryd.pinned (.plain (OpenSpec.ofChange fnExactCycMulSpec)) fnExactCycMulCard

/-- THE TIED CARD OF 'laws.FnExactCycReal'. -/
def fnExactCycRealCard : Claim7 := { stood := { row := fnExactCycRealRow, standIns := [], harness := (true, "6fd0692f3ff27594db41fbbddc8ca48be94f6e2e8380e410960a1d362c435003"), looks := false }, kinds := [], alts := [], laidByText := true, laidKinds := [.data], laidTests := true, laidLooks := .later }
def FnExactCycRealCardSaid : Prop := Claim7.holds Tryd.pinned (.plain (OpenSpec.ofChange fnExactCycRealSpec)) fnExactCycRealCard

/-- THE TIED CARD OF 'laws.FnExactCharacters'. -/
def fnExactCharactersCard : Claim7 := { stood := { row := fnExactCharactersRow, standIns := [], harness := (true, "6fd0692f3ff27594db41fbbddc8ca48be94f6e2e8380e410960a1d362c435003"), looks := false }, kinds := [], alts := [], laidByText := true, laidKinds := [.data], laidTests := true, laidLooks := .later }
def FnExactCharactersCardSaid : Prop := Claim7.holds Tryd.pinned (.plain (OpenSpec.ofChange fnExactCharactersSpec)) fnExactCharactersCard

/-- THE TIED CARD OF 'laws.FnExactReduced'. -/
def fnExactReducedCard : Claim7 := { stood := { row := fnExactReducedRow, standIns := [], harness := (true, "6fd0692f3ff27594db41fbbddc8ca48be94f6e2e8380e410960a1d362c435003"), looks := false }, kinds := [], alts := [], laidByText := true, laidKinds := [.data], laidTests := true, laidLooks := .later }
def FnExactReducedCardSaid : Prop := Claim7.holds Tryd.pinned (.plain (OpenSpec.ofChange fnExactReducedSpec)) fnExactReducedCard

/-- THE TIED CARD OF 'laws.FnExactExact'. -/
def fnExactExactCard : Claim7 := { stood := { row := fnExactExactRow, standIns := [], harness := (true, "6fd0692f3ff27594db41fbbddc8ca48be94f6e2e8380e410960a1d362c435003"), looks := false }, kinds := [], alts := [], laidByText := true, laidKinds := [.data], laidTests := true, laidLooks := .later }
def FnExactExactCardSaid : Prop := Claim7.holds Tryd.pinned (.plain (OpenSpec.ofChange fnExactExactSpec)) fnExactExactCard

/-- THE SECOND FORM's CARD OF 'laws.FnExactCycMul'. -/
def fnExactCycMulUptoCard : Claim7 := { stood := { row := fnExactCycMulUptoRow, standIns := [], harness := (true, "6fd0692f3ff27594db41fbbddc8ca48be94f6e2e8380e410960a1d362c435003"), looks := false }, kinds := [], alts := [], laidByText := true, laidKinds := [.data], laidTests := true, laidLooks := .later }
def FnExactCycMulUptoCardSaid : Prop := Claim7.holds Tryd.pinned (.plain (OpenSpec.upto fnExactCycMulSpec)) fnExactCycMulUptoCard

/-- THE SECOND FORM's CARD OF 'laws.FnExactCycReal'. -/
def fnExactCycRealUptoCard : Claim7 := { stood := { row := fnExactCycRealUptoRow, standIns := [], harness := (true, "6fd0692f3ff27594db41fbbddc8ca48be94f6e2e8380e410960a1d362c435003"), looks := false }, kinds := [], alts := [], laidByText := true, laidKinds := [.data], laidTests := true, laidLooks := .later }
def FnExactCycRealUptoCardSaid : Prop := Claim7.holds Tryd.pinned (.plain (OpenSpec.upto fnExactCycRealSpec)) fnExactCycRealUptoCard

/-- THE SECOND FORM's CARD OF 'laws.FnExactCharacters'. -/
def fnExactCharactersUptoCard : Claim7 := { stood := { row := fnExactCharactersUptoRow, standIns := [], harness := (true, "6fd0692f3ff27594db41fbbddc8ca48be94f6e2e8380e410960a1d362c435003"), looks := false }, kinds := [], alts := [], laidByText := true, laidKinds := [.data], laidTests := true, laidLooks := .later }
def FnExactCharactersUptoCardSaid : Prop := Claim7.holds Tryd.pinned (.plain (OpenSpec.upto fnExactCharactersSpec)) fnExactCharactersUptoCard

/-- THE SECOND FORM's CARD OF 'laws.FnExactReduced'. -/
def fnExactReducedUptoCard : Claim7 := { stood := { row := fnExactReducedUptoRow, standIns := [], harness := (true, "6fd0692f3ff27594db41fbbddc8ca48be94f6e2e8380e410960a1d362c435003"), looks := false }, kinds := [], alts := [], laidByText := true, laidKinds := [.data], laidTests := true, laidLooks := .later }
def FnExactReducedUptoCardSaid : Prop := Claim7.holds Tryd.pinned (.plain (OpenSpec.upto fnExactReducedSpec)) fnExactReducedUptoCard

/-- THE SECOND FORM's CARD OF 'laws.FnExactExact'. -/
def fnExactExactUptoCard : Claim7 := { stood := { row := fnExactExactUptoRow, standIns := [], harness := (true, "6fd0692f3ff27594db41fbbddc8ca48be94f6e2e8380e410960a1d362c435003"), looks := false }, kinds := [], alts := [], laidByText := true, laidKinds := [.data], laidTests := true, laidLooks := .later }
def FnExactExactUptoCardSaid : Prop := Claim7.holds Tryd.pinned (.plain (OpenSpec.upto fnExactExactSpec)) fnExactExactUptoCard
end Rows
end Go.Proofs.YtedchpohbhmjhabDoor
