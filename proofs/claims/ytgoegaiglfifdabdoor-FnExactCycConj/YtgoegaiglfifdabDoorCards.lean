/-
  DERIVED. GIVEN WITH THE SEED: THE CARDS: each row of YtgoegaiglfifdabDoorRows.lean that lists a variable, with what it lists TIED to the program's text (the seventh form; the later family's looks); each row that meets fmt, with fmt's text TOLD by the authors' own Lean function (tested against real Go, not proved from fmt's source: count such statements apart). THE CARD IS WHAT COUNTS. Prove the row's statement (the work); the ties are given (YtgoegaiglfifdabDoorTie.lean); close each card by the builder's one call (the guide's Derived/Test/ToyasCard.lean, 'card_holds'). Laid BY PROGRAM, IN A SANDBOX (cutbox-door.mjs). By AI agents, Wed Nov 11 2026. No macro, syntax, notation, axiom, sorry.
-/
import Derived.Test.YtgoegaiglfifdabDoorRows
import GoSem.ClaimSeven
namespace Go.Proofs.YtgoegaiglfifdabDoor
namespace Rows

/-- THE TIED CARD OF 'laws.FnExactCycConj'. -/
def fnExactCycConjCard : Claim7 := { stood := { row := fnExactCycConjRow, standIns := [], harness := (true, "227c629a65ab6c39e5b26b31c0567564d94cfbd59e8058cf95c930416996324b"), looks := false }, kinds := [], alts := [], laidByText := true, laidKinds := [.data], laidTests := true, laidLooks := .later }
def FnExactCycConjCardSaid : Prop := Claim7.holds Tryd.pinned (.plain (OpenSpec.ofChange fnExactCycConjSpec)) fnExactCycConjCard

/-- THE TIED CARD OF 'laws.FnExactCycRoot'. -/
def fnExactCycRootCard : Claim7 := { stood := { row := fnExactCycRootRow, standIns := [], harness := (true, "227c629a65ab6c39e5b26b31c0567564d94cfbd59e8058cf95c930416996324b"), looks := false }, kinds := [], alts := [], laidByText := true, laidKinds := [.data], laidTests := true, laidLooks := .later }
def FnExactCycRootCardSaid : Prop := Claim7.holds Tryd.pinned (.plain (OpenSpec.ofChange fnExactCycRootSpec)) fnExactCycRootCard

/-- THE TIED CARD OF 'laws.FnExactCycReal'. -/
def fnExactCycRealCard : Claim7 := { stood := { row := fnExactCycRealRow, standIns := [], harness := (true, "227c629a65ab6c39e5b26b31c0567564d94cfbd59e8058cf95c930416996324b"), looks := false }, kinds := [], alts := [], laidByText := true, laidKinds := [.data], laidTests := true, laidLooks := .later }
def FnExactCycRealCardSaid : Prop := Claim7.holds Tryd.pinned (.plain (OpenSpec.ofChange fnExactCycRealSpec)) fnExactCycRealCard

/-- THE TIED CARD OF 'laws.FnExactCharacters'. -/
def fnExactCharactersCard : Claim7 := { stood := { row := fnExactCharactersRow, standIns := [], harness := (true, "227c629a65ab6c39e5b26b31c0567564d94cfbd59e8058cf95c930416996324b"), looks := false }, kinds := [], alts := [], laidByText := true, laidKinds := [.data], laidTests := true, laidLooks := .later }
def FnExactCharactersCardSaid : Prop := Claim7.holds Tryd.pinned (.plain (OpenSpec.ofChange fnExactCharactersSpec)) fnExactCharactersCard

/-- THE SECOND FORM's CARD OF 'laws.FnExactCycConj'. -/
def fnExactCycConjUptoCard : Claim7 := { stood := { row := fnExactCycConjUptoRow, standIns := [], harness := (true, "227c629a65ab6c39e5b26b31c0567564d94cfbd59e8058cf95c930416996324b"), looks := false }, kinds := [], alts := [], laidByText := true, laidKinds := [.data], laidTests := true, laidLooks := .later }
def FnExactCycConjUptoCardSaid : Prop := Claim7.holds Tryd.pinned (.plain (OpenSpec.upto fnExactCycConjSpec)) fnExactCycConjUptoCard

/-- THE SECOND FORM's CARD OF 'laws.FnExactCycRoot'. -/
def fnExactCycRootUptoCard : Claim7 := { stood := { row := fnExactCycRootUptoRow, standIns := [], harness := (true, "227c629a65ab6c39e5b26b31c0567564d94cfbd59e8058cf95c930416996324b"), looks := false }, kinds := [], alts := [], laidByText := true, laidKinds := [.data], laidTests := true, laidLooks := .later }
def FnExactCycRootUptoCardSaid : Prop := Claim7.holds Tryd.pinned (.plain (OpenSpec.upto fnExactCycRootSpec)) fnExactCycRootUptoCard

/-- THE SECOND FORM's CARD OF 'laws.FnExactCycReal'. -/
def fnExactCycRealUptoCard : Claim7 := { stood := { row := fnExactCycRealUptoRow, standIns := [], harness := (true, "227c629a65ab6c39e5b26b31c0567564d94cfbd59e8058cf95c930416996324b"), looks := false }, kinds := [], alts := [], laidByText := true, laidKinds := [.data], laidTests := true, laidLooks := .later }
def FnExactCycRealUptoCardSaid : Prop := Claim7.holds Tryd.pinned (.plain (OpenSpec.upto fnExactCycRealSpec)) fnExactCycRealUptoCard

/-- THE SECOND FORM's CARD OF 'laws.FnExactCharacters'. -/
def fnExactCharactersUptoCard : Claim7 := { stood := { row := fnExactCharactersUptoRow, standIns := [], harness := (true, "227c629a65ab6c39e5b26b31c0567564d94cfbd59e8058cf95c930416996324b"), looks := false }, kinds := [], alts := [], laidByText := true, laidKinds := [.data], laidTests := true, laidLooks := .later }
def FnExactCharactersUptoCardSaid : Prop := Claim7.holds Tryd.pinned (.plain (OpenSpec.upto fnExactCharactersSpec)) fnExactCharactersUptoCard
end Rows
end Go.Proofs.YtgoegaiglfifdabDoor
