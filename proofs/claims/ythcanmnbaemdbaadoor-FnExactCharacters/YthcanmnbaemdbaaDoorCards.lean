/-
  DERIVED. GIVEN WITH THE SEED: THE CARDS: each row of YthcanmnbaemdbaaDoorRows.lean that lists a variable, with what it lists TIED to the program's text (the seventh form; the later family's looks); each row that meets fmt, with fmt's text TOLD by the authors' own Lean function (tested against real Go, not proved from fmt's source: count such statements apart). THE CARD IS WHAT COUNTS. Prove the row's statement (the work); the ties are given (YthcanmnbaemdbaaDoorTie.lean); close each card by the builder's one call (the guide's Derived/Test/ToyasCard.lean, 'card_holds'). Laid BY PROGRAM, IN A SANDBOX (cutbox-door.mjs). By AI agents, Wed Nov 11 2026. No macro, syntax, notation, axiom, sorry.
-/
import Derived.Test.YthcanmnbaemdbaaDoorRows
import GoSem.ClaimSeven
namespace Go.Proofs.YthcanmnbaemdbaaDoor
namespace Rows

/-- THE TIED CARD OF 'laws.FnCyc'. -/
def fnCycCard : Claim7 := { stood := { row := fnCycRow, standIns := [], harness := (true, "b4e41a76ab7a5af75cfeba10a5c8b46087326c0e5b25fd33a65ca95d8a77c6ee"), looks := false }, kinds := [], alts := [], laidByText := true, laidKinds := [.data], laidTests := true, laidLooks := .later }
def FnCycCardSaid : Prop := Claim7.holds Tryd.pinned (.plain (OpenSpec.ofChange fnCycSpec)) fnCycCard

/-- THE TIED CARD OF 'laws.FnExactCharacters'. -/
def fnExactCharactersCard : Claim7 := { stood := { row := fnExactCharactersRow, standIns := [], harness := (true, "b4e41a76ab7a5af75cfeba10a5c8b46087326c0e5b25fd33a65ca95d8a77c6ee"), looks := false }, kinds := [], alts := [], laidByText := true, laidKinds := [.data], laidTests := true, laidLooks := .later }
def FnExactCharactersCardSaid : Prop := Claim7.holds Tryd.pinned (.plain (OpenSpec.ofChange fnExactCharactersSpec)) fnExactCharactersCard

/-- THE TIED CARD OF 'laws.FnExactReduced'. -/
def fnExactReducedCard : Claim7 := { stood := { row := fnExactReducedRow, standIns := [], harness := (true, "b4e41a76ab7a5af75cfeba10a5c8b46087326c0e5b25fd33a65ca95d8a77c6ee"), looks := false }, kinds := [], alts := [], laidByText := true, laidKinds := [.data], laidTests := true, laidLooks := .later }
def FnExactReducedCardSaid : Prop := Claim7.holds Tryd.pinned (.plain (OpenSpec.ofChange fnExactReducedSpec)) fnExactReducedCard

/-- THE SECOND FORM's CARD OF 'laws.FnCyc'. -/
def fnCycUptoCard : Claim7 := { stood := { row := fnCycUptoRow, standIns := [], harness := (true, "b4e41a76ab7a5af75cfeba10a5c8b46087326c0e5b25fd33a65ca95d8a77c6ee"), looks := false }, kinds := [], alts := [], laidByText := true, laidKinds := [.data], laidTests := true, laidLooks := .later }
def FnCycUptoCardSaid : Prop := Claim7.holds Tryd.pinned (.plain (OpenSpec.upto fnCycSpec)) fnCycUptoCard

/-- THE SECOND FORM's CARD OF 'laws.FnExactCharacters'. -/
def fnExactCharactersUptoCard : Claim7 := { stood := { row := fnExactCharactersUptoRow, standIns := [], harness := (true, "b4e41a76ab7a5af75cfeba10a5c8b46087326c0e5b25fd33a65ca95d8a77c6ee"), looks := false }, kinds := [], alts := [], laidByText := true, laidKinds := [.data], laidTests := true, laidLooks := .later }
def FnExactCharactersUptoCardSaid : Prop := Claim7.holds Tryd.pinned (.plain (OpenSpec.upto fnExactCharactersSpec)) fnExactCharactersUptoCard

/-- THE SECOND FORM's CARD OF 'laws.FnExactReduced'. -/
def fnExactReducedUptoCard : Claim7 := { stood := { row := fnExactReducedUptoRow, standIns := [], harness := (true, "b4e41a76ab7a5af75cfeba10a5c8b46087326c0e5b25fd33a65ca95d8a77c6ee"), looks := false }, kinds := [], alts := [], laidByText := true, laidKinds := [.data], laidTests := true, laidLooks := .later }
def FnExactReducedUptoCardSaid : Prop := Claim7.holds Tryd.pinned (.plain (OpenSpec.upto fnExactReducedSpec)) fnExactReducedUptoCard
end Rows
end Go.Proofs.YthcanmnbaemdbaaDoor
