/-
  DERIVED. GIVEN WITH THE SEED: THE CARDS: each row of YtbninbeccgdemaaDoorRows.lean that lists a variable, with what it lists TIED to the program's text (the seventh form; the later family's looks); each row that meets fmt, with fmt's text TOLD by the authors' own Lean function (tested against real Go, not proved from fmt's source: count such statements apart). THE CARD IS WHAT COUNTS. Prove the row's statement (the work); the ties are given (YtbninbeccgdemaaDoorTie.lean); close each card by the builder's one call (the guide's Derived/Test/ToyasCard.lean, 'card_holds'). Laid BY PROGRAM, IN A SANDBOX (cutbox-door.mjs). By AI agents, Wed Nov 11 2026. No macro, syntax, notation, axiom, sorry.
-/
import Derived.Test.YtbninbeccgdemaaDoorRows
import GoSem.ClaimSeven
namespace Go.Proofs.YtbninbeccgdemaaDoor
namespace Rows

/-- THE TIED CARD OF 'laws.FnCharacters'. -/
def fnCharactersCard : Claim7 := { stood := { row := fnCharactersRow, standIns := [], harness := (true, "b51744fe0bcc4a0564cf9e3698fd4d1a1925db3049b9d45094e5aa647d53c016"), looks := false }, kinds := [], alts := [], laidByText := true, laidKinds := [.data], laidTests := true, laidLooks := .later }
def FnCharactersCardSaid : Prop := Claim7.holds Tryd.pinned (.plain (OpenSpec.ofChange fnCharactersSpec)) fnCharactersCard

/-- THE TIED CARD OF 'laws.FnFriedel'. -/
def fnFriedelCard : Claim7 := { stood := { row := fnFriedelRow, standIns := [], harness := (true, "b51744fe0bcc4a0564cf9e3698fd4d1a1925db3049b9d45094e5aa647d53c016"), looks := false }, kinds := [], alts := [], laidByText := true, laidKinds := [.data], laidTests := true, laidLooks := .later }
def FnFriedelCardSaid : Prop := Claim7.holds Tryd.pinned (.plain (OpenSpec.ofChange fnFriedelSpec)) fnFriedelCard

/-- THE SECOND FORM's CARD OF 'laws.FnCharacters'. -/
def fnCharactersUptoCard : Claim7 := { stood := { row := fnCharactersUptoRow, standIns := [], harness := (true, "b51744fe0bcc4a0564cf9e3698fd4d1a1925db3049b9d45094e5aa647d53c016"), looks := false }, kinds := [], alts := [], laidByText := true, laidKinds := [.data], laidTests := true, laidLooks := .later }
def FnCharactersUptoCardSaid : Prop := Claim7.holds Tryd.pinned (.plain (OpenSpec.upto fnCharactersSpec)) fnCharactersUptoCard

/-- THE SECOND FORM's CARD OF 'laws.FnFriedel'. -/
def fnFriedelUptoCard : Claim7 := { stood := { row := fnFriedelUptoRow, standIns := [], harness := (true, "b51744fe0bcc4a0564cf9e3698fd4d1a1925db3049b9d45094e5aa647d53c016"), looks := false }, kinds := [], alts := [], laidByText := true, laidKinds := [.data], laidTests := true, laidLooks := .later }
def FnFriedelUptoCardSaid : Prop := Claim7.holds Tryd.pinned (.plain (OpenSpec.upto fnFriedelSpec)) fnFriedelUptoCard
end Rows
end Go.Proofs.YtbninbeccgdemaaDoor
