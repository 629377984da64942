/-
  DERIVED. GIVEN WITH THE SEED: THE CARDS: each row of YtgppjbhaimmlpaaGreatDoorRows.lean that lists a variable, with what it lists TIED to the program's text (the seventh form; the later family's looks); each row that meets fmt, with fmt's text TOLD by the authors' own Lean function (tested against real Go, not proved from fmt's source: count such statements apart). THE CARD IS WHAT COUNTS. Prove the row's statement (the work); the ties are given (YtgppjbhaimmlpaaGreatDoorTie.lean); close each card by the builder's one call (the guide's Derived/Test/ToyasCard.lean, 'card_holds'). Laid BY PROGRAM, IN A SANDBOX (cutbox-door.mjs). By AI agents, Wed Nov 11 2026. No macro, syntax, notation, axiom, sorry.
-/
import Derived.Test.YtgppjbhaimmlpaaGreatDoorRows
import GoSem.ClaimSeven
namespace Go.Proofs.YtgppjbhaimmlpaaGreatDoor
namespace Rows

/-- THE TIED CARD OF 'idshifttop.TopOwned'. -/
def topOwnedCard : Claim7 := { stood := { row := topOwnedRow, standIns := [], harness := (true, "7d27740c8e89653e98ccb89dadaa411b587b632192e100cb0d4b691e6a9c726d"), looks := false }, kinds := [], alts := [], laidByText := true, laidKinds := [.data, .pinned], laidTests := true, laidLooks := .later }
def TopOwnedCardSaid : Prop := Claim7.holds Tryz.pinned (.plain (OpenSpec.ofChange topOwnedSpec)) topOwnedCard

/-- THE SECOND FORM's CARD OF 'idshifttop.TopOwned'. -/
def topOwnedUptoCard : Claim7 := { stood := { row := topOwnedUptoRow, standIns := [], harness := (true, "7d27740c8e89653e98ccb89dadaa411b587b632192e100cb0d4b691e6a9c726d"), looks := false }, kinds := [], alts := [], laidByText := true, laidKinds := [.data, .pinned], laidTests := true, laidLooks := .later }
def TopOwnedUptoCardSaid : Prop := Claim7.holds Tryz.pinned (.plain (OpenSpec.upto topOwnedSpec)) topOwnedUptoCard
end Rows
end Go.Proofs.YtgppjbhaimmlpaaGreatDoor
