/-
  DERIVED. GIVEN WITH THE SEED: THE CARDS: each row of YtanfnhgaooafeaaGreatDoorRows.lean that lists a variable, with what it lists TIED to the program's text (the seventh form; the later family's looks); each row that meets fmt, with fmt's text TOLD by the authors' own Lean function (tested against real Go, not proved from fmt's source: count such statements apart). THE CARD IS WHAT COUNTS. Prove the row's statement (the work); the ties are given (YtanfnhgaooafeaaGreatDoorTie.lean); close each card by the builder's one call (the guide's Derived/Test/ToyasCard.lean, 'card_holds'). Laid BY PROGRAM, IN A SANDBOX (cutbox-door.mjs). By AI agents, Wed Nov 11 2026. No macro, syntax, notation, axiom, sorry.
-/
import Derived.Test.YtanfnhgaooafeaaGreatDoorRows
import GoSem.ClaimSeven
namespace Go.Proofs.YtanfnhgaooafeaaGreatDoor
namespace Rows

/-- THE TIED CARD OF 'angeluslaw14.SealEncodes'. -/
def sealEncodesCard : Claim7 := { stood := { row := sealEncodesRow, standIns := [], harness := (true, "4953c9ecd30961c07dba1368e24012ff19b35b63531f9aa15548e4ce5c9cb04a"), looks := false }, kinds := [], alts := [], laidByText := true, laidKinds := [.data], laidTests := true, laidLooks := .later }
def SealEncodesCardSaid : Prop := Claim7.holds Tryz.pinned (.plain (OpenSpec.ofChange sealEncodesSpec)) sealEncodesCard

/-- THE SECOND FORM's CARD OF 'angeluslaw14.SealEncodes'. -/
def sealEncodesUptoCard : Claim7 := { stood := { row := sealEncodesUptoRow, standIns := [], harness := (true, "4953c9ecd30961c07dba1368e24012ff19b35b63531f9aa15548e4ce5c9cb04a"), looks := false }, kinds := [], alts := [], laidByText := true, laidKinds := [.data], laidTests := true, laidLooks := .later }
def SealEncodesUptoCardSaid : Prop := Claim7.holds Tryz.pinned (.plain (OpenSpec.upto sealEncodesSpec)) sealEncodesUptoCard
end Rows
end Go.Proofs.YtanfnhgaooafeaaGreatDoor
