/-
  DERIVED. GIVEN WITH THE SEED: THE CARDS: each row of YtcfdnbdemiokeaaDoorRows.lean that lists a variable, with what it lists TIED to the program's text (the seventh form; the later family's looks); each row that meets fmt, with fmt's text TOLD by the authors' own Lean function (tested against real Go, not proved from fmt's source: count such statements apart). THE CARD IS WHAT COUNTS. Prove the row's statement (the work); the ties are given (YtcfdnbdemiokeaaDoorTie.lean); close each card by the builder's one call (the guide's Derived/Test/ToyasCard.lean, 'card_holds'). Laid BY PROGRAM, IN A SANDBOX (cutbox-door.mjs). By AI agents, Wed Nov 11 2026. No macro, syntax, notation, axiom, sorry.
-/
import Derived.Test.YtcfdnbdemiokeaaDoorRows
import GoSem.ClaimSeven
namespace Go.Proofs.YtcfdnbdemiokeaaDoor
namespace Rows

/-- THE TIED CARD OF 'angeluslaw17.ReachDist'. -/
def reachDistCard : Claim7 := { stood := { row := reachDistRow, standIns := [], harness := (true, "1b70cf4e3d80b316222c95d301fafbe5d64dbfebde23256505ad14f33a84d0a4"), looks := false }, kinds := [], alts := [], laidByText := true, laidKinds := [.data], laidTests := true, laidLooks := .later }
def ReachDistCardSaid : Prop := Claim7.holds Tryd.pinned (.plain (OpenSpec.ofChange reachDistSpec)) reachDistCard

/-- THE TIED CARD OF 'angeluslaw17.ReachWide'. -/
def reachWideCard : Claim7 := { stood := { row := reachWideRow, standIns := [], harness := (true, "1b70cf4e3d80b316222c95d301fafbe5d64dbfebde23256505ad14f33a84d0a4"), looks := false }, kinds := [], alts := [], laidByText := true, laidKinds := [.data], laidTests := true, laidLooks := .later }
def ReachWideCardSaid : Prop := Claim7.holds Tryd.pinned (.plain (OpenSpec.ofChange reachWideSpec)) reachWideCard

/-- THE TIED CARD OF 'angeluslaw17.ReachBalls'. -/
def reachBallsCard : Claim7 := { stood := { row := reachBallsRow, standIns := [], harness := (true, "1b70cf4e3d80b316222c95d301fafbe5d64dbfebde23256505ad14f33a84d0a4"), looks := false }, kinds := [], alts := [], laidByText := true, laidKinds := [.data], laidTests := true, laidLooks := .later }
def ReachBallsCardSaid : Prop := Claim7.holds Tryd.pinned (.plain (OpenSpec.ofChange reachBallsSpec)) reachBallsCard

/-- THE TIED CARD OF 'angeluslaw17.ReachBoth'. -/
def reachBothCard : Claim7 := { stood := { row := reachBothRow, standIns := [], harness := (true, "1b70cf4e3d80b316222c95d301fafbe5d64dbfebde23256505ad14f33a84d0a4"), looks := false }, kinds := [], alts := [], laidByText := true, laidKinds := [.data], laidTests := true, laidLooks := .later }
def ReachBothCardSaid : Prop := Claim7.holds Tryd.pinned (.plain (OpenSpec.ofChange reachBothSpec)) reachBothCard

/-- THE TIED CARD OF 'angeluslaw17.ReachNil'. -/
def reachNilCard : Claim7 := { stood := { row := reachNilRow, standIns := [], harness := (true, "1b70cf4e3d80b316222c95d301fafbe5d64dbfebde23256505ad14f33a84d0a4"), looks := false }, kinds := [], alts := [], laidByText := true, laidKinds := [.data], laidTests := true, laidLooks := .later }
def ReachNilCardSaid : Prop := Claim7.holds Tryd.pinned (.plain (OpenSpec.ofChange reachNilSpec)) reachNilCard

/-- THE SECOND FORM's CARD OF 'angeluslaw17.ReachDist'. -/
def reachDistUptoCard : Claim7 := { stood := { row := reachDistUptoRow, standIns := [], harness := (true, "1b70cf4e3d80b316222c95d301fafbe5d64dbfebde23256505ad14f33a84d0a4"), looks := false }, kinds := [], alts := [], laidByText := true, laidKinds := [.data], laidTests := true, laidLooks := .later }
def ReachDistUptoCardSaid : Prop := Claim7.holds Tryd.pinned (.plain (OpenSpec.upto reachDistSpec)) reachDistUptoCard

/-- THE SECOND FORM's CARD OF 'angeluslaw17.ReachWide'. -/
def reachWideUptoCard : Claim7 := { stood := { row := reachWideUptoRow, standIns := [], harness := (true, "1b70cf4e3d80b316222c95d301fafbe5d64dbfebde23256505ad14f33a84d0a4"), looks := false }, kinds := [], alts := [], laidByText := true, laidKinds := [.data], laidTests := true, laidLooks := .later }
def ReachWideUptoCardSaid : Prop := Claim7.holds Tryd.pinned (.plain (OpenSpec.upto reachWideSpec)) reachWideUptoCard

/-- THE SECOND FORM's CARD OF 'angeluslaw17.ReachBalls'. -/
def reachBallsUptoCard : Claim7 := { stood := { row := reachBallsUptoRow, standIns := [], harness := (true, "1b70cf4e3d80b316222c95d301fafbe5d64dbfebde23256505ad14f33a84d0a4"), looks := false }, kinds := [], alts := [], laidByText := true, laidKinds := [.data], laidTests := true, laidLooks := .later }
def ReachBallsUptoCardSaid : Prop := Claim7.holds Tryd.pinned (.plain (OpenSpec.upto reachBallsSpec)) reachBallsUptoCard

/-- THE SECOND FORM's CARD OF 'angeluslaw17.ReachBoth'. -/
def reachBothUptoCard : Claim7 := { stood := { row := reachBothUptoRow, standIns := [], harness := (true, "1b70cf4e3d80b316222c95d301fafbe5d64dbfebde23256505ad14f33a84d0a4"), looks := false }, kinds := [], alts := [], laidByText := true, laidKinds := [.data], laidTests := true, laidLooks := .later }
def ReachBothUptoCardSaid : Prop := Claim7.holds Tryd.pinned (.plain (OpenSpec.upto reachBothSpec)) reachBothUptoCard

/-- THE SECOND FORM's CARD OF 'angeluslaw17.ReachNil'. -/
def reachNilUptoCard : Claim7 := { stood := { row := reachNilUptoRow, standIns := [], harness := (true, "1b70cf4e3d80b316222c95d301fafbe5d64dbfebde23256505ad14f33a84d0a4"), looks := false }, kinds := [], alts := [], laidByText := true, laidKinds := [.data], laidTests := true, laidLooks := .later }
def ReachNilUptoCardSaid : Prop := Claim7.holds Tryd.pinned (.plain (OpenSpec.upto reachNilSpec)) reachNilUptoCard
end Rows
end Go.Proofs.YtcfdnbdemiokeaaDoor
