/-
  DERIVED. GIVEN WITH THE SEED: THE CARDS: each row of YtanfnhgaooafeaaDoorRows.lean that lists a variable, with what it lists TIED to the program's text (the seventh form; the later family's looks); each row that meets fmt, with fmt's text TOLD by the authors' own Lean function (tested against real Go, not proved from fmt's source: count such statements apart). THE CARD IS WHAT COUNTS. Prove the row's statement (the work); the ties are given (YtanfnhgaooafeaaDoorTie.lean); close each card by the builder's one call (the guide's Derived/Test/ToyasCard.lean, 'card_holds'). Laid BY PROGRAM, IN A SANDBOX (cutbox-door.mjs). By AI agents, Wed Nov 11 2026. No macro, syntax, notation, axiom, sorry.
-/
import Derived.Test.YtanfnhgaooafeaaDoorRows
import GoSem.ClaimSeven
namespace Go.Proofs.YtanfnhgaooafeaaDoor
namespace Rows

/-- THE TIED CARD OF 'angeluslaw14.SealDecodes'. -/
def sealDecodesCard : Claim7 := { stood := { row := sealDecodesRow, standIns := [], harness := (true, "250bfb3ae30e506bb65562a8e983eb62136c2f15d6f18acb9a61ba2093ed69f4"), looks := false }, kinds := [], alts := [], laidByText := true, laidKinds := [.data], laidTests := true, laidLooks := .later }
def SealDecodesCardSaid : Prop := Claim7.holds Tryd.pinned (.plain (OpenSpec.ofChange sealDecodesSpec)) sealDecodesCard

/-- THE TIED CARD OF 'angeluslaw14.SealSums'. -/
def sealSumsCard : Claim7 := { stood := { row := sealSumsRow, standIns := [], harness := (true, "250bfb3ae30e506bb65562a8e983eb62136c2f15d6f18acb9a61ba2093ed69f4"), looks := false }, kinds := [], alts := [], laidByText := true, laidKinds := [.data], laidTests := true, laidLooks := .later }
def SealSumsCardSaid : Prop := Claim7.holds Tryd.pinned (.plain (OpenSpec.ofChange sealSumsSpec)) sealSumsCard

/-- THE TIED CARD OF 'angeluslaw14.SealOnce'. -/
def sealOnceCard : Claim7 := { stood := { row := sealOnceRow, standIns := [], harness := (true, "250bfb3ae30e506bb65562a8e983eb62136c2f15d6f18acb9a61ba2093ed69f4"), looks := false }, kinds := [], alts := [], laidByText := true, laidKinds := [.data], laidTests := true, laidLooks := .later }
def SealOnceCardSaid : Prop := Claim7.holds Tryd.pinned (.plain (OpenSpec.ofChange sealOnceSpec)) sealOnceCard

/-- THE TIED CARD OF 'angeluslaw14.SealBursts'. -/
def sealBurstsCard : Claim7 := { stood := { row := sealBurstsRow, standIns := [], harness := (true, "250bfb3ae30e506bb65562a8e983eb62136c2f15d6f18acb9a61ba2093ed69f4"), looks := false }, kinds := [], alts := [], laidByText := true, laidKinds := [.data], laidTests := true, laidLooks := .later }
def SealBurstsCardSaid : Prop := Claim7.holds Tryd.pinned (.plain (OpenSpec.ofChange sealBurstsSpec)) sealBurstsCard

/-- THE SECOND FORM's CARD OF 'angeluslaw14.SealDecodes'. -/
def sealDecodesUptoCard : Claim7 := { stood := { row := sealDecodesUptoRow, standIns := [], harness := (true, "250bfb3ae30e506bb65562a8e983eb62136c2f15d6f18acb9a61ba2093ed69f4"), looks := false }, kinds := [], alts := [], laidByText := true, laidKinds := [.data], laidTests := true, laidLooks := .later }
def SealDecodesUptoCardSaid : Prop := Claim7.holds Tryd.pinned (.plain (OpenSpec.upto sealDecodesSpec)) sealDecodesUptoCard

/-- THE SECOND FORM's CARD OF 'angeluslaw14.SealSums'. -/
def sealSumsUptoCard : Claim7 := { stood := { row := sealSumsUptoRow, standIns := [], harness := (true, "250bfb3ae30e506bb65562a8e983eb62136c2f15d6f18acb9a61ba2093ed69f4"), looks := false }, kinds := [], alts := [], laidByText := true, laidKinds := [.data], laidTests := true, laidLooks := .later }
def SealSumsUptoCardSaid : Prop := Claim7.holds Tryd.pinned (.plain (OpenSpec.upto sealSumsSpec)) sealSumsUptoCard

/-- THE SECOND FORM's CARD OF 'angeluslaw14.SealOnce'. -/
def sealOnceUptoCard : Claim7 := { stood := { row := sealOnceUptoRow, standIns := [], harness := (true, "250bfb3ae30e506bb65562a8e983eb62136c2f15d6f18acb9a61ba2093ed69f4"), looks := false }, kinds := [], alts := [], laidByText := true, laidKinds := [.data], laidTests := true, laidLooks := .later }
def SealOnceUptoCardSaid : Prop := Claim7.holds Tryd.pinned (.plain (OpenSpec.upto sealOnceSpec)) sealOnceUptoCard

/-- THE SECOND FORM's CARD OF 'angeluslaw14.SealBursts'. -/
def sealBurstsUptoCard : Claim7 := { stood := { row := sealBurstsUptoRow, standIns := [], harness := (true, "250bfb3ae30e506bb65562a8e983eb62136c2f15d6f18acb9a61ba2093ed69f4"), looks := false }, kinds := [], alts := [], laidByText := true, laidKinds := [.data], laidTests := true, laidLooks := .later }
def SealBurstsUptoCardSaid : Prop := Claim7.holds Tryd.pinned (.plain (OpenSpec.upto sealBurstsSpec)) sealBurstsUptoCard
end Rows
end Go.Proofs.YtanfnhgaooafeaaDoor
