/-
  No cell of these rows narrows 'for every input' (looked for: loops, veiled, ifaces, maps, wideKeys, modest, calm, conditions, laid).
  DERIVED. THE GIVEN ROWS OF THIS SEAT. 5 by the template 'for every input the law returns true; each argument reads behind the call as it read before'; 0 by the template 'total and deterministic' (their statements: YtjifdbhgoakjpaaTotals.lean).
  GIVEN WITH THE SEED: the statements are not yours to turn. If you find one false, say at which input.
  Laid BY PROGRAM, IN A SANDBOX (cutbox-rows.mjs): the forced cells as the released guide's own fill.sh prints them over the translation ccef5abc5429ea4f… (all of the seat's roots in one cut). By AI agents, Wed Nov 11 2026. No macro, syntax, notation, axiom, sorry.
-/
import Derived.Test.YtjifdbhgoakjpaaChecked
import GoSem.Claim
import GoSem.ClaimJoined
import GoSem.ClaimMapViews
import Derived.JoinedTies
import Derived.KernelRfl
namespace Go.Proofs.Ytjifdbhgoakjpaa
/- THE CELL 'sum', in the pinned program and in every row, IS THE sha256 OF THE DUMP (.gsa) THAT YtjifdbhgoakjpaaProg.lean LOADS. Nothing in Lean hashes anything: it is a label: what it is worth is what the hold of that sum in a sandbox is worth. -/
noncomputable def Try.pinned : Pinned := { name := "ytjifdbhgoakjpaa", sum := "ccef5abc5429ea4f2c8f93ccbbdc565fa1b1b4f3c112dbda1ea1fa86de42fb2e", checked := Try.checked }
namespace Rows
def none {H : Type} : Left H := { results := [], args := [] }

/-- 'angeluslaw10.DataNew': WHATEVER THE INPUT: true; the input reads as it did. -/
def dataNewSpec : ChangeSpec := { name := "dataNew", fn := fun _ => fun
  | [d1, d2] => { results := [.lit (.bool true)], args := [d1, d2] }
  | _ => none }
def dataNewRow : OpenClaim := { program := "ytjifdbhgoakjpaa", sum := "ccef5abc5429ea4f2c8f93ccbbdc565fa1b1b4f3c112dbda1ea1fa86de42fb2e", func := "angelus/angeluslaw10.DataNew", spec := "dataNew", apart := false }
def DataNewSaid : Prop := dataNewRow.holds Try.pinned (OpenSpec.ofChange dataNewSpec)

/-- ITS FALSE NEIGHBOUR: 'it returns false'. Refute it at one input. -/
def dataNewWrong : ChangeSpec := { name := "dataNew", fn := fun _ => fun
  | [d1, d2] => { results := [.lit (.bool false)], args := [d1, d2] }
  | _ => none }
def DataNewWrongFalsely : Prop := dataNewRow.holds Try.pinned (OpenSpec.ofChange dataNewWrong)

/-- 'angeluslaw10.DataGood': WHATEVER THE INPUT: true; the input reads as it did. -/
def dataGoodSpec : ChangeSpec := { name := "dataGood", fn := fun _ => fun
  | [d] => { results := [.lit (.bool true)], args := [d] }
  | _ => none }
def dataGoodRow : OpenClaim := { program := "ytjifdbhgoakjpaa", sum := "ccef5abc5429ea4f2c8f93ccbbdc565fa1b1b4f3c112dbda1ea1fa86de42fb2e", func := "angelus/angeluslaw10.DataGood", spec := "dataGood", apart := false }
def DataGoodSaid : Prop := dataGoodRow.holds Try.pinned (OpenSpec.ofChange dataGoodSpec)

/-- ITS FALSE NEIGHBOUR: 'it returns false'. Refute it at one input. -/
def dataGoodWrong : ChangeSpec := { name := "dataGood", fn := fun _ => fun
  | [d] => { results := [.lit (.bool false)], args := [d] }
  | _ => none }
def DataGoodWrongFalsely : Prop := dataGoodRow.holds Try.pinned (OpenSpec.ofChange dataGoodWrong)

/-- 'angeluslaw10.DataPuts': WHATEVER THE INPUT: true; the input reads as it did. -/
def dataPutsSpec : ChangeSpec := { name := "dataPuts", fn := fun _ => fun
  | [d] => { results := [.lit (.bool true)], args := [d] }
  | _ => none }
def dataPutsRow : OpenClaim := { program := "ytjifdbhgoakjpaa", sum := "ccef5abc5429ea4f2c8f93ccbbdc565fa1b1b4f3c112dbda1ea1fa86de42fb2e", func := "angelus/angeluslaw10.DataPuts", spec := "dataPuts", recurses := true, apart := false }
def DataPutsSaid : Prop := dataPutsRow.holds Try.pinned (OpenSpec.ofChange dataPutsSpec)

/-- ITS FALSE NEIGHBOUR: 'it returns false'. Refute it at one input. -/
def dataPutsWrong : ChangeSpec := { name := "dataPuts", fn := fun _ => fun
  | [d] => { results := [.lit (.bool false)], args := [d] }
  | _ => none }
def DataPutsWrongFalsely : Prop := dataPutsRow.holds Try.pinned (OpenSpec.ofChange dataPutsWrong)

/-- 'angeluslaw10.DataGets': WHATEVER THE INPUT: true; the input reads as it did. -/
def dataGetsSpec : ChangeSpec := { name := "dataGets", fn := fun _ => fun
  | [d1, d2] => { results := [.lit (.bool true)], args := [d1, d2] }
  | _ => none }
def dataGetsRow : OpenClaim := { program := "ytjifdbhgoakjpaa", sum := "ccef5abc5429ea4f2c8f93ccbbdc565fa1b1b4f3c112dbda1ea1fa86de42fb2e", func := "angelus/angeluslaw10.DataGets", spec := "dataGets", apart := false }
def DataGetsSaid : Prop := dataGetsRow.holds Try.pinned (OpenSpec.ofChange dataGetsSpec)

/-- ITS FALSE NEIGHBOUR: 'it returns false'. Refute it at one input. -/
def dataGetsWrong : ChangeSpec := { name := "dataGets", fn := fun _ => fun
  | [d1, d2] => { results := [.lit (.bool false)], args := [d1, d2] }
  | _ => none }
def DataGetsWrongFalsely : Prop := dataGetsRow.holds Try.pinned (OpenSpec.ofChange dataGetsWrong)

/-- 'angeluslaw10.DataEntry': WHATEVER THE INPUT: true; the input reads as it did. -/
def dataEntrySpec : ChangeSpec := { name := "dataEntry", fn := fun _ => fun
  | [d1, d2] => { results := [.lit (.bool true)], args := [d1, d2] }
  | _ => none }
def dataEntryRow : OpenClaim := { program := "ytjifdbhgoakjpaa", sum := "ccef5abc5429ea4f2c8f93ccbbdc565fa1b1b4f3c112dbda1ea1fa86de42fb2e", func := "angelus/angeluslaw10.DataEntry", spec := "dataEntry", apart := false }
def DataEntrySaid : Prop := dataEntryRow.holds Try.pinned (OpenSpec.ofChange dataEntrySpec)

/-- ITS FALSE NEIGHBOUR: 'it returns false'. Refute it at one input. -/
def dataEntryWrong : ChangeSpec := { name := "dataEntry", fn := fun _ => fun
  | [d1, d2] => { results := [.lit (.bool false)], args := [d1, d2] }
  | _ => none }
def DataEntryWrongFalsely : Prop := dataEntryRow.holds Try.pinned (OpenSpec.ofChange dataEntryWrong)

/- THE SECOND FORM. 'bulk': how many values and letters a reading holds, each counted each time it is reached (what is shared counts as often as it is met; a slice's spare places count too). A statement '..UptoSaid' is the law's where the arguments, and the package variables that the reading takes, are together of bulk at most 1048576: NARROWER than '..Said'. Prove '..Said' where nothing that the law and all that it calls make is longer than what came in: it says more and counts as full. Else prove '..UptoSaid'. A law counts once. -/
mutual
def uptoBulk {H : Type} : DataW H → Nat
  | .lit (.string bytes) => bytes.length + 1
  | .lit _ => 1
  | .nil => 1
  | .ptr d => uptoBulk d + 1
  | .slice elems spare => uptoBulkAll elems + uptoBulkAll spare + 1
  | .agg parts => uptoBulkAll parts + 1
  | .iface _ d => uptoBulk d + 1
  | .map entries => uptoBulkEntries entries + 1
  | .held _ => 1
def uptoBulkAll {H : Type} : List (DataW H) → Nat
  | [] => 0
  | d :: r => uptoBulk d + uptoBulkAll r
def uptoBulkEntries {H : Type} : List (Lit × DataW H) → Nat
  | [] => 0
  | x :: r => uptoBulkEntry x + uptoBulkEntries r
def uptoBulkEntry {H : Type} : Lit × DataW H → Nat
  | (.string bytes, d) => bytes.length + uptoBulk d + 1
  | (_, d) => uptoBulk d + 1
 end
def uptoSmall : (H : Type) → List (DataW H) → Bool := fun _ ds => decide (uptoBulkAll ds ≤ 1048576)
def OpenSpec.upto (s : _root_.Go.ChangeSpec) : _root_.Go.OpenSpec := { _root_.Go.OpenSpec.ofChange s with cond := some uptoSmall }

/-- 'angeluslaw10.DataNew', WHERE WHAT IT READS IS OF BULK AT MOST 1048576: true; the input reads as it did. -/
def dataNewUptoRow : OpenClaim := { program := "ytjifdbhgoakjpaa", sum := "ccef5abc5429ea4f2c8f93ccbbdc565fa1b1b4f3c112dbda1ea1fa86de42fb2e", func := "angelus/angeluslaw10.DataNew", spec := "dataNew", apart := false, narrowed := true }
def DataNewUptoSaid : Prop := dataNewUptoRow.holds Try.pinned (OpenSpec.upto dataNewSpec)

/-- 'angeluslaw10.DataGood', WHERE WHAT IT READS IS OF BULK AT MOST 1048576: true; the input reads as it did. -/
def dataGoodUptoRow : OpenClaim := { program := "ytjifdbhgoakjpaa", sum := "ccef5abc5429ea4f2c8f93ccbbdc565fa1b1b4f3c112dbda1ea1fa86de42fb2e", func := "angelus/angeluslaw10.DataGood", spec := "dataGood", apart := false, narrowed := true }
def DataGoodUptoSaid : Prop := dataGoodUptoRow.holds Try.pinned (OpenSpec.upto dataGoodSpec)

/-- 'angeluslaw10.DataPuts', WHERE WHAT IT READS IS OF BULK AT MOST 1048576: true; the input reads as it did. -/
def dataPutsUptoRow : OpenClaim := { program := "ytjifdbhgoakjpaa", sum := "ccef5abc5429ea4f2c8f93ccbbdc565fa1b1b4f3c112dbda1ea1fa86de42fb2e", func := "angelus/angeluslaw10.DataPuts", spec := "dataPuts", recurses := true, apart := false, narrowed := true }
def DataPutsUptoSaid : Prop := dataPutsUptoRow.holds Try.pinned (OpenSpec.upto dataPutsSpec)

/-- 'angeluslaw10.DataGets', WHERE WHAT IT READS IS OF BULK AT MOST 1048576: true; the input reads as it did. -/
def dataGetsUptoRow : OpenClaim := { program := "ytjifdbhgoakjpaa", sum := "ccef5abc5429ea4f2c8f93ccbbdc565fa1b1b4f3c112dbda1ea1fa86de42fb2e", func := "angelus/angeluslaw10.DataGets", spec := "dataGets", apart := false, narrowed := true }
def DataGetsUptoSaid : Prop := dataGetsUptoRow.holds Try.pinned (OpenSpec.upto dataGetsSpec)

/-- 'angeluslaw10.DataEntry', WHERE WHAT IT READS IS OF BULK AT MOST 1048576: true; the input reads as it did. -/
def dataEntryUptoRow : OpenClaim := { program := "ytjifdbhgoakjpaa", sum := "ccef5abc5429ea4f2c8f93ccbbdc565fa1b1b4f3c112dbda1ea1fa86de42fb2e", func := "angelus/angeluslaw10.DataEntry", spec := "dataEntry", apart := false, narrowed := true }
def DataEntryUptoSaid : Prop := dataEntryUptoRow.holds Try.pinned (OpenSpec.upto dataEntrySpec)

end Rows
end Go.Proofs.Ytjifdbhgoakjpaa
