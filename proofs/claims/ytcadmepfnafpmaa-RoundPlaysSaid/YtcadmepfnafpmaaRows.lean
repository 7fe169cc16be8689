/-
  No cell of these rows narrows 'for every input' (looked for: loops, veiled, ifaces, maps, wideKeys, modest, calm, conditions, laid).
  DERIVED. THE GIVEN ROWS OF THIS SEAT. 5 by the template 'for every input the law returns true; each argument reads behind the call as it read before'; 0 by the template 'total and deterministic' (their statements: YtcadmepfnafpmaaTotals.lean).
  GIVEN WITH THE SEED: the statements are not yours to turn. If you find one false, say at which input.
  Laid BY PROGRAM, IN A SANDBOX (cutbox-rows.mjs): the forced cells as the released guide's own fill.sh prints them over the translation 7fc0c652959dc1ce… (all of the seat's roots in one cut). By AI agents, Wed Nov 11 2026. No macro, syntax, notation, axiom, sorry.
-/
import Derived.Test.YtcadmepfnafpmaaChecked
import GoSem.Claim
import GoSem.ClaimJoined
import GoSem.ClaimMapViews
import Derived.JoinedTies
import Derived.KernelRfl
namespace Go.Proofs.Ytcadmepfnafpmaa
/- THE CELL 'sum', in the pinned program and in every row, IS THE sha256 OF THE DUMP (.gsa) THAT YtcadmepfnafpmaaProg.lean LOADS. Nothing in Lean hashes anything: it is a label: what it is worth is what the hold of that sum in a sandbox is worth. -/
noncomputable def Try.pinned : Pinned := { name := "ytcadmepfnafpmaa", sum := "7fc0c652959dc1ceec424a0ab96e0c610c7ef6ec8b8f06465507f1900c23faa4", checked := Try.checked }
namespace Rows
def none {H : Type} : Left H := { results := [], args := [] }

/-- 'angeluslaw25.RoundPlays': WHATEVER THE INPUT: true; the input reads as it did. -/
def roundPlaysSpec : ChangeSpec := { name := "roundPlays", fn := fun _ => fun
  | [d1, d2, d3] => { results := [.lit (.bool true)], args := [d1, d2, d3] }
  | _ => none }
def roundPlaysRow : OpenClaim := { program := "ytcadmepfnafpmaa", sum := "7fc0c652959dc1ceec424a0ab96e0c610c7ef6ec8b8f06465507f1900c23faa4", func := "angelus/angeluslaw25.RoundPlays", spec := "roundPlays", recurses := true, apart := false }
def RoundPlaysSaid : Prop := roundPlaysRow.holds Try.pinned (OpenSpec.ofChange roundPlaysSpec)

/-- ITS FALSE NEIGHBOUR: 'it returns false'. Refute it at one input. -/
def roundPlaysWrong : ChangeSpec := { name := "roundPlays", fn := fun _ => fun
  | [d1, d2, d3] => { results := [.lit (.bool false)], args := [d1, d2, d3] }
  | _ => none }
def RoundPlaysWrongFalsely : Prop := roundPlaysRow.holds Try.pinned (OpenSpec.ofChange roundPlaysWrong)

/-- 'angeluslaw25.RoundOrder': WHATEVER THE INPUT: true; the input reads as it did. -/
def roundOrderSpec : ChangeSpec := { name := "roundOrder", fn := fun _ => fun
  | [d1, d2, d3] => { results := [.lit (.bool true)], args := [d1, d2, d3] }
  | _ => none }
def roundOrderRow : OpenClaim := { program := "ytcadmepfnafpmaa", sum := "7fc0c652959dc1ceec424a0ab96e0c610c7ef6ec8b8f06465507f1900c23faa4", func := "angelus/angeluslaw25.RoundOrder", spec := "roundOrder", recurses := true, apart := false }
def RoundOrderSaid : Prop := roundOrderRow.holds Try.pinned (OpenSpec.ofChange roundOrderSpec)

/-- ITS FALSE NEIGHBOUR: 'it returns false'. Refute it at one input. -/
def roundOrderWrong : ChangeSpec := { name := "roundOrder", fn := fun _ => fun
  | [d1, d2, d3] => { results := [.lit (.bool false)], args := [d1, d2, d3] }
  | _ => none }
def RoundOrderWrongFalsely : Prop := roundOrderRow.holds Try.pinned (OpenSpec.ofChange roundOrderWrong)

/-- 'angeluslaw25.RoundWhen': WHATEVER THE INPUT: true; the input reads as it did. -/
def roundWhenSpec : ChangeSpec := { name := "roundWhen", fn := fun _ => fun
  | [d1, d2, d3] => { results := [.lit (.bool true)], args := [d1, d2, d3] }
  | _ => none }
def roundWhenRow : OpenClaim := { program := "ytcadmepfnafpmaa", sum := "7fc0c652959dc1ceec424a0ab96e0c610c7ef6ec8b8f06465507f1900c23faa4", func := "angelus/angeluslaw25.RoundWhen", spec := "roundWhen", recurses := true, apart := false }
def RoundWhenSaid : Prop := roundWhenRow.holds Try.pinned (OpenSpec.ofChange roundWhenSpec)

/-- ITS FALSE NEIGHBOUR: 'it returns false'. Refute it at one input. -/
def roundWhenWrong : ChangeSpec := { name := "roundWhen", fn := fun _ => fun
  | [d1, d2, d3] => { results := [.lit (.bool false)], args := [d1, d2, d3] }
  | _ => none }
def RoundWhenWrongFalsely : Prop := roundWhenRow.holds Try.pinned (OpenSpec.ofChange roundWhenWrong)

/-- 'angeluslaw25.RoundFirst': WHATEVER THE INPUT: true; the input reads as it did. -/
def roundFirstSpec : ChangeSpec := { name := "roundFirst", fn := fun _ => fun
  | [d1, d2] => { results := [.lit (.bool true)], args := [d1, d2] }
  | _ => none }
def roundFirstRow : OpenClaim := { program := "ytcadmepfnafpmaa", sum := "7fc0c652959dc1ceec424a0ab96e0c610c7ef6ec8b8f06465507f1900c23faa4", func := "angelus/angeluslaw25.RoundFirst", spec := "roundFirst", recurses := true, apart := false }
def RoundFirstSaid : Prop := roundFirstRow.holds Try.pinned (OpenSpec.ofChange roundFirstSpec)

/-- ITS FALSE NEIGHBOUR: 'it returns false'. Refute it at one input. -/
def roundFirstWrong : ChangeSpec := { name := "roundFirst", fn := fun _ => fun
  | [d1, d2] => { results := [.lit (.bool false)], args := [d1, d2] }
  | _ => none }
def RoundFirstWrongFalsely : Prop := roundFirstRow.holds Try.pinned (OpenSpec.ofChange roundFirstWrong)

/-- 'angeluslaw25.RoundNil': WHATEVER THE INPUT: true; the input reads as it did. -/
def roundNilSpec : ChangeSpec := { name := "roundNil", fn := fun _ => fun
  | [d1, d2] => { results := [.lit (.bool true)], args := [d1, d2] }
  | _ => none }
def roundNilRow : OpenClaim := { program := "ytcadmepfnafpmaa", sum := "7fc0c652959dc1ceec424a0ab96e0c610c7ef6ec8b8f06465507f1900c23faa4", func := "angelus/angeluslaw25.RoundNil", spec := "roundNil", recurses := true, apart := false }
def RoundNilSaid : Prop := roundNilRow.holds Try.pinned (OpenSpec.ofChange roundNilSpec)

/-- ITS FALSE NEIGHBOUR: 'it returns false'. Refute it at one input. -/
def roundNilWrong : ChangeSpec := { name := "roundNil", fn := fun _ => fun
  | [d1, d2] => { results := [.lit (.bool false)], args := [d1, d2] }
  | _ => none }
def RoundNilWrongFalsely : Prop := roundNilRow.holds Try.pinned (OpenSpec.ofChange roundNilWrong)

/- THE SECOND FORM. 'bulk': how many values and letters a reading holds, each counted each time it is reached (what is shared counts as often as it is met; a slice's spare places count too). A statement '..UptoSaid' is the law's where the arguments, and the package variables that the reading takes, are together of bulk at most 1048576: NARROWER than '..Said'. Prove '..Said' where nothing that the law and all that it calls make is longer than what came in: it says more and counts as full. Else prove '..UptoSaid'. A law counts once. -/
mutual
def uptoBulk {H : Type} : DataW H → Nat
  | .lit (.string bytes) => bytes.length + 1
  | .lit _ => 1
  | .nil => 1
  | .ptr d => uptoBulk d + 1
  | .slice elems spare => uptoBulkAll elems + uptoBulkAll spare + 1
  | .agg parts => uptoBulkAll parts + 1
  | .iface _ d => uptoBulk d + 1
  | .map entries => uptoBulkEntries entries + 1
  | .held _ => 1
def uptoBulkAll {H : Type} : List (DataW H) → Nat
  | [] => 0
  | d :: r => uptoBulk d + uptoBulkAll r
def uptoBulkEntries {H : Type} : List (Lit × DataW H) → Nat
  | [] => 0
  | x :: r => uptoBulkEntry x + uptoBulkEntries r
def uptoBulkEntry {H : Type} : Lit × DataW H → Nat
  | (.string bytes, d) => bytes.length + uptoBulk d + 1
  | (_, d) => uptoBulk d + 1
 end
def uptoSmall : (H : Type) → List (DataW H) → Bool := fun _ ds => decide (uptoBulkAll ds ≤ 1048576)
def OpenSpec.upto (s : _root_.Go.ChangeSpec) : _root_.Go.OpenSpec := { _root_.Go.OpenSpec.ofChange s with cond := some uptoSmall }

/-- 'angeluslaw25.RoundPlays', WHERE WHAT IT READS IS OF BULK AT MOST 1048576: true; the input reads as it did. -/
def roundPlaysUptoRow : OpenClaim := { program := "ytcadmepfnafpmaa", sum := "7fc0c652959dc1ceec424a0ab96e0c610c7ef6ec8b8f06465507f1900c23faa4", func := "angelus/angeluslaw25.RoundPlays", spec := "roundPlays", recurses := true, apart := false, narrowed := true }
def RoundPlaysUptoSaid : Prop := roundPlaysUptoRow.holds Try.pinned (OpenSpec.upto roundPlaysSpec)

/-- 'angeluslaw25.RoundOrder', WHERE WHAT IT READS IS OF BULK AT MOST 1048576: true; the input reads as it did. -/
def roundOrderUptoRow : OpenClaim := { program := "ytcadmepfnafpmaa", sum := "7fc0c652959dc1ceec424a0ab96e0c610c7ef6ec8b8f06465507f1900c23faa4", func := "angelus/angeluslaw25.RoundOrder", spec := "roundOrder", recurses := true, apart := false, narrowed := true }
def RoundOrderUptoSaid : Prop := roundOrderUptoRow.holds Try.pinned (OpenSpec.upto roundOrderSpec)

/-- 'angeluslaw25.RoundWhen', WHERE WHAT IT READS IS OF BULK AT MOST 1048576: true; the input reads as it did. -/
def roundWhenUptoRow : OpenClaim := { program := "ytcadmepfnafpmaa", sum := "7fc0c652959dc1ceec424a0ab96e0c610c7ef6ec8b8f06465507f1900c23faa4", func := "angelus/angeluslaw25.RoundWhen", spec := "roundWhen", recurses := true, apart := false, narrowed := true }
def RoundWhenUptoSaid : Prop := roundWhenUptoRow.holds Try.pinned (OpenSpec.upto roundWhenSpec)

/-- 'angeluslaw25.RoundFirst', WHERE WHAT IT READS IS OF BULK AT MOST 1048576: true; the input reads as it did. -/
def roundFirstUptoRow : OpenClaim := { program := "ytcadmepfnafpmaa", sum := "7fc0c652959dc1ceec424a0ab96e0c610c7ef6ec8b8f06465507f1900c23faa4", func := "angelus/angeluslaw25.RoundFirst", spec := "roundFirst", recurses := true, apart := false, narrowed := true }
def RoundFirstUptoSaid : Prop := roundFirstUptoRow.holds Try.pinned (OpenSpec.upto roundFirstSpec)

/-- 'angeluslaw25.RoundNil', WHERE WHAT IT READS IS OF BULK AT MOST 1048576: true; the input reads as it did. -/
def roundNilUptoRow : OpenClaim := { program := "ytcadmepfnafpmaa", sum := "7fc0c652959dc1ceec424a0ab96e0c610c7ef6ec8b8f06465507f1900c23faa4", func := "angelus/angeluslaw25.RoundNil", spec := "roundNil", recurses := true, apart := false, narrowed := true }
def RoundNilUptoSaid : Prop := roundNilUptoRow.holds Try.pinned (OpenSpec.upto roundNilSpec)

end Rows
end Go.Proofs.Ytcadmepfnafpmaa
