/-
  No cell of these rows narrows 'for every input' (looked for: loops, veiled, ifaces, maps, wideKeys, modest, calm, conditions, laid).
  DERIVED. THE GIVEN ROWS OF THIS SEAT. 5 by the template 'for every input the law returns true; each argument reads behind the call as it read before'; 0 by the template 'total and deterministic' (their statements: YtglnclcoinpakaaTotals.lean).
  GIVEN WITH THE SEED: the statements are not yours to turn. If you find one false, say at which input.
  Laid BY PROGRAM, IN A SANDBOX (cutbox-rows.mjs): the forced cells as the released guide's own fill.sh prints them over the translation a098758c7e8d7107… (all of the seat's roots in one cut). By AI agents, Wed Nov 11 2026. No macro, syntax, notation, axiom, sorry.
-/
import Derived.Test.YtglnclcoinpakaaChecked
import GoSem.Claim
import GoSem.ClaimJoined
import GoSem.ClaimMapViews
import Derived.JoinedTies
import Derived.KernelRfl
namespace Go.Proofs.Ytglnclcoinpakaa
/- THE CELL 'sum', in the pinned program and in every row, IS THE sha256 OF THE DUMP (.gsa) THAT YtglnclcoinpakaaProg.lean LOADS. Nothing in Lean hashes anything: it is a label: what it is worth is what the hold of that sum in a sandbox is worth. -/
noncomputable def Try.pinned : Pinned := { name := "ytglnclcoinpakaa", sum := "a098758c7e8d7107640c224ec43acde9632dc3476865ec96afdc1ab1de8b319a", checked := Try.checked }
namespace Rows
def none {H : Type} : Left H := { results := [], args := [] }

/-- 'angeluslaw05.BufWrites': WHATEVER THE INPUT: true; the input reads as it did. -/
def bufWritesSpec : ChangeSpec := { name := "bufWrites", fn := fun _ => fun
  | [d1, d2] => { results := [.lit (.bool true)], args := [d1, d2] }
  | _ => none }
def bufWritesRow : OpenClaim := { program := "ytglnclcoinpakaa", sum := "a098758c7e8d7107640c224ec43acde9632dc3476865ec96afdc1ab1de8b319a", func := "angelus/angeluslaw05.BufWrites", spec := "bufWrites", recurses := true, apart := false }
def BufWritesSaid : Prop := bufWritesRow.holds Try.pinned (OpenSpec.ofChange bufWritesSpec)

/-- ITS FALSE NEIGHBOUR: 'it returns false'. Refute it at one input. -/
def bufWritesWrong : ChangeSpec := { name := "bufWrites", fn := fun _ => fun
  | [d1, d2] => { results := [.lit (.bool false)], args := [d1, d2] }
  | _ => none }
def BufWritesWrongFalsely : Prop := bufWritesRow.holds Try.pinned (OpenSpec.ofChange bufWritesWrong)

/-- 'angeluslaw05.BufReads': WHATEVER THE INPUT: true; the input reads as it did. -/
def bufReadsSpec : ChangeSpec := { name := "bufReads", fn := fun _ => fun
  | [d1, d2] => { results := [.lit (.bool true)], args := [d1, d2] }
  | _ => none }
def bufReadsRow : OpenClaim := { program := "ytglnclcoinpakaa", sum := "a098758c7e8d7107640c224ec43acde9632dc3476865ec96afdc1ab1de8b319a", func := "angelus/angeluslaw05.BufReads", spec := "bufReads", apart := false }
def BufReadsSaid : Prop := bufReadsRow.holds Try.pinned (OpenSpec.ofChange bufReadsSpec)

/-- ITS FALSE NEIGHBOUR: 'it returns false'. Refute it at one input. -/
def bufReadsWrong : ChangeSpec := { name := "bufReads", fn := fun _ => fun
  | [d1, d2] => { results := [.lit (.bool false)], args := [d1, d2] }
  | _ => none }
def BufReadsWrongFalsely : Prop := bufReadsRow.holds Try.pinned (OpenSpec.ofChange bufReadsWrong)

/-- 'angeluslaw05.BufBack': WHATEVER THE INPUT: true; the input reads as it did. -/
def bufBackSpec : ChangeSpec := { name := "bufBack", fn := fun _ => fun
  | [d] => { results := [.lit (.bool true)], args := [d] }
  | _ => none }
def bufBackRow : OpenClaim := { program := "ytglnclcoinpakaa", sum := "a098758c7e8d7107640c224ec43acde9632dc3476865ec96afdc1ab1de8b319a", func := "angelus/angeluslaw05.BufBack", spec := "bufBack", apart := false }
def BufBackSaid : Prop := bufBackRow.holds Try.pinned (OpenSpec.ofChange bufBackSpec)

/-- ITS FALSE NEIGHBOUR: 'it returns false'. Refute it at one input. -/
def bufBackWrong : ChangeSpec := { name := "bufBack", fn := fun _ => fun
  | [d] => { results := [.lit (.bool false)], args := [d] }
  | _ => none }
def BufBackWrongFalsely : Prop := bufBackRow.holds Try.pinned (OpenSpec.ofChange bufBackWrong)

/-- 'angeluslaw05.BufOnce': WHATEVER THE INPUT: true; the input reads as it did. -/
def bufOnceSpec : ChangeSpec := { name := "bufOnce", fn := fun _ => fun
  | [d] => { results := [.lit (.bool true)], args := [d] }
  | _ => none }
def bufOnceRow : OpenClaim := { program := "ytglnclcoinpakaa", sum := "a098758c7e8d7107640c224ec43acde9632dc3476865ec96afdc1ab1de8b319a", func := "angelus/angeluslaw05.BufOnce", spec := "bufOnce", apart := false }
def BufOnceSaid : Prop := bufOnceRow.holds Try.pinned (OpenSpec.ofChange bufOnceSpec)

/-- ITS FALSE NEIGHBOUR: 'it returns false'. Refute it at one input. -/
def bufOnceWrong : ChangeSpec := { name := "bufOnce", fn := fun _ => fun
  | [d] => { results := [.lit (.bool false)], args := [d] }
  | _ => none }
def BufOnceWrongFalsely : Prop := bufOnceRow.holds Try.pinned (OpenSpec.ofChange bufOnceWrong)

/-- 'angeluslaw05.BufNil': WHATEVER THE INPUT: true; the input reads as it did. -/
def bufNilSpec : ChangeSpec := { name := "bufNil", fn := fun _ => fun
  | [d1, d2] => { results := [.lit (.bool true)], args := [d1, d2] }
  | _ => none }
def bufNilRow : OpenClaim := { program := "ytglnclcoinpakaa", sum := "a098758c7e8d7107640c224ec43acde9632dc3476865ec96afdc1ab1de8b319a", func := "angelus/angeluslaw05.BufNil", spec := "bufNil", apart := false }
def BufNilSaid : Prop := bufNilRow.holds Try.pinned (OpenSpec.ofChange bufNilSpec)

/-- ITS FALSE NEIGHBOUR: 'it returns false'. Refute it at one input. -/
def bufNilWrong : ChangeSpec := { name := "bufNil", fn := fun _ => fun
  | [d1, d2] => { results := [.lit (.bool false)], args := [d1, d2] }
  | _ => none }
def BufNilWrongFalsely : Prop := bufNilRow.holds Try.pinned (OpenSpec.ofChange bufNilWrong)

/- THE SECOND FORM. 'bulk': how many values and letters a reading holds, each counted each time it is reached (what is shared counts as often as it is met; a slice's spare places count too). A statement '..UptoSaid' is the law's where the arguments, and the package variables that the reading takes, are together of bulk at most 1048576: NARROWER than '..Said'. Prove '..Said' where nothing that the law and all that it calls make is longer than what came in: it says more and counts as full. Else prove '..UptoSaid'. A law counts once. -/
mutual
def uptoBulk {H : Type} : DataW H → Nat
  | .lit (.string bytes) => bytes.length + 1
  | .lit _ => 1
  | .nil => 1
  | .ptr d => uptoBulk d + 1
  | .slice elems spare => uptoBulkAll elems + uptoBulkAll spare + 1
  | .agg parts => uptoBulkAll parts + 1
  | .iface _ d => uptoBulk d + 1
  | .map entries => uptoBulkEntries entries + 1
  | .held _ => 1
def uptoBulkAll {H : Type} : List (DataW H) → Nat
  | [] => 0
  | d :: r => uptoBulk d + uptoBulkAll r
def uptoBulkEntries {H : Type} : List (Lit × DataW H) → Nat
  | [] => 0
  | x :: r => uptoBulkEntry x + uptoBulkEntries r
def uptoBulkEntry {H : Type} : Lit × DataW H → Nat
  | (.string bytes, d) => bytes.length + uptoBulk d + 1
  | (_, d) => uptoBulk d + 1
 end
def uptoSmall : (H : Type) → List (DataW H) → Bool := fun _ ds => decide (uptoBulkAll ds ≤ 1048576)
def OpenSpec.upto (s : _root_.Go.ChangeSpec) : _root_.Go.OpenSpec := { _root_.Go.OpenSpec.ofChange s with cond := some uptoSmall }

/-- 'angeluslaw05.BufWrites', WHERE WHAT IT READS IS OF BULK AT MOST 1048576: true; the input reads as it did. -/
def bufWritesUptoRow : OpenClaim := { program := "ytglnclcoinpakaa", sum := "a098758c7e8d7107640c224ec43acde9632dc3476865ec96afdc1ab1de8b319a", func := "angelus/angeluslaw05.BufWrites", spec := "bufWrites", recurses := true, apart := false, narrowed := true }
def BufWritesUptoSaid : Prop := bufWritesUptoRow.holds Try.pinned (OpenSpec.upto bufWritesSpec)

/-- 'angeluslaw05.BufReads', WHERE WHAT IT READS IS OF BULK AT MOST 1048576: true; the input reads as it did. -/
def bufReadsUptoRow : OpenClaim := { program := "ytglnclcoinpakaa", sum := "a098758c7e8d7107640c224ec43acde9632dc3476865ec96afdc1ab1de8b319a", func := "angelus/angeluslaw05.BufReads", spec := "bufReads", apart := false, narrowed := true }
def BufReadsUptoSaid : Prop := bufReadsUptoRow.holds Try.pinned (OpenSpec.upto bufReadsSpec)

/-- 'angeluslaw05.BufBack', WHERE WHAT IT READS IS OF BULK AT MOST 1048576: true; the input reads as it did. -/
def bufBackUptoRow : OpenClaim := { program := "ytglnclcoinpakaa", sum := "a098758c7e8d7107640c224ec43acde9632dc3476865ec96afdc1ab1de8b319a", func := "angelus/angeluslaw05.BufBack", spec := "bufBack", apart := false, narrowed := true }
def BufBackUptoSaid : Prop := bufBackUptoRow.holds Try.pinned (OpenSpec.upto bufBackSpec)

/-- 'angeluslaw05.BufOnce', WHERE WHAT IT READS IS OF BULK AT MOST 1048576: true; the input reads as it did. -/
def bufOnceUptoRow : OpenClaim := { program := "ytglnclcoinpakaa", sum := "a098758c7e8d7107640c224ec43acde9632dc3476865ec96afdc1ab1de8b319a", func := "angelus/angeluslaw05.BufOnce", spec := "bufOnce", apart := false, narrowed := true }
def BufOnceUptoSaid : Prop := bufOnceUptoRow.holds Try.pinned (OpenSpec.upto bufOnceSpec)

/-- 'angeluslaw05.BufNil', WHERE WHAT IT READS IS OF BULK AT MOST 1048576: true; the input reads as it did. -/
def bufNilUptoRow : OpenClaim := { program := "ytglnclcoinpakaa", sum := "a098758c7e8d7107640c224ec43acde9632dc3476865ec96afdc1ab1de8b319a", func := "angelus/angeluslaw05.BufNil", spec := "bufNil", apart := false, narrowed := true }
def BufNilUptoSaid : Prop := bufNilUptoRow.holds Try.pinned (OpenSpec.upto bufNilSpec)

end Rows
end Go.Proofs.Ytglnclcoinpakaa
