/-
  No cell of these rows narrows 'for every input' (looked for: loops, veiled, ifaces, maps, wideKeys, modest, calm, conditions, laid).
  DERIVED. THE GIVEN ROWS OF THIS SEAT. 4 by the template 'for every input the law returns true; each argument reads behind the call as it read before'; 0 by the template 'total and deterministic' (their statements: YtpenopeecfgjjaaTotals.lean).
  GIVEN WITH THE SEED: the statements are not yours to turn. If you find one false, say at which input.
  Laid BY PROGRAM, IN A SANDBOX (cutbox-rows.mjs): the forced cells as the released guide's own fill.sh prints them over the translation 93c3ef30a85ee036… (all of the seat's roots in one cut). By AI agents, Wed Nov 11 2026. No macro, syntax, notation, axiom, sorry.
-/
import Derived.Test.YtpenopeecfgjjaaChecked
import GoSem.Claim
import GoSem.ClaimJoined
import GoSem.ClaimMapViews
import Derived.JoinedTies
import Derived.KernelRfl
namespace Go.Proofs.Ytpenopeecfgjjaa
/- THE CELL 'sum', in the pinned program and in every row, IS THE sha256 OF THE DUMP (.gsa) THAT YtpenopeecfgjjaaProg.lean LOADS. Nothing in Lean hashes anything: it is a label: what it is worth is what the hold of that sum in a sandbox is worth. -/
noncomputable def Try.pinned : Pinned := { name := "ytpenopeecfgjjaa", sum := "93c3ef30a85ee03612a239ef37cb3dcc17ed0bcb10e949f38f407e21598da9be", checked := Try.checked }
namespace Rows
def none {H : Type} : Left H := { results := [], args := [] }

/-- 'angeluslaw22.ClockPlays': WHATEVER THE INPUT: true; the input reads as it did. -/
def clockPlaysSpec : ChangeSpec := { name := "clockPlays", fn := fun _ => fun
  | [d1, d2] => { results := [.lit (.bool true)], args := [d1, d2] }
  | _ => none }
def clockPlaysRow : OpenClaim := { program := "ytpenopeecfgjjaa", sum := "93c3ef30a85ee03612a239ef37cb3dcc17ed0bcb10e949f38f407e21598da9be", func := "angelus/angeluslaw22.ClockPlays", spec := "clockPlays", apart := false }
def ClockPlaysSaid : Prop := clockPlaysRow.holds Try.pinned (OpenSpec.ofChange clockPlaysSpec)

/-- ITS FALSE NEIGHBOUR: 'it returns false'. Refute it at one input. -/
def clockPlaysWrong : ChangeSpec := { name := "clockPlays", fn := fun _ => fun
  | [d1, d2] => { results := [.lit (.bool false)], args := [d1, d2] }
  | _ => none }
def ClockPlaysWrongFalsely : Prop := clockPlaysRow.holds Try.pinned (OpenSpec.ofChange clockPlaysWrong)

/-- 'angeluslaw22.ClockOn': WHATEVER THE INPUT: true; the input reads as it did. -/
def clockOnSpec : ChangeSpec := { name := "clockOn", fn := fun _ => fun
  | [d1, d2] => { results := [.lit (.bool true)], args := [d1, d2] }
  | _ => none }
def clockOnRow : OpenClaim := { program := "ytpenopeecfgjjaa", sum := "93c3ef30a85ee03612a239ef37cb3dcc17ed0bcb10e949f38f407e21598da9be", func := "angelus/angeluslaw22.ClockOn", spec := "clockOn", apart := false }
def ClockOnSaid : Prop := clockOnRow.holds Try.pinned (OpenSpec.ofChange clockOnSpec)

/-- ITS FALSE NEIGHBOUR: 'it returns false'. Refute it at one input. -/
def clockOnWrong : ChangeSpec := { name := "clockOn", fn := fun _ => fun
  | [d1, d2] => { results := [.lit (.bool false)], args := [d1, d2] }
  | _ => none }
def ClockOnWrongFalsely : Prop := clockOnRow.holds Try.pinned (OpenSpec.ofChange clockOnWrong)

/-- 'angeluslaw22.ClockJumps': WHATEVER THE INPUT: true; the input reads as it did. -/
def clockJumpsSpec : ChangeSpec := { name := "clockJumps", fn := fun _ => fun
  | [d1, d2] => { results := [.lit (.bool true)], args := [d1, d2] }
  | _ => none }
def clockJumpsRow : OpenClaim := { program := "ytpenopeecfgjjaa", sum := "93c3ef30a85ee03612a239ef37cb3dcc17ed0bcb10e949f38f407e21598da9be", func := "angelus/angeluslaw22.ClockJumps", spec := "clockJumps", apart := false }
def ClockJumpsSaid : Prop := clockJumpsRow.holds Try.pinned (OpenSpec.ofChange clockJumpsSpec)

/-- ITS FALSE NEIGHBOUR: 'it returns false'. Refute it at one input. -/
def clockJumpsWrong : ChangeSpec := { name := "clockJumps", fn := fun _ => fun
  | [d1, d2] => { results := [.lit (.bool false)], args := [d1, d2] }
  | _ => none }
def ClockJumpsWrongFalsely : Prop := clockJumpsRow.holds Try.pinned (OpenSpec.ofChange clockJumpsWrong)

/-- 'angeluslaw22.ClockNil': WHATEVER THE INPUT: true; the input reads as it did. -/
def clockNilSpec : ChangeSpec := { name := "clockNil", fn := fun _ => fun
  | [d] => { results := [.lit (.bool true)], args := [d] }
  | _ => none }
def clockNilRow : OpenClaim := { program := "ytpenopeecfgjjaa", sum := "93c3ef30a85ee03612a239ef37cb3dcc17ed0bcb10e949f38f407e21598da9be", func := "angelus/angeluslaw22.ClockNil", spec := "clockNil", apart := false }
def ClockNilSaid : Prop := clockNilRow.holds Try.pinned (OpenSpec.ofChange clockNilSpec)

/-- ITS FALSE NEIGHBOUR: 'it returns false'. Refute it at one input. -/
def clockNilWrong : ChangeSpec := { name := "clockNil", fn := fun _ => fun
  | [d] => { results := [.lit (.bool false)], args := [d] }
  | _ => none }
def ClockNilWrongFalsely : Prop := clockNilRow.holds Try.pinned (OpenSpec.ofChange clockNilWrong)

/- THE SECOND FORM. 'bulk': how many values and letters a reading holds, each counted each time it is reached (what is shared counts as often as it is met; a slice's spare places count too). A statement '..UptoSaid' is the law's where the arguments, and the package variables that the reading takes, are together of bulk at most 1048576: NARROWER than '..Said'. Prove '..Said' where nothing that the law and all that it calls make is longer than what came in: it says more and counts as full. Else prove '..UptoSaid'. A law counts once. -/
mutual
def uptoBulk {H : Type} : DataW H → Nat
  | .lit (.string bytes) => bytes.length + 1
  | .lit _ => 1
  | .nil => 1
  | .ptr d => uptoBulk d + 1
  | .slice elems spare => uptoBulkAll elems + uptoBulkAll spare + 1
  | .agg parts => uptoBulkAll parts + 1
  | .iface _ d => uptoBulk d + 1
  | .map entries => uptoBulkEntries entries + 1
  | .held _ => 1
def uptoBulkAll {H : Type} : List (DataW H) → Nat
  | [] => 0
  | d :: r => uptoBulk d + uptoBulkAll r
def uptoBulkEntries {H : Type} : List (Lit × DataW H) → Nat
  | [] => 0
  | x :: r => uptoBulkEntry x + uptoBulkEntries r
def uptoBulkEntry {H : Type} : Lit × DataW H → Nat
  | (.string bytes, d) => bytes.length + uptoBulk d + 1
  | (_, d) => uptoBulk d + 1
 end
def uptoSmall : (H : Type) → List (DataW H) → Bool := fun _ ds => decide (uptoBulkAll ds ≤ 1048576)
def OpenSpec.upto (s : _root_.Go.ChangeSpec) : _root_.Go.OpenSpec := { _root_.Go.OpenSpec.ofChange s with cond := some uptoSmall }

/-- 'angeluslaw22.ClockPlays', WHERE WHAT IT READS IS OF BULK AT MOST 1048576: true; the input reads as it did. -/
def clockPlaysUptoRow : OpenClaim := { program := "ytpenopeecfgjjaa", sum := "93c3ef30a85ee03612a239ef37cb3dcc17ed0bcb10e949f38f407e21598da9be", func := "angelus/angeluslaw22.ClockPlays", spec := "clockPlays", apart := false, narrowed := true }
def ClockPlaysUptoSaid : Prop := clockPlaysUptoRow.holds Try.pinned (OpenSpec.upto clockPlaysSpec)

/-- 'angeluslaw22.ClockOn', WHERE WHAT IT READS IS OF BULK AT MOST 1048576: true; the input reads as it did. -/
def clockOnUptoRow : OpenClaim := { program := "ytpenopeecfgjjaa", sum := "93c3ef30a85ee03612a239ef37cb3dcc17ed0bcb10e949f38f407e21598da9be", func := "angelus/angeluslaw22.ClockOn", spec := "clockOn", apart := false, narrowed := true }
def ClockOnUptoSaid : Prop := clockOnUptoRow.holds Try.pinned (OpenSpec.upto clockOnSpec)

/-- 'angeluslaw22.ClockJumps', WHERE WHAT IT READS IS OF BULK AT MOST 1048576: true; the input reads as it did. -/
def clockJumpsUptoRow : OpenClaim := { program := "ytpenopeecfgjjaa", sum := "93c3ef30a85ee03612a239ef37cb3dcc17ed0bcb10e949f38f407e21598da9be", func := "angelus/angeluslaw22.ClockJumps", spec := "clockJumps", apart := false, narrowed := true }
def ClockJumpsUptoSaid : Prop := clockJumpsUptoRow.holds Try.pinned (OpenSpec.upto clockJumpsSpec)

/-- 'angeluslaw22.ClockNil', WHERE WHAT IT READS IS OF BULK AT MOST 1048576: true; the input reads as it did. -/
def clockNilUptoRow : OpenClaim := { program := "ytpenopeecfgjjaa", sum := "93c3ef30a85ee03612a239ef37cb3dcc17ed0bcb10e949f38f407e21598da9be", func := "angelus/angeluslaw22.ClockNil", spec := "clockNil", apart := false, narrowed := true }
def ClockNilUptoSaid : Prop := clockNilUptoRow.holds Try.pinned (OpenSpec.upto clockNilSpec)

end Rows
end Go.Proofs.Ytpenopeecfgjjaa
