/-
  No cell of these rows narrows 'for every input' (looked for: loops, veiled, ifaces, maps, wideKeys, modest, calm, conditions, laid).
  DERIVED. THE GIVEN ROWS OF THIS SEAT. 4 by the template 'for every input the law returns true; each argument reads behind the call as it read before'; 0 by the template 'total and deterministic' (their statements: YtlmdandgjapmjaaTotals.lean).
  GIVEN WITH THE SEED: the statements are not yours to turn. If you find one false, say at which input.
  Laid BY PROGRAM, IN A SANDBOX (cutbox-rows.mjs): the forced cells as the released guide's own fill.sh prints them over the translation 001bc1d1f0191bfd… (all of the seat's roots in one cut). By AI agents, Wed Nov 11 2026. No macro, syntax, notation, axiom, sorry.
-/
import Derived.Test.YtlmdandgjapmjaaChecked
import GoSem.Claim
import GoSem.ClaimJoined
import GoSem.ClaimMapViews
import Derived.JoinedTies
import Derived.KernelRfl
namespace Go.Proofs.Ytlmdandgjapmjaa
/- THE CELL 'sum', in the pinned program and in every row, IS THE sha256 OF THE DUMP (.gsa) THAT YtlmdandgjapmjaaProg.lean LOADS. Nothing in Lean hashes anything: it is a label: what it is worth is what the hold of that sum in a sandbox is worth. -/
noncomputable def Try.pinned : Pinned := { name := "ytlmdandgjapmjaa", sum := "001bc1d1f0191bfd7133f7598768215f05f24d8032b465d073ddaaedb6fa9cfc", checked := Try.checked }
namespace Rows
def none {H : Type} : Left H := { results := [], args := [] }

/-- 'angeluslaw19.HopsPaths': WHATEVER THE INPUT: true; the input reads as it did. -/
def hopsPathsSpec : ChangeSpec := { name := "hopsPaths", fn := fun _ => fun
  | [d1, d2] => { results := [.lit (.bool true)], args := [d1, d2] }
  | _ => none }
def hopsPathsRow : OpenClaim := { program := "ytlmdandgjapmjaa", sum := "001bc1d1f0191bfd7133f7598768215f05f24d8032b465d073ddaaedb6fa9cfc", func := "angelus/angeluslaw19.HopsPaths", spec := "hopsPaths", plainKeys := false, apart := false }
def HopsPathsSaid : Prop := hopsPathsRow.holds Try.pinned (OpenSpec.ofChange hopsPathsSpec)

/-- ITS FALSE NEIGHBOUR: 'it returns false'. Refute it at one input. -/
def hopsPathsWrong : ChangeSpec := { name := "hopsPaths", fn := fun _ => fun
  | [d1, d2] => { results := [.lit (.bool false)], args := [d1, d2] }
  | _ => none }
def HopsPathsWrongFalsely : Prop := hopsPathsRow.holds Try.pinned (OpenSpec.ofChange hopsPathsWrong)

/-- 'angeluslaw19.HopsSpans': WHATEVER THE INPUT: true; the input reads as it did. -/
def hopsSpansSpec : ChangeSpec := { name := "hopsSpans", fn := fun _ => fun
  | [d1, d2, d3] => { results := [.lit (.bool true)], args := [d1, d2, d3] }
  | _ => none }
def hopsSpansRow : OpenClaim := { program := "ytlmdandgjapmjaa", sum := "001bc1d1f0191bfd7133f7598768215f05f24d8032b465d073ddaaedb6fa9cfc", func := "angelus/angeluslaw19.HopsSpans", spec := "hopsSpans", plainKeys := false, apart := false }
def HopsSpansSaid : Prop := hopsSpansRow.holds Try.pinned (OpenSpec.ofChange hopsSpansSpec)

/-- ITS FALSE NEIGHBOUR: 'it returns false'. Refute it at one input. -/
def hopsSpansWrong : ChangeSpec := { name := "hopsSpans", fn := fun _ => fun
  | [d1, d2, d3] => { results := [.lit (.bool false)], args := [d1, d2, d3] }
  | _ => none }
def HopsSpansWrongFalsely : Prop := hopsSpansRow.holds Try.pinned (OpenSpec.ofChange hopsSpansWrong)

/-- 'angeluslaw19.HopsErrs': WHATEVER THE INPUT: true; the input reads as it did. -/
def hopsErrsSpec : ChangeSpec := { name := "hopsErrs", fn := fun _ => fun
  | [d1, d2, d3] => { results := [.lit (.bool true)], args := [d1, d2, d3] }
  | _ => none }
def hopsErrsRow : OpenClaim := { program := "ytlmdandgjapmjaa", sum := "001bc1d1f0191bfd7133f7598768215f05f24d8032b465d073ddaaedb6fa9cfc", func := "angelus/angeluslaw19.HopsErrs", spec := "hopsErrs", plainKeys := false, apart := false }
def HopsErrsSaid : Prop := hopsErrsRow.holds Try.pinned (OpenSpec.ofChange hopsErrsSpec)

/-- ITS FALSE NEIGHBOUR: 'it returns false'. Refute it at one input. -/
def hopsErrsWrong : ChangeSpec := { name := "hopsErrs", fn := fun _ => fun
  | [d1, d2, d3] => { results := [.lit (.bool false)], args := [d1, d2, d3] }
  | _ => none }
def HopsErrsWrongFalsely : Prop := hopsErrsRow.holds Try.pinned (OpenSpec.ofChange hopsErrsWrong)

/-- 'angeluslaw19.HopsTrue': WHATEVER THE INPUT: true; the input reads as it did. -/
def hopsTrueSpec : ChangeSpec := { name := "hopsTrue", fn := fun _ => fun
  | [d] => { results := [.lit (.bool true)], args := [d] }
  | _ => none }
def hopsTrueRow : OpenClaim := { program := "ytlmdandgjapmjaa", sum := "001bc1d1f0191bfd7133f7598768215f05f24d8032b465d073ddaaedb6fa9cfc", func := "angelus/angeluslaw19.HopsTrue", spec := "hopsTrue", plainKeys := false, apart := false }
def HopsTrueSaid : Prop := hopsTrueRow.holds Try.pinned (OpenSpec.ofChange hopsTrueSpec)

/-- ITS FALSE NEIGHBOUR: 'it returns false'. Refute it at one input. -/
def hopsTrueWrong : ChangeSpec := { name := "hopsTrue", fn := fun _ => fun
  | [d] => { results := [.lit (.bool false)], args := [d] }
  | _ => none }
def HopsTrueWrongFalsely : Prop := hopsTrueRow.holds Try.pinned (OpenSpec.ofChange hopsTrueWrong)

/- THE SECOND FORM. 'bulk': how many values and letters a reading holds, each counted each time it is reached (what is shared counts as often as it is met; a slice's spare places count too). A statement '..UptoSaid' is the law's where the arguments, and the package variables that the reading takes, are together of bulk at most 1048576: NARROWER than '..Said'. Prove '..Said' where nothing that the law and all that it calls make is longer than what came in: it says more and counts as full. Else prove '..UptoSaid'. A law counts once. -/
mutual
def uptoBulk {H : Type} : DataW H → Nat
  | .lit (.string bytes) => bytes.length + 1
  | .lit _ => 1
  | .nil => 1
  | .ptr d => uptoBulk d + 1
  | .slice elems spare => uptoBulkAll elems + uptoBulkAll spare + 1
  | .agg parts => uptoBulkAll parts + 1
  | .iface _ d => uptoBulk d + 1
  | .map entries => uptoBulkEntries entries + 1
  | .held _ => 1
def uptoBulkAll {H : Type} : List (DataW H) → Nat
  | [] => 0
  | d :: r => uptoBulk d + uptoBulkAll r
def uptoBulkEntries {H : Type} : List (Lit × DataW H) → Nat
  | [] => 0
  | x :: r => uptoBulkEntry x + uptoBulkEntries r
def uptoBulkEntry {H : Type} : Lit × DataW H → Nat
  | (.string bytes, d) => bytes.length + uptoBulk d + 1
  | (_, d) => uptoBulk d + 1
 end
def uptoSmall : (H : Type) → List (DataW H) → Bool := fun _ ds => decide (uptoBulkAll ds ≤ 1048576)
def OpenSpec.upto (s : _root_.Go.ChangeSpec) : _root_.Go.OpenSpec := { _root_.Go.OpenSpec.ofChange s with cond := some uptoSmall }

/-- 'angeluslaw19.HopsPaths', WHERE WHAT IT READS IS OF BULK AT MOST 1048576: true; the input reads as it did. -/
def hopsPathsUptoRow : OpenClaim := { program := "ytlmdandgjapmjaa", sum := "001bc1d1f0191bfd7133f7598768215f05f24d8032b465d073ddaaedb6fa9cfc", func := "angelus/angeluslaw19.HopsPaths", spec := "hopsPaths", plainKeys := false, apart := false, narrowed := true }
def HopsPathsUptoSaid : Prop := hopsPathsUptoRow.holds Try.pinned (OpenSpec.upto hopsPathsSpec)

/-- 'angeluslaw19.HopsSpans', WHERE WHAT IT READS IS OF BULK AT MOST 1048576: true; the input reads as it did. -/
def hopsSpansUptoRow : OpenClaim := { program := "ytlmdandgjapmjaa", sum := "001bc1d1f0191bfd7133f7598768215f05f24d8032b465d073ddaaedb6fa9cfc", func := "angelus/angeluslaw19.HopsSpans", spec := "hopsSpans", plainKeys := false, apart := false, narrowed := true }
def HopsSpansUptoSaid : Prop := hopsSpansUptoRow.holds Try.pinned (OpenSpec.upto hopsSpansSpec)

/-- 'angeluslaw19.HopsErrs', WHERE WHAT IT READS IS OF BULK AT MOST 1048576: true; the input reads as it did. -/
def hopsErrsUptoRow : OpenClaim := { program := "ytlmdandgjapmjaa", sum := "001bc1d1f0191bfd7133f7598768215f05f24d8032b465d073ddaaedb6fa9cfc", func := "angelus/angeluslaw19.HopsErrs", spec := "hopsErrs", plainKeys := false, apart := false, narrowed := true }
def HopsErrsUptoSaid : Prop := hopsErrsUptoRow.holds Try.pinned (OpenSpec.upto hopsErrsSpec)

/-- 'angeluslaw19.HopsTrue', WHERE WHAT IT READS IS OF BULK AT MOST 1048576: true; the input reads as it did. -/
def hopsTrueUptoRow : OpenClaim := { program := "ytlmdandgjapmjaa", sum := "001bc1d1f0191bfd7133f7598768215f05f24d8032b465d073ddaaedb6fa9cfc", func := "angelus/angeluslaw19.HopsTrue", spec := "hopsTrue", plainKeys := false, apart := false, narrowed := true }
def HopsTrueUptoSaid : Prop := hopsTrueUptoRow.holds Try.pinned (OpenSpec.upto hopsTrueSpec)

end Rows
end Go.Proofs.Ytlmdandgjapmjaa
