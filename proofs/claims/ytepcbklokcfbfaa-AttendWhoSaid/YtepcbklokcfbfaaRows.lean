/-
  No cell of these rows narrows 'for every input' (looked for: loops, veiled, ifaces, maps, wideKeys, modest, calm, conditions, laid).
  DERIVED. THE GIVEN ROWS OF THIS SEAT. 5 by the template 'for every input the law returns true; each argument reads behind the call as it read before'; 0 by the template 'total and deterministic' (their statements: YtepcbklokcfbfaaTotals.lean).
  GIVEN WITH THE SEED: the statements are not yours to turn. If you find one false, say at which input.
  Laid BY PROGRAM, IN A SANDBOX (cutbox-rows.mjs): the forced cells as the released guide's own fill.sh prints them over the translation 099498dbb3917023… (all of the seat's roots in one cut). By AI agents, Wed Nov 11 2026. No macro, syntax, notation, axiom, sorry.
-/
import Derived.Test.YtepcbklokcfbfaaChecked
import GoSem.Claim
import GoSem.ClaimJoined
import GoSem.ClaimMapViews
import Derived.JoinedTies
import Derived.KernelRfl
namespace Go.Proofs.Ytepcbklokcfbfaa
/- THE CELL 'sum', in the pinned program and in every row, IS THE sha256 OF THE DUMP (.gsa) THAT YtepcbklokcfbfaaProg.lean LOADS. Nothing in Lean hashes anything: it is a label: what it is worth is what the hold of that sum in a sandbox is worth. -/
noncomputable def Try.pinned : Pinned := { name := "ytepcbklokcfbfaa", sum := "099498dbb39170230fc416e4fa2110acd563e7fb51aa64eb81f8fb4f53a2b37f", checked := Try.checked }
namespace Rows
def none {H : Type} : Left H := { results := [], args := [] }

/-- 'angeluslaw12.AttendNew': WHATEVER THE INPUT: true; the input reads as it did. -/
def attendNewSpec : ChangeSpec := { name := "attendNew", fn := fun _ => fun
  | [d1, d2, d3] => { results := [.lit (.bool true)], args := [d1, d2, d3] }
  | _ => none }
def attendNewRow : OpenClaim := { program := "ytepcbklokcfbfaa", sum := "099498dbb39170230fc416e4fa2110acd563e7fb51aa64eb81f8fb4f53a2b37f", func := "angelus/angeluslaw12.AttendNew", spec := "attendNew", apart := false }
def AttendNewSaid : Prop := attendNewRow.holds Try.pinned (OpenSpec.ofChange attendNewSpec)

/-- ITS FALSE NEIGHBOUR: 'it returns false'. Refute it at one input. -/
def attendNewWrong : ChangeSpec := { name := "attendNew", fn := fun _ => fun
  | [d1, d2, d3] => { results := [.lit (.bool false)], args := [d1, d2, d3] }
  | _ => none }
def AttendNewWrongFalsely : Prop := attendNewRow.holds Try.pinned (OpenSpec.ofChange attendNewWrong)

/-- 'angeluslaw12.AttendPuts': WHATEVER THE INPUT: true; the input reads as it did. -/
def attendPutsSpec : ChangeSpec := { name := "attendPuts", fn := fun _ => fun
  | [d] => { results := [.lit (.bool true)], args := [d] }
  | _ => none }
def attendPutsRow : OpenClaim := { program := "ytepcbklokcfbfaa", sum := "099498dbb39170230fc416e4fa2110acd563e7fb51aa64eb81f8fb4f53a2b37f", func := "angelus/angeluslaw12.AttendPuts", spec := "attendPuts", recurses := true, apart := false }
def AttendPutsSaid : Prop := attendPutsRow.holds Try.pinned (OpenSpec.ofChange attendPutsSpec)

/-- ITS FALSE NEIGHBOUR: 'it returns false'. Refute it at one input. -/
def attendPutsWrong : ChangeSpec := { name := "attendPuts", fn := fun _ => fun
  | [d] => { results := [.lit (.bool false)], args := [d] }
  | _ => none }
def AttendPutsWrongFalsely : Prop := attendPutsRow.holds Try.pinned (OpenSpec.ofChange attendPutsWrong)

/-- 'angeluslaw12.AttendGets': WHATEVER THE INPUT: true; the input reads as it did. -/
def attendGetsSpec : ChangeSpec := { name := "attendGets", fn := fun _ => fun
  | [d1, d2] => { results := [.lit (.bool true)], args := [d1, d2] }
  | _ => none }
def attendGetsRow : OpenClaim := { program := "ytepcbklokcfbfaa", sum := "099498dbb39170230fc416e4fa2110acd563e7fb51aa64eb81f8fb4f53a2b37f", func := "angelus/angeluslaw12.AttendGets", spec := "attendGets", apart := false }
def AttendGetsSaid : Prop := attendGetsRow.holds Try.pinned (OpenSpec.ofChange attendGetsSpec)

/-- ITS FALSE NEIGHBOUR: 'it returns false'. Refute it at one input. -/
def attendGetsWrong : ChangeSpec := { name := "attendGets", fn := fun _ => fun
  | [d1, d2] => { results := [.lit (.bool false)], args := [d1, d2] }
  | _ => none }
def AttendGetsWrongFalsely : Prop := attendGetsRow.holds Try.pinned (OpenSpec.ofChange attendGetsWrong)

/-- 'angeluslaw12.AttendWho': WHATEVER THE INPUT: true; the input reads as it did. -/
def attendWhoSpec : ChangeSpec := { name := "attendWho", fn := fun _ => fun
  | [d1, d2] => { results := [.lit (.bool true)], args := [d1, d2] }
  | _ => none }
def attendWhoRow : OpenClaim := { program := "ytepcbklokcfbfaa", sum := "099498dbb39170230fc416e4fa2110acd563e7fb51aa64eb81f8fb4f53a2b37f", func := "angelus/angeluslaw12.AttendWho", spec := "attendWho", apart := false }
def AttendWhoSaid : Prop := attendWhoRow.holds Try.pinned (OpenSpec.ofChange attendWhoSpec)

/-- ITS FALSE NEIGHBOUR: 'it returns false'. Refute it at one input. -/
def attendWhoWrong : ChangeSpec := { name := "attendWho", fn := fun _ => fun
  | [d1, d2] => { results := [.lit (.bool false)], args := [d1, d2] }
  | _ => none }
def AttendWhoWrongFalsely : Prop := attendWhoRow.holds Try.pinned (OpenSpec.ofChange attendWhoWrong)

/-- 'angeluslaw12.AttendDue': WHATEVER THE INPUT: true; the input reads as it did. -/
def attendDueSpec : ChangeSpec := { name := "attendDue", fn := fun _ => fun
  | [d1, d2] => { results := [.lit (.bool true)], args := [d1, d2] }
  | _ => none }
def attendDueRow : OpenClaim := { program := "ytepcbklokcfbfaa", sum := "099498dbb39170230fc416e4fa2110acd563e7fb51aa64eb81f8fb4f53a2b37f", func := "angelus/angeluslaw12.AttendDue", spec := "attendDue", apart := false }
def AttendDueSaid : Prop := attendDueRow.holds Try.pinned (OpenSpec.ofChange attendDueSpec)

/-- ITS FALSE NEIGHBOUR: 'it returns false'. Refute it at one input. -/
def attendDueWrong : ChangeSpec := { name := "attendDue", fn := fun _ => fun
  | [d1, d2] => { results := [.lit (.bool false)], args := [d1, d2] }
  | _ => none }
def AttendDueWrongFalsely : Prop := attendDueRow.holds Try.pinned (OpenSpec.ofChange attendDueWrong)

/- THE SECOND FORM. 'bulk': how many values and letters a reading holds, each counted each time it is reached (what is shared counts as often as it is met; a slice's spare places count too). A statement '..UptoSaid' is the law's where the arguments, and the package variables that the reading takes, are together of bulk at most 1048576: NARROWER than '..Said'. Prove '..Said' where nothing that the law and all that it calls make is longer than what came in: it says more and counts as full. Else prove '..UptoSaid'. A law counts once. -/
mutual
def uptoBulk {H : Type} : DataW H → Nat
  | .lit (.string bytes) => bytes.length + 1
  | .lit _ => 1
  | .nil => 1
  | .ptr d => uptoBulk d + 1
  | .slice elems spare => uptoBulkAll elems + uptoBulkAll spare + 1
  | .agg parts => uptoBulkAll parts + 1
  | .iface _ d => uptoBulk d + 1
  | .map entries => uptoBulkEntries entries + 1
  | .held _ => 1
def uptoBulkAll {H : Type} : List (DataW H) → Nat
  | [] => 0
  | d :: r => uptoBulk d + uptoBulkAll r
def uptoBulkEntries {H : Type} : List (Lit × DataW H) → Nat
  | [] => 0
  | x :: r => uptoBulkEntry x + uptoBulkEntries r
def uptoBulkEntry {H : Type} : Lit × DataW H → Nat
  | (.string bytes, d) => bytes.length + uptoBulk d + 1
  | (_, d) => uptoBulk d + 1
 end
def uptoSmall : (H : Type) → List (DataW H) → Bool := fun _ ds => decide (uptoBulkAll ds ≤ 1048576)
def OpenSpec.upto (s : _root_.Go.ChangeSpec) : _root_.Go.OpenSpec := { _root_.Go.OpenSpec.ofChange s with cond := some uptoSmall }

/-- 'angeluslaw12.AttendNew', WHERE WHAT IT READS IS OF BULK AT MOST 1048576: true; the input reads as it did. -/
def attendNewUptoRow : OpenClaim := { program := "ytepcbklokcfbfaa", sum := "099498dbb39170230fc416e4fa2110acd563e7fb51aa64eb81f8fb4f53a2b37f", func := "angelus/angeluslaw12.AttendNew", spec := "attendNew", apart := false, narrowed := true }
def AttendNewUptoSaid : Prop := attendNewUptoRow.holds Try.pinned (OpenSpec.upto attendNewSpec)

/-- 'angeluslaw12.AttendPuts', WHERE WHAT IT READS IS OF BULK AT MOST 1048576: true; the input reads as it did. -/
def attendPutsUptoRow : OpenClaim := { program := "ytepcbklokcfbfaa", sum := "099498dbb39170230fc416e4fa2110acd563e7fb51aa64eb81f8fb4f53a2b37f", func := "angelus/angeluslaw12.AttendPuts", spec := "attendPuts", recurses := true, apart := false, narrowed := true }
def AttendPutsUptoSaid : Prop := attendPutsUptoRow.holds Try.pinned (OpenSpec.upto attendPutsSpec)

/-- 'angeluslaw12.AttendGets', WHERE WHAT IT READS IS OF BULK AT MOST 1048576: true; the input reads as it did. -/
def attendGetsUptoRow : OpenClaim := { program := "ytepcbklokcfbfaa", sum := "099498dbb39170230fc416e4fa2110acd563e7fb51aa64eb81f8fb4f53a2b37f", func := "angelus/angeluslaw12.AttendGets", spec := "attendGets", apart := false, narrowed := true }
def AttendGetsUptoSaid : Prop := attendGetsUptoRow.holds Try.pinned (OpenSpec.upto attendGetsSpec)

/-- 'angeluslaw12.AttendWho', WHERE WHAT IT READS IS OF BULK AT MOST 1048576: true; the input reads as it did. -/
def attendWhoUptoRow : OpenClaim := { program := "ytepcbklokcfbfaa", sum := "099498dbb39170230fc416e4fa2110acd563e7fb51aa64eb81f8fb4f53a2b37f", func := "angelus/angeluslaw12.AttendWho", spec := "attendWho", apart := false, narrowed := true }
def AttendWhoUptoSaid : Prop := attendWhoUptoRow.holds Try.pinned (OpenSpec.upto attendWhoSpec)

/-- 'angeluslaw12.AttendDue', WHERE WHAT IT READS IS OF BULK AT MOST 1048576: true; the input reads as it did. -/
def attendDueUptoRow : OpenClaim := { program := "ytepcbklokcfbfaa", sum := "099498dbb39170230fc416e4fa2110acd563e7fb51aa64eb81f8fb4f53a2b37f", func := "angelus/angeluslaw12.AttendDue", spec := "attendDue", apart := false, narrowed := true }
def AttendDueUptoSaid : Prop := attendDueUptoRow.holds Try.pinned (OpenSpec.upto attendDueSpec)

end Rows
end Go.Proofs.Ytepcbklokcfbfaa
