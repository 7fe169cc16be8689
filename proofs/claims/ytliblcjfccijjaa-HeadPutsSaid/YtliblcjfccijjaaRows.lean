/-
  No cell of these rows narrows 'for every input' (looked for: loops, veiled, ifaces, maps, wideKeys, modest, calm, conditions, laid).
  DERIVED. THE GIVEN ROWS OF THIS SEAT. 6 by the template 'for every input the law returns true; each argument reads behind the call as it read before'; 0 by the template 'total and deterministic' (their statements: YtliblcjfccijjaaTotals.lean).
  GIVEN WITH THE SEED: the statements are not yours to turn. If you find one false, say at which input.
  Laid BY PROGRAM, IN A SANDBOX (cutbox-rows.mjs): the forced cells as the released guide's own fill.sh prints them over the translation 77589793f316eff3… (all of the seat's roots in one cut). By AI agents, Wed Nov 11 2026. No macro, syntax, notation, axiom, sorry.
-/
import Derived.Test.YtliblcjfccijjaaChecked
import GoSem.Claim
import GoSem.ClaimJoined
import GoSem.ClaimMapViews
import Derived.JoinedTies
import Derived.KernelRfl
namespace Go.Proofs.Ytliblcjfccijjaa
/- THE CELL 'sum', in the pinned program and in every row, IS THE sha256 OF THE DUMP (.gsa) THAT YtliblcjfccijjaaProg.lean LOADS. Nothing in Lean hashes anything: it is a label: what it is worth is what the hold of that sum in a sandbox is worth. -/
noncomputable def Try.pinned : Pinned := { name := "ytliblcjfccijjaa", sum := "77589793f316eff398850c9c0081df448fef63191eccb12a48005ac739f644f0", checked := Try.checked }
namespace Rows
def none {H : Type} : Left H := { results := [], args := [] }

/-- 'angeluslaw09.HeadKinds': WHATEVER THE INPUT: true; the input reads as it did. -/
def headKindsSpec : ChangeSpec := { name := "headKinds", fn := fun _ => fun
  | [d1, d2] => { results := [.lit (.bool true)], args := [d1, d2] }
  | _ => none }
def headKindsRow : OpenClaim := { program := "ytliblcjfccijjaa", sum := "77589793f316eff398850c9c0081df448fef63191eccb12a48005ac739f644f0", func := "angelus/angeluslaw09.HeadKinds", spec := "headKinds", apart := false }
def HeadKindsSaid : Prop := headKindsRow.holds Try.pinned (OpenSpec.ofChange headKindsSpec)

/-- ITS FALSE NEIGHBOUR: 'it returns false'. Refute it at one input. -/
def headKindsWrong : ChangeSpec := { name := "headKinds", fn := fun _ => fun
  | [d1, d2] => { results := [.lit (.bool false)], args := [d1, d2] }
  | _ => none }
def HeadKindsWrongFalsely : Prop := headKindsRow.holds Try.pinned (OpenSpec.ofChange headKindsWrong)

/-- 'angeluslaw09.HeadPuts': WHATEVER THE INPUT: true; the input reads as it did. -/
def headPutsSpec : ChangeSpec := { name := "headPuts", fn := fun _ => fun
  | [d] => { results := [.lit (.bool true)], args := [d] }
  | _ => none }
def headPutsRow : OpenClaim := { program := "ytliblcjfccijjaa", sum := "77589793f316eff398850c9c0081df448fef63191eccb12a48005ac739f644f0", func := "angelus/angeluslaw09.HeadPuts", spec := "headPuts", recurses := true, apart := false }
def HeadPutsSaid : Prop := headPutsRow.holds Try.pinned (OpenSpec.ofChange headPutsSpec)

/-- ITS FALSE NEIGHBOUR: 'it returns false'. Refute it at one input. -/
def headPutsWrong : ChangeSpec := { name := "headPuts", fn := fun _ => fun
  | [d] => { results := [.lit (.bool false)], args := [d] }
  | _ => none }
def HeadPutsWrongFalsely : Prop := headPutsRow.holds Try.pinned (OpenSpec.ofChange headPutsWrong)

/-- 'angeluslaw09.HeadGets': WHATEVER THE INPUT: true; the input reads as it did. -/
def headGetsSpec : ChangeSpec := { name := "headGets", fn := fun _ => fun
  | [d] => { results := [.lit (.bool true)], args := [d] }
  | _ => none }
def headGetsRow : OpenClaim := { program := "ytliblcjfccijjaa", sum := "77589793f316eff398850c9c0081df448fef63191eccb12a48005ac739f644f0", func := "angelus/angeluslaw09.HeadGets", spec := "headGets", apart := false }
def HeadGetsSaid : Prop := headGetsRow.holds Try.pinned (OpenSpec.ofChange headGetsSpec)

/-- ITS FALSE NEIGHBOUR: 'it returns false'. Refute it at one input. -/
def headGetsWrong : ChangeSpec := { name := "headGets", fn := fun _ => fun
  | [d] => { results := [.lit (.bool false)], args := [d] }
  | _ => none }
def HeadGetsWrongFalsely : Prop := headGetsRow.holds Try.pinned (OpenSpec.ofChange headGetsWrong)

/-- 'angeluslaw09.HeadNext': WHATEVER THE INPUT: true; the input reads as it did. -/
def headNextSpec : ChangeSpec := { name := "headNext", fn := fun _ => fun
  | [d] => { results := [.lit (.bool true)], args := [d] }
  | _ => none }
def headNextRow : OpenClaim := { program := "ytliblcjfccijjaa", sum := "77589793f316eff398850c9c0081df448fef63191eccb12a48005ac739f644f0", func := "angelus/angeluslaw09.HeadNext", spec := "headNext", apart := false }
def HeadNextSaid : Prop := headNextRow.holds Try.pinned (OpenSpec.ofChange headNextSpec)

/-- ITS FALSE NEIGHBOUR: 'it returns false'. Refute it at one input. -/
def headNextWrong : ChangeSpec := { name := "headNext", fn := fun _ => fun
  | [d] => { results := [.lit (.bool false)], args := [d] }
  | _ => none }
def HeadNextWrongFalsely : Prop := headNextRow.holds Try.pinned (OpenSpec.ofChange headNextWrong)

/-- 'angeluslaw09.HeadSame': WHATEVER THE INPUT: true; the input reads as it did. -/
def headSameSpec : ChangeSpec := { name := "headSame", fn := fun _ => fun
  | [d1, d2] => { results := [.lit (.bool true)], args := [d1, d2] }
  | _ => none }
def headSameRow : OpenClaim := { program := "ytliblcjfccijjaa", sum := "77589793f316eff398850c9c0081df448fef63191eccb12a48005ac739f644f0", func := "angelus/angeluslaw09.HeadSame", spec := "headSame", apart := false }
def HeadSameSaid : Prop := headSameRow.holds Try.pinned (OpenSpec.ofChange headSameSpec)

/-- ITS FALSE NEIGHBOUR: 'it returns false'. Refute it at one input. -/
def headSameWrong : ChangeSpec := { name := "headSame", fn := fun _ => fun
  | [d1, d2] => { results := [.lit (.bool false)], args := [d1, d2] }
  | _ => none }
def HeadSameWrongFalsely : Prop := headSameRow.holds Try.pinned (OpenSpec.ofChange headSameWrong)

/-- 'angeluslaw08.AgendaPlays': WHATEVER THE INPUT: true; the input reads as it did. -/
def agendaPlaysSpec : ChangeSpec := { name := "agendaPlays", fn := fun _ => fun
  | [d1, d2] => { results := [.lit (.bool true)], args := [d1, d2] }
  | _ => none }
def agendaPlaysRow : OpenClaim := { program := "ytliblcjfccijjaa", sum := "77589793f316eff398850c9c0081df448fef63191eccb12a48005ac739f644f0", func := "angelus/angeluslaw08.AgendaPlays", spec := "agendaPlays", apart := false }
def AgendaPlaysSaid : Prop := agendaPlaysRow.holds Try.pinned (OpenSpec.ofChange agendaPlaysSpec)

/-- ITS FALSE NEIGHBOUR: 'it returns false'. Refute it at one input. -/
def agendaPlaysWrong : ChangeSpec := { name := "agendaPlays", fn := fun _ => fun
  | [d1, d2] => { results := [.lit (.bool false)], args := [d1, d2] }
  | _ => none }
def AgendaPlaysWrongFalsely : Prop := agendaPlaysRow.holds Try.pinned (OpenSpec.ofChange agendaPlaysWrong)

/- THE SECOND FORM. 'bulk': how many values and letters a reading holds, each counted each time it is reached (what is shared counts as often as it is met; a slice's spare places count too). A statement '..UptoSaid' is the law's where the arguments, and the package variables that the reading takes, are together of bulk at most 1048576: NARROWER than '..Said'. Prove '..Said' where nothing that the law and all that it calls make is longer than what came in: it says more and counts as full. Else prove '..UptoSaid'. A law counts once. -/
mutual
def uptoBulk {H : Type} : DataW H → Nat
  | .lit (.string bytes) => bytes.length + 1
  | .lit _ => 1
  | .nil => 1
  | .ptr d => uptoBulk d + 1
  | .slice elems spare => uptoBulkAll elems + uptoBulkAll spare + 1
  | .agg parts => uptoBulkAll parts + 1
  | .iface _ d => uptoBulk d + 1
  | .map entries => uptoBulkEntries entries + 1
  | .held _ => 1
def uptoBulkAll {H : Type} : List (DataW H) → Nat
  | [] => 0
  | d :: r => uptoBulk d + uptoBulkAll r
def uptoBulkEntries {H : Type} : List (Lit × DataW H) → Nat
  | [] => 0
  | x :: r => uptoBulkEntry x + uptoBulkEntries r
def uptoBulkEntry {H : Type} : Lit × DataW H → Nat
  | (.string bytes, d) => bytes.length + uptoBulk d + 1
  | (_, d) => uptoBulk d + 1
 end
def uptoSmall : (H : Type) → List (DataW H) → Bool := fun _ ds => decide (uptoBulkAll ds ≤ 1048576)
def OpenSpec.upto (s : _root_.Go.ChangeSpec) : _root_.Go.OpenSpec := { _root_.Go.OpenSpec.ofChange s with cond := some uptoSmall }

/-- 'angeluslaw09.HeadKinds', WHERE WHAT IT READS IS OF BULK AT MOST 1048576: true; the input reads as it did. -/
def headKindsUptoRow : OpenClaim := { program := "ytliblcjfccijjaa", sum := "77589793f316eff398850c9c0081df448fef63191eccb12a48005ac739f644f0", func := "angelus/angeluslaw09.HeadKinds", spec := "headKinds", apart := false, narrowed := true }
def HeadKindsUptoSaid : Prop := headKindsUptoRow.holds Try.pinned (OpenSpec.upto headKindsSpec)

/-- 'angeluslaw09.HeadPuts', WHERE WHAT IT READS IS OF BULK AT MOST 1048576: true; the input reads as it did. -/
def headPutsUptoRow : OpenClaim := { program := "ytliblcjfccijjaa", sum := "77589793f316eff398850c9c0081df448fef63191eccb12a48005ac739f644f0", func := "angelus/angeluslaw09.HeadPuts", spec := "headPuts", recurses := true, apart := false, narrowed := true }
def HeadPutsUptoSaid : Prop := headPutsUptoRow.holds Try.pinned (OpenSpec.upto headPutsSpec)

/-- 'angeluslaw09.HeadGets', WHERE WHAT IT READS IS OF BULK AT MOST 1048576: true; the input reads as it did. -/
def headGetsUptoRow : OpenClaim := { program := "ytliblcjfccijjaa", sum := "77589793f316eff398850c9c0081df448fef63191eccb12a48005ac739f644f0", func := "angelus/angeluslaw09.HeadGets", spec := "headGets", apart := false, narrowed := true }
def HeadGetsUptoSaid : Prop := headGetsUptoRow.holds Try.pinned (OpenSpec.upto headGetsSpec)

/-- 'angeluslaw09.HeadNext', WHERE WHAT IT READS IS OF BULK AT MOST 1048576: true; the input reads as it did. -/
def headNextUptoRow : OpenClaim := { program := "ytliblcjfccijjaa", sum := "77589793f316eff398850c9c0081df448fef63191eccb12a48005ac739f644f0", func := "angelus/angeluslaw09.HeadNext", spec := "headNext", apart := false, narrowed := true }
def HeadNextUptoSaid : Prop := headNextUptoRow.holds Try.pinned (OpenSpec.upto headNextSpec)

/-- 'angeluslaw09.HeadSame', WHERE WHAT IT READS IS OF BULK AT MOST 1048576: true; the input reads as it did. -/
def headSameUptoRow : OpenClaim := { program := "ytliblcjfccijjaa", sum := "77589793f316eff398850c9c0081df448fef63191eccb12a48005ac739f644f0", func := "angelus/angeluslaw09.HeadSame", spec := "headSame", apart := false, narrowed := true }
def HeadSameUptoSaid : Prop := headSameUptoRow.holds Try.pinned (OpenSpec.upto headSameSpec)

/-- 'angeluslaw08.AgendaPlays', WHERE WHAT IT READS IS OF BULK AT MOST 1048576: true; the input reads as it did. -/
def agendaPlaysUptoRow : OpenClaim := { program := "ytliblcjfccijjaa", sum := "77589793f316eff398850c9c0081df448fef63191eccb12a48005ac739f644f0", func := "angelus/angeluslaw08.AgendaPlays", spec := "agendaPlays", apart := false, narrowed := true }
def AgendaPlaysUptoSaid : Prop := agendaPlaysUptoRow.holds Try.pinned (OpenSpec.upto agendaPlaysSpec)

end Rows
end Go.Proofs.Ytliblcjfccijjaa
