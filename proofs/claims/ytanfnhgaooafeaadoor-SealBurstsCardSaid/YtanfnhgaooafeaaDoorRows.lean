/-
  NARROWER THAN 'FOR EVERY INPUT', by the rows' own cells (each row's printed sentence says how): SealDecodes: laid · SealSums: laid · SealOnce: laid · SealBursts: laid.
  DERIVED. THE GIVEN ROWS OF THIS SEAT. 4 by the template 'for every input the law returns true; each argument reads behind the call as it read before'; 0 by the template 'total and deterministic' (their statements: YtanfnhgaooafeaaDoorTotals.lean).
  GIVEN WITH THE SEED: the statements are not yours to turn. If you find one false, say at which input.
  Laid BY PROGRAM, IN A SANDBOX (cutbox-rows.mjs): the forced cells as the released guide's own fill.sh prints them over the translation a418eda3c624dc14… (all of the seat's roots in one cut). By AI agents, Wed Nov 11 2026. No macro, syntax, notation, axiom, sorry.
-/
import Derived.Test.YtanfnhgaooafeaaDoorChecked
import GoSem.Claim
import GoSem.ClaimJoined
import GoSem.ClaimMapViews
import Derived.JoinedTies
import Derived.KernelRfl
namespace Go.Proofs.YtanfnhgaooafeaaDoor
/- THE CELL 'sum', in the pinned program and in every row, IS THE sha256 OF THE DUMP (.gsa) THAT YtanfnhgaooafeaaDoorProg.lean LOADS. Nothing in Lean hashes anything: it is a label: what it is worth is what the hold of that sum in a sandbox is worth. -/
noncomputable def Tryd.pinned : Pinned := { name := "ytanfnhgaooafeaadoor", sum := "a418eda3c624dc1410eee758b7fa102304e54e72b1617de0665a182cd521dcf4", checked := Tryd.checked }
namespace Rows
def none {H : Type} : Left H := { results := [], args := [] }

/- WHAT THE LISTED PACKAGE-LEVEL VARIABLES READ AS WHEN THE CALL BEGINS. Each datum BY PROGRAM (the guide's laid-datum.mjs) off the statement by which the dump's own 'gosem.cut.vars' lays the variable. In a bare row this is a premise. The card (YtanfnhgaooafeaaDoorCards.lean) ties it to the program's text. -/
def laid_angelus_crc_fours {H : Type} : DataW H := .agg [.lit (.int .u32 0), .lit (.int .u32 498536548), .lit (.int .u32 997073096), .lit (.int .u32 651767980), .lit (.int .u32 1994146192), .lit (.int .u32 1802195444), .lit (.int .u32 1303535960), .lit (.int .u32 1342533948), .lit (.int .u32 3988292384), .lit (.int .u32 4027552580), .lit (.int .u32 3604390888), .lit (.int .u32 3412177804), .lit (.int .u32 2607071920), .lit (.int .u32 2262029012), .lit (.int .u32 2685067896), .lit (.int .u32 3183342108)]

/-- 'angeluslaw14.SealDecodes': WHATEVER THE INPUT: true; the input reads as it did. -/
def sealDecodesSpec : ChangeSpec := { name := "sealDecodes", fn := fun _ => fun
  | [d] => { results := [.lit (.bool true)], args := [d] }
  | _ => none }
def sealDecodesRow : OpenClaim := { program := "ytanfnhgaooafeaadoor", sum := "a418eda3c624dc1410eee758b7fa102304e54e72b1617de0665a182cd521dcf4", func := "angelus/angeluslaw14.SealDecodes", spec := "sealDecodes", unfollowed := true, recurses := true, named := ["angelus/crc.fours"], apart := false, laid := [("angelus/crc.fours", laid_angelus_crc_fours)] }
def SealDecodesSaid : Prop := sealDecodesRow.holds Tryd.pinned (OpenSpec.ofChange sealDecodesSpec)

/-- ITS FALSE NEIGHBOUR: 'it returns false'. Refute it at one input. -/
def sealDecodesWrong : ChangeSpec := { name := "sealDecodes", fn := fun _ => fun
  | [d] => { results := [.lit (.bool false)], args := [d] }
  | _ => none }
def SealDecodesWrongFalsely : Prop := sealDecodesRow.holds Tryd.pinned (OpenSpec.ofChange sealDecodesWrong)

/-- 'angeluslaw14.SealSums': WHATEVER THE INPUT: true; the input reads as it did. -/
def sealSumsSpec : ChangeSpec := { name := "sealSums", fn := fun _ => fun
  | [d] => { results := [.lit (.bool true)], args := [d] }
  | _ => none }
def sealSumsRow : OpenClaim := { program := "ytanfnhgaooafeaadoor", sum := "a418eda3c624dc1410eee758b7fa102304e54e72b1617de0665a182cd521dcf4", func := "angelus/angeluslaw14.SealSums", spec := "sealSums", unfollowed := true, recurses := true, named := ["angelus/crc.fours"], apart := false, laid := [("angelus/crc.fours", laid_angelus_crc_fours)] }
def SealSumsSaid : Prop := sealSumsRow.holds Tryd.pinned (OpenSpec.ofChange sealSumsSpec)

/-- ITS FALSE NEIGHBOUR: 'it returns false'. Refute it at one input. -/
def sealSumsWrong : ChangeSpec := { name := "sealSums", fn := fun _ => fun
  | [d] => { results := [.lit (.bool false)], args := [d] }
  | _ => none }
def SealSumsWrongFalsely : Prop := sealSumsRow.holds Tryd.pinned (OpenSpec.ofChange sealSumsWrong)

/-- 'angeluslaw14.SealOnce': WHATEVER THE INPUT: true; the input reads as it did. -/
def sealOnceSpec : ChangeSpec := { name := "sealOnce", fn := fun _ => fun
  | [d] => { results := [.lit (.bool true)], args := [d] }
  | _ => none }
def sealOnceRow : OpenClaim := { program := "ytanfnhgaooafeaadoor", sum := "a418eda3c624dc1410eee758b7fa102304e54e72b1617de0665a182cd521dcf4", func := "angelus/angeluslaw14.SealOnce", spec := "sealOnce", unfollowed := true, recurses := true, named := ["angelus/crc.fours"], apart := false, laid := [("angelus/crc.fours", laid_angelus_crc_fours)] }
def SealOnceSaid : Prop := sealOnceRow.holds Tryd.pinned (OpenSpec.ofChange sealOnceSpec)

/-- ITS FALSE NEIGHBOUR: 'it returns false'. Refute it at one input. -/
def sealOnceWrong : ChangeSpec := { name := "sealOnce", fn := fun _ => fun
  | [d] => { results := [.lit (.bool false)], args := [d] }
  | _ => none }
def SealOnceWrongFalsely : Prop := sealOnceRow.holds Tryd.pinned (OpenSpec.ofChange sealOnceWrong)

/-- 'angeluslaw14.SealBursts': WHATEVER THE INPUT: true; the input reads as it did. -/
def sealBurstsSpec : ChangeSpec := { name := "sealBursts", fn := fun _ => fun
  | [d1, d2, d3] => { results := [.lit (.bool true)], args := [d1, d2, d3] }
  | _ => none }
def sealBurstsRow : OpenClaim := { program := "ytanfnhgaooafeaadoor", sum := "a418eda3c624dc1410eee758b7fa102304e54e72b1617de0665a182cd521dcf4", func := "angelus/angeluslaw14.SealBursts", spec := "sealBursts", unfollowed := true, recurses := true, named := ["angelus/crc.fours"], apart := false, laid := [("angelus/crc.fours", laid_angelus_crc_fours)] }
def SealBurstsSaid : Prop := sealBurstsRow.holds Tryd.pinned (OpenSpec.ofChange sealBurstsSpec)

/-- ITS FALSE NEIGHBOUR: 'it returns false'. Refute it at one input. -/
def sealBurstsWrong : ChangeSpec := { name := "sealBursts", fn := fun _ => fun
  | [d1, d2, d3] => { results := [.lit (.bool false)], args := [d1, d2, d3] }
  | _ => none }
def SealBurstsWrongFalsely : Prop := sealBurstsRow.holds Tryd.pinned (OpenSpec.ofChange sealBurstsWrong)

/- THE SECOND FORM. 'bulk': how many values and letters a reading holds, each counted each time it is reached (what is shared counts as often as it is met; a slice's spare places count too). A statement '..UptoSaid' is the law's where the arguments, and the package variables that the reading takes, are together of bulk at most 1048576: NARROWER than '..Said'. Prove '..Said' where nothing that the law and all that it calls make is longer than what came in: it says more and counts as full. Else prove '..UptoSaid'. A law counts once. -/
mutual
def uptoBulk {H : Type} : DataW H → Nat
  | .lit (.string bytes) => bytes.length + 1
  | .lit _ => 1
  | .nil => 1
  | .ptr d => uptoBulk d + 1
  | .slice elems spare => uptoBulkAll elems + uptoBulkAll spare + 1
  | .agg parts => uptoBulkAll parts + 1
  | .iface _ d => uptoBulk d + 1
  | .map entries => uptoBulkEntries entries + 1
  | .held _ => 1
def uptoBulkAll {H : Type} : List (DataW H) → Nat
  | [] => 0
  | d :: r => uptoBulk d + uptoBulkAll r
def uptoBulkEntries {H : Type} : List (Lit × DataW H) → Nat
  | [] => 0
  | x :: r => uptoBulkEntry x + uptoBulkEntries r
def uptoBulkEntry {H : Type} : Lit × DataW H → Nat
  | (.string bytes, d) => bytes.length + uptoBulk d + 1
  | (_, d) => uptoBulk d + 1
 end
def uptoSmall : (H : Type) → List (DataW H) → Bool := fun _ ds => decide (uptoBulkAll ds ≤ 1048576)
def OpenSpec.upto (s : _root_.Go.ChangeSpec) : _root_.Go.OpenSpec := { _root_.Go.OpenSpec.ofChange s with cond := some uptoSmall }

/-- 'angeluslaw14.SealDecodes', WHERE WHAT IT READS IS OF BULK AT MOST 1048576: true; the input reads as it did. -/
def sealDecodesUptoRow : OpenClaim := { program := "ytanfnhgaooafeaadoor", sum := "a418eda3c624dc1410eee758b7fa102304e54e72b1617de0665a182cd521dcf4", func := "angelus/angeluslaw14.SealDecodes", spec := "sealDecodes", unfollowed := true, recurses := true, named := ["angelus/crc.fours"], apart := false, laid := [("angelus/crc.fours", laid_angelus_crc_fours)], narrowed := true }
def SealDecodesUptoSaid : Prop := sealDecodesUptoRow.holds Tryd.pinned (OpenSpec.upto sealDecodesSpec)

/-- 'angeluslaw14.SealSums', WHERE WHAT IT READS IS OF BULK AT MOST 1048576: true; the input reads as it did. -/
def sealSumsUptoRow : OpenClaim := { program := "ytanfnhgaooafeaadoor", sum := "a418eda3c624dc1410eee758b7fa102304e54e72b1617de0665a182cd521dcf4", func := "angelus/angeluslaw14.SealSums", spec := "sealSums", unfollowed := true, recurses := true, named := ["angelus/crc.fours"], apart := false, laid := [("angelus/crc.fours", laid_angelus_crc_fours)], narrowed := true }
def SealSumsUptoSaid : Prop := sealSumsUptoRow.holds Tryd.pinned (OpenSpec.upto sealSumsSpec)

/-- 'angeluslaw14.SealOnce', WHERE WHAT IT READS IS OF BULK AT MOST 1048576: true; the input reads as it did. -/
def sealOnceUptoRow : OpenClaim := { program := "ytanfnhgaooafeaadoor", sum := "a418eda3c624dc1410eee758b7fa102304e54e72b1617de0665a182cd521dcf4", func := "angelus/angeluslaw14.SealOnce", spec := "sealOnce", unfollowed := true, recurses := true, named := ["angelus/crc.fours"], apart := false, laid := [("angelus/crc.fours", laid_angelus_crc_fours)], narrowed := true }
def SealOnceUptoSaid : Prop := sealOnceUptoRow.holds Tryd.pinned (OpenSpec.upto sealOnceSpec)

/-- 'angeluslaw14.SealBursts', WHERE WHAT IT READS IS OF BULK AT MOST 1048576: true; the input reads as it did. -/
def sealBurstsUptoRow : OpenClaim := { program := "ytanfnhgaooafeaadoor", sum := "a418eda3c624dc1410eee758b7fa102304e54e72b1617de0665a182cd521dcf4", func := "angelus/angeluslaw14.SealBursts", spec := "sealBursts", unfollowed := true, recurses := true, named := ["angelus/crc.fours"], apart := false, laid := [("angelus/crc.fours", laid_angelus_crc_fours)], narrowed := true }
def SealBurstsUptoSaid : Prop := sealBurstsUptoRow.holds Tryd.pinned (OpenSpec.upto sealBurstsSpec)

end Rows
end Go.Proofs.YtanfnhgaooafeaaDoor
