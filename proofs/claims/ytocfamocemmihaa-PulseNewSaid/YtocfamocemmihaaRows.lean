/-
  No cell of these rows narrows 'for every input' (looked for: loops, veiled, ifaces, maps, wideKeys, modest, calm, conditions, laid).
  DERIVED. THE GIVEN ROWS OF THIS SEAT. 5 by the template 'for every input the law returns true; each argument reads behind the call as it read before'; 0 by the template 'total and deterministic' (their statements: YtocfamocemmihaaTotals.lean).
  GIVEN WITH THE SEED: the statements are not yours to turn. If you find one false, say at which input.
  Laid BY PROGRAM, IN A SANDBOX (cutbox-rows.mjs): the forced cells as the released guide's own fill.sh prints them over the translation aa27cf934d41b9b1… (all of the seat's roots in one cut). By AI agents, Wed Nov 11 2026. No macro, syntax, notation, axiom, sorry.
-/
import Derived.Test.YtocfamocemmihaaChecked
import GoSem.Claim
import GoSem.ClaimJoined
import GoSem.ClaimMapViews
import Derived.JoinedTies
import Derived.KernelRfl
namespace Go.Proofs.Ytocfamocemmihaa
/- THE CELL 'sum', in the pinned program and in every row, IS THE sha256 OF THE DUMP (.gsa) THAT YtocfamocemmihaaProg.lean LOADS. Nothing in Lean hashes anything: it is a label: what it is worth is what the hold of that sum in a sandbox is worth. -/
noncomputable def Try.pinned : Pinned := { name := "ytocfamocemmihaa", sum := "aa27cf934d41b9b1370bddcb7da118e483ad0af7f8090d735a22a0159c8a15b2", checked := Try.checked }
namespace Rows
def none {H : Type} : Left H := { results := [], args := [] }

/-- 'angeluslaw11.PulseNew': WHATEVER THE INPUT: true; the input reads as it did. -/
def pulseNewSpec : ChangeSpec := { name := "pulseNew", fn := fun _ => fun
  | [d1, d2, d3] => { results := [.lit (.bool true)], args := [d1, d2, d3] }
  | _ => none }
def pulseNewRow : OpenClaim := { program := "ytocfamocemmihaa", sum := "aa27cf934d41b9b1370bddcb7da118e483ad0af7f8090d735a22a0159c8a15b2", func := "angelus/angeluslaw11.PulseNew", spec := "pulseNew", apart := false }
def PulseNewSaid : Prop := pulseNewRow.holds Try.pinned (OpenSpec.ofChange pulseNewSpec)

/-- ITS FALSE NEIGHBOUR: 'it returns false'. Refute it at one input. -/
def pulseNewWrong : ChangeSpec := { name := "pulseNew", fn := fun _ => fun
  | [d1, d2, d3] => { results := [.lit (.bool false)], args := [d1, d2, d3] }
  | _ => none }
def PulseNewWrongFalsely : Prop := pulseNewRow.holds Try.pinned (OpenSpec.ofChange pulseNewWrong)

/-- 'angeluslaw11.PulseGood': WHATEVER THE INPUT: true; the input reads as it did. -/
def pulseGoodSpec : ChangeSpec := { name := "pulseGood", fn := fun _ => fun
  | [d] => { results := [.lit (.bool true)], args := [d] }
  | _ => none }
def pulseGoodRow : OpenClaim := { program := "ytocfamocemmihaa", sum := "aa27cf934d41b9b1370bddcb7da118e483ad0af7f8090d735a22a0159c8a15b2", func := "angelus/angeluslaw11.PulseGood", spec := "pulseGood", apart := false }
def PulseGoodSaid : Prop := pulseGoodRow.holds Try.pinned (OpenSpec.ofChange pulseGoodSpec)

/-- ITS FALSE NEIGHBOUR: 'it returns false'. Refute it at one input. -/
def pulseGoodWrong : ChangeSpec := { name := "pulseGood", fn := fun _ => fun
  | [d] => { results := [.lit (.bool false)], args := [d] }
  | _ => none }
def PulseGoodWrongFalsely : Prop := pulseGoodRow.holds Try.pinned (OpenSpec.ofChange pulseGoodWrong)

/-- 'angeluslaw11.PulsePuts': WHATEVER THE INPUT: true; the input reads as it did. -/
def pulsePutsSpec : ChangeSpec := { name := "pulsePuts", fn := fun _ => fun
  | [d] => { results := [.lit (.bool true)], args := [d] }
  | _ => none }
def pulsePutsRow : OpenClaim := { program := "ytocfamocemmihaa", sum := "aa27cf934d41b9b1370bddcb7da118e483ad0af7f8090d735a22a0159c8a15b2", func := "angelus/angeluslaw11.PulsePuts", spec := "pulsePuts", recurses := true, apart := false }
def PulsePutsSaid : Prop := pulsePutsRow.holds Try.pinned (OpenSpec.ofChange pulsePutsSpec)

/-- ITS FALSE NEIGHBOUR: 'it returns false'. Refute it at one input. -/
def pulsePutsWrong : ChangeSpec := { name := "pulsePuts", fn := fun _ => fun
  | [d] => { results := [.lit (.bool false)], args := [d] }
  | _ => none }
def PulsePutsWrongFalsely : Prop := pulsePutsRow.holds Try.pinned (OpenSpec.ofChange pulsePutsWrong)

/-- 'angeluslaw11.PulseGets': WHATEVER THE INPUT: true; the input reads as it did. -/
def pulseGetsSpec : ChangeSpec := { name := "pulseGets", fn := fun _ => fun
  | [d1, d2] => { results := [.lit (.bool true)], args := [d1, d2] }
  | _ => none }
def pulseGetsRow : OpenClaim := { program := "ytocfamocemmihaa", sum := "aa27cf934d41b9b1370bddcb7da118e483ad0af7f8090d735a22a0159c8a15b2", func := "angelus/angeluslaw11.PulseGets", spec := "pulseGets", apart := false }
def PulseGetsSaid : Prop := pulseGetsRow.holds Try.pinned (OpenSpec.ofChange pulseGetsSpec)

/-- ITS FALSE NEIGHBOUR: 'it returns false'. Refute it at one input. -/
def pulseGetsWrong : ChangeSpec := { name := "pulseGets", fn := fun _ => fun
  | [d1, d2] => { results := [.lit (.bool false)], args := [d1, d2] }
  | _ => none }
def PulseGetsWrongFalsely : Prop := pulseGetsRow.holds Try.pinned (OpenSpec.ofChange pulseGetsWrong)

/-- 'angeluslaw11.PulseEchoes': WHATEVER THE INPUT: true; the input reads as it did. -/
def pulseEchoesSpec : ChangeSpec := { name := "pulseEchoes", fn := fun _ => fun
  | [d1, d2] => { results := [.lit (.bool true)], args := [d1, d2] }
  | _ => none }
def pulseEchoesRow : OpenClaim := { program := "ytocfamocemmihaa", sum := "aa27cf934d41b9b1370bddcb7da118e483ad0af7f8090d735a22a0159c8a15b2", func := "angelus/angeluslaw11.PulseEchoes", spec := "pulseEchoes", apart := false }
def PulseEchoesSaid : Prop := pulseEchoesRow.holds Try.pinned (OpenSpec.ofChange pulseEchoesSpec)

/-- ITS FALSE NEIGHBOUR: 'it returns false'. Refute it at one input. -/
def pulseEchoesWrong : ChangeSpec := { name := "pulseEchoes", fn := fun _ => fun
  | [d1, d2] => { results := [.lit (.bool false)], args := [d1, d2] }
  | _ => none }
def PulseEchoesWrongFalsely : Prop := pulseEchoesRow.holds Try.pinned (OpenSpec.ofChange pulseEchoesWrong)

/- THE SECOND FORM. 'bulk': how many values and letters a reading holds, each counted each time it is reached (what is shared counts as often as it is met; a slice's spare places count too). A statement '..UptoSaid' is the law's where the arguments, and the package variables that the reading takes, are together of bulk at most 1048576: NARROWER than '..Said'. Prove '..Said' where nothing that the law and all that it calls make is longer than what came in: it says more and counts as full. Else prove '..UptoSaid'. A law counts once. -/
mutual
def uptoBulk {H : Type} : DataW H → Nat
  | .lit (.string bytes) => bytes.length + 1
  | .lit _ => 1
  | .nil => 1
  | .ptr d => uptoBulk d + 1
  | .slice elems spare => uptoBulkAll elems + uptoBulkAll spare + 1
  | .agg parts => uptoBulkAll parts + 1
  | .iface _ d => uptoBulk d + 1
  | .map entries => uptoBulkEntries entries + 1
  | .held _ => 1
def uptoBulkAll {H : Type} : List (DataW H) → Nat
  | [] => 0
  | d :: r => uptoBulk d + uptoBulkAll r
def uptoBulkEntries {H : Type} : List (Lit × DataW H) → Nat
  | [] => 0
  | x :: r => uptoBulkEntry x + uptoBulkEntries r
def uptoBulkEntry {H : Type} : Lit × DataW H → Nat
  | (.string bytes, d) => bytes.length + uptoBulk d + 1
  | (_, d) => uptoBulk d + 1
 end
def uptoSmall : (H : Type) → List (DataW H) → Bool := fun _ ds => decide (uptoBulkAll ds ≤ 1048576)
def OpenSpec.upto (s : _root_.Go.ChangeSpec) : _root_.Go.OpenSpec := { _root_.Go.OpenSpec.ofChange s with cond := some uptoSmall }

/-- 'angeluslaw11.PulseNew', WHERE WHAT IT READS IS OF BULK AT MOST 1048576: true; the input reads as it did. -/
def pulseNewUptoRow : OpenClaim := { program := "ytocfamocemmihaa", sum := "aa27cf934d41b9b1370bddcb7da118e483ad0af7f8090d735a22a0159c8a15b2", func := "angelus/angeluslaw11.PulseNew", spec := "pulseNew", apart := false, narrowed := true }
def PulseNewUptoSaid : Prop := pulseNewUptoRow.holds Try.pinned (OpenSpec.upto pulseNewSpec)

/-- 'angeluslaw11.PulseGood', WHERE WHAT IT READS IS OF BULK AT MOST 1048576: true; the input reads as it did. -/
def pulseGoodUptoRow : OpenClaim := { program := "ytocfamocemmihaa", sum := "aa27cf934d41b9b1370bddcb7da118e483ad0af7f8090d735a22a0159c8a15b2", func := "angelus/angeluslaw11.PulseGood", spec := "pulseGood", apart := false, narrowed := true }
def PulseGoodUptoSaid : Prop := pulseGoodUptoRow.holds Try.pinned (OpenSpec.upto pulseGoodSpec)

/-- 'angeluslaw11.PulsePuts', WHERE WHAT IT READS IS OF BULK AT MOST 1048576: true; the input reads as it did. -/
def pulsePutsUptoRow : OpenClaim := { program := "ytocfamocemmihaa", sum := "aa27cf934d41b9b1370bddcb7da118e483ad0af7f8090d735a22a0159c8a15b2", func := "angelus/angeluslaw11.PulsePuts", spec := "pulsePuts", recurses := true, apart := false, narrowed := true }
def PulsePutsUptoSaid : Prop := pulsePutsUptoRow.holds Try.pinned (OpenSpec.upto pulsePutsSpec)

/-- 'angeluslaw11.PulseGets', WHERE WHAT IT READS IS OF BULK AT MOST 1048576: true; the input reads as it did. -/
def pulseGetsUptoRow : OpenClaim := { program := "ytocfamocemmihaa", sum := "aa27cf934d41b9b1370bddcb7da118e483ad0af7f8090d735a22a0159c8a15b2", func := "angelus/angeluslaw11.PulseGets", spec := "pulseGets", apart := false, narrowed := true }
def PulseGetsUptoSaid : Prop := pulseGetsUptoRow.holds Try.pinned (OpenSpec.upto pulseGetsSpec)

/-- 'angeluslaw11.PulseEchoes', WHERE WHAT IT READS IS OF BULK AT MOST 1048576: true; the input reads as it did. -/
def pulseEchoesUptoRow : OpenClaim := { program := "ytocfamocemmihaa", sum := "aa27cf934d41b9b1370bddcb7da118e483ad0af7f8090d735a22a0159c8a15b2", func := "angelus/angeluslaw11.PulseEchoes", spec := "pulseEchoes", apart := false, narrowed := true }
def PulseEchoesUptoSaid : Prop := pulseEchoesUptoRow.holds Try.pinned (OpenSpec.upto pulseEchoesSpec)

end Rows
end Go.Proofs.Ytocfamocemmihaa
