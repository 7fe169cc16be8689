/- The packet one hop on is what the law wants (layer 9). -/
import Derived.Test.YtliblcjfccijjaaHedF
namespace Go.Proofs.Ytliblcjfccijjaa.Hed
open Go.Proofs.Ytliblcjfccijjaa.Byt Go.Proofs.Ytliblcjfccijjaa.Key
set_option linter.unusedVariables false
theorem eqP_next (p : Pk) (ad' : Option Addr) (cap' : Nat) : eqP { p with hops := p.hops + 1, ad := ad', cap := cap' } { p with hops := p.hops + 1 } = true := by
  unfold eqP eqK
  simp [str_self]
end Go.Proofs.Ytliblcjfccijjaa.Hed
