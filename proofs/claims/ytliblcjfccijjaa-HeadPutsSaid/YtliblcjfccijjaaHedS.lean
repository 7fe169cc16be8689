/- How long a head is (layer 9). -/
import Derived.Test.YtliblcjfccijjaaHedO
namespace Go.Proofs.Ytliblcjfccijjaa.Hed
open Go.Proofs.Ytliblcjfccijjaa.Byt Go.Proofs.Ytliblcjfccijjaa.Key Go.Proofs.Ytliblcjfccijjaa.Buf Go.Proofs.Ytliblcjfccijjaa.BufM
set_option linter.unusedVariables false
theorem headB_len (p : Pk) : (headB p).length ≤ 17 := by
  have hs := sev_len10 (un p.key.1) (un_lt _)
  have hx := fixB_len 4 (un p.key.2.2)
  unfold headB
  split
  · simp only [List.length_append, List.length_singleton]; omega
  · simp
end Go.Proofs.Ytliblcjfccijjaa.Hed
