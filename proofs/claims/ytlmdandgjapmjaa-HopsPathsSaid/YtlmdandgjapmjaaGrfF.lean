/- Contracts of package graph (layer 16): all links; a graph without the links of some nodes. -/
import Derived.Test.YtlmdandgjapmjaaGrfC
import Derived.Test.YtlmdandgjapmjaaGrfD
import Derived.Test.YtlmdandgjapmjaaGrfE
namespace Go.Proofs.Ytlmdandgjapmjaa.Grf
open Go.ChangeShapes Go.WideShapes Go.ChangeAt Go.RowKit
set_option linter.unusedVariables false
set_option maxRecDepth 100000
theorem filt_hit {zs : List Pr} {f : Pr → Bool} {k : Nat} (hk : k < zs.length) (h : f (zs.getD k (0, 0)) = true) : (zs.take (k + 1)).filter f = (zs.take k).filter f ++ [zs.getD k (0, 0)] := by
  rw [take_snoc hk, List.filter_append]
  congr 1
  simp only [List.filter_cons, h, if_true, List.filter_nil]
theorem filt_miss {zs : List Pr} {f : Pr → Bool} {k : Nat} (hk : k < zs.length) (h : f (zs.getD k (0, 0)) = false) : (zs.take (k + 1)).filter f = (zs.take k).filter f := by
  rw [take_snoc hk, List.filter_append]
  simp only [List.filter_cons, h, Bool.false_eq_true, if_false, List.filter_nil, List.append_nil]
theorem getD_memG {zs : List Pr} {k : Nat} (hk : k < zs.length) : zs.getD k (0, 0) ∈ zs := by
  have : zs.getD k (0, 0) = zs[k] := by simp [List.getD, hk]
  rw [this]; exact List.getElem_mem _
theorem filt_len {zs : List Pr} {f : Pr → Bool} (k : Nat) : ((zs.take k).filter f).length ≤ k := by
  refine Nat.le_trans (List.length_filter_le _ _) ?_
  rw [List.length_take]; omega
theorem OwnG.stay {w w' : World} {base : Nat} {v : Value} {L : List Pr} {F : Nat → Prop} (h : OwnG w base v L) (hs : Rw.Stay F w w') (hF : ∀ k, F k → k < base) : OwnG w' base v L := by
  refine ⟨h.1, ?_⟩
  rcases h.2 with h0 | ⟨g, cap, cur, hv, hb, hg, r⟩
  · exact .inl h0
  · refine .inr ⟨g, cap, cur, hv, hb, ?_, r⟩
    exact (hs.block g (Array.getElem?_eq_some_iff.1 hg).1 (fun e => by have := hF g e; omega)).trans hg
end Go.Proofs.Ytlmdandgjapmjaa.Grf
