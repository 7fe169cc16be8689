/- Contracts of the document's own answers for layer 16: without the links of some nodes. -/
import Derived.Test.YtbgigimapogkcaaDoorGrfT
import Derived.Test.YtbgigimapogkcaaDoorNodesD
import Derived.BigRegion
import Derived.Deep.RegionLaw
import Derived.Deep.Cut
namespace Go.Proofs.YtbgigimapogkcaaDoor.Grf
open Go.ChangeShapes Go.WideShapes Go.ChangeAt Go.RowKit
set_option linter.unusedVariables false
set_option maxRecDepth 100000
set_option linter.unusedSimpArgs false
/-- An append of one link, as a step of a region that draws its order. -/
theorem step_one {wr : World} {ops : Array Oper} {o : Oper} {a : Act} {K : Act → World → Prop} {Q : Exit → Act → World → Prop} {E : Prop} (hgd : o.guard = none) (s x : Operand)
    (ho : o.op = .call { callee := .builtin .append, args := #[s, x], argTypes := #[22, 22] }) (base : Nat) (v : Value) (L : List Pr) (hs : a.eval s = v) (hown : OwnG wr base v L)
    (p q : Int) (hx : a.eval x = .slice (some ⟨wr.heap.size, 0, none⟩) 1 1) (hl : L.length < 1099511627776) (hbase : base ≤ wr.heap.size)
    (h : ∀ v' w', OwnG w' base v' (L ++ [(p, q)]) → Below base wr w' → (∀ k, k < wr.heap.size → some k ≠ v.ownBlock → w'.heap[k]? = wr.heap[k]?) → K (a.put o.dst v') w') :
    if Region.wanted o (yielded ops a.tmps) = true then Oper.wp Tryd.prog o a (wr.alloc (.cells #[.int .i64 p, .int .i64 q] 55)).drew K Q else E := by
  obtain ⟨i0, hi, hz0, hz1, hz2⟩ := info_parts infoPr
  have hd : World.ownsRow (wr.alloc (.cells #[.int .i64 p, .int .i64 q] 55)).drew base 55 2 v L.length (L.flatMap enc) := World.ownsRow.alloc hown _
  refine Rw.step_append2 _ hgd s x 22 ho base 55 i0 (.agg #[.int .i64 0, .int .i64 0]) 2 16 Tryd.underlying22 hi hz0 hz1 hz2 rfl (by decide) v L.length (L.flatMap enc) hs hd (some ⟨wr.heap.size, 0, none⟩) 1 1 (enc (p, q)) hx rfl (fun e => by cases e) (fun ad e => by cases e; exact tmp_cells wr p q _) (by simp [enc, Value.oneCell']) (by unfold maxLen; omega) (by omega) (by show base ≤ (wr.alloc _).heap.size; rw [World.size_alloc]; omega) ?_
  intro v' w1 hown' hgrow _
  have hgrow' : (wr.alloc (.cells #[.int .i64 p, .int .i64 q] 55)).grownBy w1 v.ownBlock := ⟨hgrow.os, hgrow.tape, hgrow.output, hgrow.size, hgrow.block⟩
  refine h v' w1 (Rw.OwnS.snoc enc_len hown') (Own.below_append hown hbase hgrow') (fun k hk hne => ?_)
  exact (hgrow'.block k (by rw [World.size_alloc]; omega) hne).trans (Below.heap_alloc wr _ k hk)
def off (zs : List Int) (p : Pr) : Bool := !decide (p.1 ∈ zs) && !decide (p.2 ∈ zs)
theorem offL_eq (zs : List Int) (L : List Pr) : offL zs L = L.filter (off zs) := rfl
theorem off_snoc (zs : List Int) (m : Nat) (hm : m < zs.length) (p : Pr) : off (zs.take (m + 1)) p = (off (zs.take m) p && (!(p.1 == zs.getD m 0) && !(p.2 == zs.getD m 0))) := by
  unfold off
  rw [Nodes.take_succ' hm]
  rw [Bool.eq_iff_iff]
  simp only [List.mem_append, List.mem_singleton, Bool.and_eq_true, Bool.not_eq_true', decide_eq_false_iff_not, not_or, beq_eq_false_iff_ne]
  exact ⟨fun h => ⟨⟨h.1.1, h.2.1⟩, h.1.2, h.2.2⟩, fun h => ⟨⟨h.1.1, h.2.1⟩, h.1.2, h.2.2⟩⟩
/-- The document's graph while links are left out. -/
structure RU (w : World) (xb rb gb base n : Nat) (u v : Value) (L : List Pr) (W : World) : Prop where
  rs : RS w rb gb base n v L W
  src : Rw.Blk W xb 27 #[.int .i64 (n : Int), u]
  ne1 : xb ≠ rb
  ne2 : xb ≠ gb
theorem RU.step {w W V : World} {xb rb gb base n : Nat} {u v : Value} {L : List Pr} (h : RU w xb rb gb base n u v L W) (hB : Below W.heap.size W V) : RU w xb rb gb base n u v L V :=
  ⟨h.rs.step hB, h.src.below hB, h.ne1, h.ne2⟩
def RWPost (n : Nat) (M : List Pr) (w : World) (e : Ending) (w' : World) : Prop :=
  ∃ ad cap, e = .returned (gval (n : Int) (.slice ad M.length cap)) ∧ RdG w' ad M ∧ Below w.heap.size w w'
end Go.Proofs.YtbgigimapogkcaaDoor.Grf
