/- Contracts of the document's own answers for layer 17: the nodes that are near; how wide a graph is. -/
import Derived.Test.YtbgigimapogkcaaDoorReaF
import Derived.Deep.CutRange
namespace Go.Proofs.YtbgigimapogkcaaDoor.Rea
open Go.ChangeShapes Go.WideShapes Go.ChangeAt Go.RowKit
open Grf (Pr lk RdG gval gbox)
open Nodes (Rd OwnL ofL setP)
set_option linter.unusedVariables false
set_option maxRecDepth 100000
def pickB (zs : List Int) (most : Int) (all : Bool) (x : Nat) : Bool := decide (0 ≤ zs.getD x 0) && (all || decide (zs.getD x 0 ≤ most))
def pickL (zs : List Int) (most : Int) (all : Bool) (k : Nat) : List Int := ((List.range k).filter (pickB zs most all)).map fun x : Nat => (x : Int)
theorem pick_hit {zs : List Int} {most : Int} {all : Bool} {k : Nat} (h : pickB zs most all k = true) : pickL zs most all (k + 1) = pickL zs most all k ++ [(k : Int)] := by simp [pickL, List.range_succ, h]
theorem pick_miss {zs : List Int} {most : Int} {all : Bool} {k : Nat} (h : pickB zs most all k = false) : pickL zs most all (k + 1) = pickL zs most all k := by simp [pickL, List.range_succ, h]
theorem pick_len (zs : List Int) (most : Int) (all : Bool) (k : Nat) : (pickL zs most all k).length ≤ k := by
  rw [pickL, List.length_map]
  have := List.length_filter_le (pickB zs most all) (List.range k)
  rwa [List.length_range] at this
theorem pick_of {n S : Nat} {L : List Pr} {i : Nat} (hn : n ≤ 64) (most : Int) (all : Bool) : ofL (pickL (dstL n S L i) most all n) = if all then fromN n S L i else ballN n S L i most := by
  have key : ∀ j : Nat, j < 64 → (decide ((j : Int) ∈ pickL (dstL n S L i) most all n) = true ↔ (0 ≤ dst n S L i j ∧ (all = true ∨ dst n S L i j ≤ most))) := fun j hj => by
    rw [decide_eq_true_iff, pickL, List.mem_map]
    constructor
    · rintro ⟨x, hx, e⟩
      obtain rfl : x = j := by omega
      obtain ⟨h1, h2⟩ := List.mem_filter.1 hx
      rw [pickB, dstL_at (List.mem_range.1 h1)] at h2
      simpa using h2
    · rintro ⟨h1, h2⟩
      have hjn := here_lt (dst_here h1).1
      exact ⟨j, List.mem_filter.2 ⟨List.mem_range.2 hjn, by rw [pickB, dstL_at hjn]; simpa using ⟨h1, h2⟩⟩, rfl⟩
  cases all with
  | true =>
    rw [if_pos rfl]
    refine Nodes.setP_congr fun j hj => ?_
    rw [Bool.eq_iff_iff, key j hj]
    simp
  | false =>
    rw [if_neg (by simp)]
    refine Nodes.setP_congr fun j hj => ?_
    rw [Bool.eq_iff_iff, key j hj]
    simp
end Go.Proofs.YtbgigimapogkcaaDoor.Rea
