/- Contracts of the document's own answers for layer nodes (3): the list of a set; the numbers below one. -/
import Derived.Test.YtkcjllkhmncfdaaDoorNodesB
import Derived.Test.YtkcjllkhmncfdaaDoorOwnA
import Derived.Maps.AppendAt
namespace Go.Proofs.YtkcjllkhmncfdaaDoor.Nodes
open Go.ChangeShapes Go.WideShapes Go.ChangeAt Go.RowKit
set_option linter.unusedVariables false

theorem infoInt : (Tryd.prog.info? 3).map (fun i => (i.zero, i.size, i.bytes)) = some (some (.int .i64 0), 1, 8) := by kernel_rfl

/-- A slice of integers of the call's own. -/
def OwnL (W : World) (base : Nat) (v : Value) (zs : List Int) : Prop := W.ownsRow base 3 1 v zs.length (zs.map (Value.int .i64))
theorem OwnL.rd {W : World} {base n cap : Nat} {ad : Option Addr} {zs : List Int} (h : OwnL W base (.slice ad n cap) zs) : Rd W ad zs ∧ n = zs.length := by
  have h' := h
  rcases h'.2 with ⟨hv, hz⟩ | ⟨g, cap', cur, hv, _⟩
  · cases hv
    exact ⟨.inl (List.eq_nil_of_length_eq_zero hz), hz.symm⟩
  · simp only [Value.slice.injEq] at hv
    obtain ⟨rfl, rfl, rfl⟩ := hv
    refine ⟨.inr ⟨g, 0, rfl, fun i hi => ?_⟩, rfl⟩
    have := World.ownsRow.cellAt h i (by omega)
    rw [Nat.zero_add, this]
    simp [hi]
theorem OwnL.alloc {W : World} {base : Nat} {v : Value} {zs : List Int} (h : OwnL W base v zs) (o : Obj) : OwnL (W.alloc o) base v zs := World.ownsRow.alloc h o
theorem OwnL.snoc {W : World} {base : Nat} {v : Value} {zs : List Int} {x : Int} (h : W.ownsRow base 3 1 v (zs.length + 1) (zs.map (Value.int .i64) ++ [.int .i64 x])) : OwnL W base v (zs ++ [x]) := by
  unfold OwnL
  rw [List.length_append, List.map_append]
  exact h
/-- What a call leaves that hands back a list. -/
def ListPost (zs : List Int) (w : World) (e : Ending) (w' : World) : Prop :=
  ∃ ad cap, e = .returned (.slice ad zs.length cap) ∧ OwnL w' w.heap.size (.slice ad zs.length cap) zs ∧ Below w.heap.size w w'

def upI (S k : Nat) : List Int := ((List.range k).filter fun j => S.testBit j).map fun j : Nat => (j : Int)
theorem upI_len (S k : Nat) : (upI S k).length ≤ k := by
  rw [upI, List.length_map]
  have := List.length_filter_le (fun j => S.testBit j) (List.range k)
  rwa [List.length_range] at this
theorem upI_hit {S k : Nat} (h : S.testBit k = true) : upI S (k + 1) = upI S k ++ [(k : Int)] := by
  simp [upI, List.range_succ, h]
theorem upI_miss {S k : Nat} (h : S.testBit k = false) : upI S (k + 1) = upI S k := by
  simp [upI, List.range_succ, h]

theorem Rd.lt {w : World} {b off : Nat} {zs : List Int} (hc : ∀ i, i < zs.length → w.cell? ⟨b, off + i, none⟩ = some (.int .i64 (zs.getD i 0))) (h0 : 0 < zs.length) : b < w.heap.size := by
  have h := hc 0 h0
  by_cases hb : b < w.heap.size
  · exact hb
  · rw [World.cell?, Array.getElem?_eq_none (show w.heap.size ≤ b by omega)] at h
    simp at h
theorem Rd.below {w w' : World} {ad : Option Addr} {zs : List Int} (h : Rd w ad zs) (hb : Below w.heap.size w w') : Rd w' ad zs := by
  rcases h with h | ⟨b, off, e, hc⟩
  · exact .inl h
  · by_cases h0 : 0 < zs.length
    · exact .inr ⟨b, off, e, fun i hi => (hb.cell (p := ⟨b, off + i, none⟩) (Rd.lt hc h0)).trans (hc i hi)⟩
    · exact .inl (List.eq_nil_of_length_eq_zero (by omega))
theorem Rd.cells {w : World} {ad : Option Addr} {zs : List Int} (h : Rd w ad zs) : ∀ a', ad = some a' → ∀ j u, (zs.map (Value.int .i64))[j]? = some u → w.cell? (a'.add j) = some u := by
  intro a' ha j u hj
  rcases h with h' | ⟨b, off, e, hc⟩
  · rw [h'] at hj; simp at hj
  · obtain rfl : a' = ⟨b, off, none⟩ := by rw [ha] at e; exact Option.some.inj e
    rw [List.getElem?_map] at hj
    obtain ⟨y, hy, rfl⟩ := Option.map_eq_some_iff.1 hj
    have hjl : j < zs.length := (List.getElem?_eq_some_iff.1 hy).1
    have := hc j hjl
    rw [Addr.add_lit, this]
    simp [List.getD, hy]
theorem OwnL.pos {W : World} {base n cap : Nat} {ad : Option Addr} {zs : List Int} (h : OwnL W base (.slice ad n cap) zs) : zs.length ≤ cap ∧ cap ≤ maxLen ∧ (0 < cap → ∃ g, ad = some ⟨g, 0, none⟩ ∧ base ≤ g ∧ g < W.heap.size) := by
  have h' := h
  rcases h'.2 with ⟨hv, hz⟩ | ⟨g, cap', cur, hv, hb, hg, hn, hm, _⟩
  · cases hv
    exact ⟨by omega, by unfold maxLen; omega, fun h => absurd h (by omega)⟩
  · simp only [Value.slice.injEq] at hv
    obtain ⟨rfl, rfl, rfl⟩ := hv
    exact ⟨hn, hm, fun _ => ⟨g, rfl, hb, (Array.getElem?_eq_some_iff.1 hg).1⟩⟩

/-! The numbers below one, 100 at most. -/
def upK (z : Int) : Nat := min z.toNat 100
end Go.Proofs.YtkcjllkhmncfdaaDoor.Nodes
