/- A head is read (layer 9): get, Get. -/
import Derived.Test.YtidfdlpdacbkoaaHedL
import Derived.Deep.RegionWith
import Derived.Deep.Cut
namespace Go.Proofs.Ytidfdlpdacbkoaa.Hed
open Go.ChangeShapes Go.WideShapes Go.ChangeAt Go.RowKit Go.Deep
open Go.Proofs.Ytidfdlpdacbkoaa.Byt Go.Proofs.Ytidfdlpdacbkoaa.Key Go.Proofs.Ytidfdlpdacbkoaa.Buf Go.Proofs.Ytidfdlpdacbkoaa.BufM
set_option linter.unusedVariables false
set_option linter.unusedSimpArgs false
/-- The cells of a packet with a head alone. -/
abbrev hcs (k t f q h : Int) : Array Value := #[.int .i64 k, .int .i64 t, .int .i64 f, .int .u32 q, .int .i64 h, .int .i64 0, .int .i64 0, .int .i64 0, .int .i64 0, .int .i64 0, .int .i64 0, .slice none 0 0]
theorem hcs_one (k t f q h : Int) : (hcs k t f q h).all (·.oneCell') = true := by simp [Value.oneCell']
theorem hcs_val (k h t f q : Nat) : pval (hpk k h t f q) = .agg (hcs k t f q h) := rfl
theorem GS.load {w W : World} {g bp : Nat} {s : St} {k t f q h : Int} (hg : GS w g bp (hcs k t f q h) s W) :
    W.cell? ⟨bp, 0, none⟩ = some (.int .i64 k) ∧ W.cell? ⟨bp, 1, none⟩ = some (.int .i64 t) ∧ W.cell? ⟨bp, 2, none⟩ = some (.int .i64 f) ∧ W.cell? ⟨bp, 3, none⟩ = some (.int .u32 q) ∧ W.cell? ⟨bp, 4, none⟩ = some (.int .i64 h) ∧
    W.frozen? ⟨bp, 0, none⟩ = false ∧ W.frozen? ⟨bp, 1, none⟩ = false ∧ W.frozen? ⟨bp, 2, none⟩ = false ∧ W.frozen? ⟨bp, 3, none⟩ = false ∧ W.frozen? ⟨bp, 4, none⟩ = false :=
  ⟨hg.box.cell 0, hg.box.cell 1, hg.box.cell 2, hg.box.cell 3, hg.box.cell 4, hg.box.free 0, hg.box.free 1, hg.box.free 2, hg.box.free 3, hg.box.free 4⟩
theorem GS.all {w W : World} {g bp : Nat} {s : St} {k t f q h : Int} (hg : GS w g bp (hcs k t f q h) s W) :
    (W.cell? ⟨bp, 0, none⟩ = some (.int .i64 k) ∧ W.cell? ⟨bp, 1, none⟩ = some (.int .i64 t) ∧ W.cell? ⟨bp, 2, none⟩ = some (.int .i64 f) ∧ W.cell? ⟨bp, 3, none⟩ = some (.int .u32 q) ∧ W.cell? ⟨bp, 4, none⟩ = some (.int .i64 h) ∧ W.cell? ⟨bp, 5, none⟩ = some (.int .i64 0) ∧
      W.cell? ⟨bp, 6, none⟩ = some (.int .i64 0) ∧ W.cell? ⟨bp, 7, none⟩ = some (.int .i64 0) ∧ W.cell? ⟨bp, 8, none⟩ = some (.int .i64 0) ∧ W.cell? ⟨bp, 9, none⟩ = some (.int .i64 0) ∧ W.cell? ⟨bp, 10, none⟩ = some (.int .i64 0) ∧ W.cell? ⟨bp, 11, none⟩ = some (.slice none 0 0)) ∧
    W.frozen? ⟨bp, 0, none⟩ = false ∧ W.frozen? ⟨bp, 1, none⟩ = false ∧ W.frozen? ⟨bp, 2, none⟩ = false ∧ W.frozen? ⟨bp, 3, none⟩ = false ∧ W.frozen? ⟨bp, 4, none⟩ = false ∧ W.frozen? ⟨bp, 5, none⟩ = false ∧ W.frozen? ⟨bp, 6, none⟩ = false ∧ W.frozen? ⟨bp, 7, none⟩ = false ∧ W.frozen? ⟨bp, 8, none⟩ = false ∧ W.frozen? ⟨bp, 9, none⟩ = false ∧ W.frozen? ⟨bp, 10, none⟩ = false ∧ W.frozen? ⟨bp, 11, none⟩ = false :=
  ⟨⟨hg.box.cell 0, hg.box.cell 1, hg.box.cell 2, hg.box.cell 3, hg.box.cell 4, hg.box.cell 5, hg.box.cell 6, hg.box.cell 7, hg.box.cell 8, hg.box.cell 9, hg.box.cell 10, hg.box.cell 11⟩, hg.box.free 0, hg.box.free 1, hg.box.free 2, hg.box.free 3, hg.box.free 4, hg.box.free 5, hg.box.free 6, hg.box.free 7, hg.box.free 8, hg.box.free 9, hg.box.free 10, hg.box.free 11⟩
theorem GS.same {w W : World} {g bp : Nat} {cs : Array Value} {s : St} (h : GS w g bp cs s W) (i : Nat) (u : Value) (hi : cs[i]? = some u) : GS w g bp cs s (W.setCell ⟨bp, i, none⟩ u) := by
  have h2 := h.put i u
  have e : cs.setIfInBounds i u = cs := by
    apply Array.ext_getElem?
    intro j
    rw [Array.getElem?_setIfInBounds]
    split
    · subst ‹i = j›
      split
      · exact hi.symm
      · rw [Array.getElem?_eq_none (by omega)]
    · rfl
  rwa [e] at h2
/-- All twelve cells stored anew. -/
theorem GS.put12 {w W : World} {g bp : Nat} {s : St} {k t f q h : Int} (hg : GS w g bp (hcs k t f q h) s W) :
    GS w g bp (hcs k t f q h) s ((((((((((((W.setCell ⟨bp, 0, none⟩ (.int .i64 k)).setCell ⟨bp, 1, none⟩ (.int .i64 t)).setCell ⟨bp, 2, none⟩ (.int .i64 f)).setCell ⟨bp, 3, none⟩ (.int .u32 q)).setCell ⟨bp, 4, none⟩ (.int .i64 h)).setCell ⟨bp, 5, none⟩ (.int .i64 0)).setCell ⟨bp, 6, none⟩ (.int .i64 0)).setCell ⟨bp, 7, none⟩ (.int .i64 0)).setCell ⟨bp, 8, none⟩ (.int .i64 0)).setCell ⟨bp, 9, none⟩ (.int .i64 0)).setCell ⟨bp, 10, none⟩ (.int .i64 0)).setCell ⟨bp, 11, none⟩ (.slice none 0 0)) :=
  (((((((((((hg.same 0 _ rfl).same 1 _ rfl).same 2 _ rfl).same 3 _ rfl).same 4 _ rfl).same 5 _ rfl).same 6 _ rfl).same 7 _ rfl).same 8 _ rfl).same 9 _ rfl).same 10 _ rfl).same 11 _ rfl
end Go.Proofs.Ytidfdlpdacbkoaa.Hed
