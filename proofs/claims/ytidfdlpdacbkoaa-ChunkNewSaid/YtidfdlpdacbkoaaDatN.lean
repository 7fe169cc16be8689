/- Two packets made of the same bytes, while the bytes are turned (layer 10: the law of New). -/
import Derived.Test.YtidfdlpdacbkoaaDatM
import Derived.Test.YtidfdlpdacbkoaaDatC
namespace Go.Proofs.Ytidfdlpdacbkoaa.Dat
open Go.ChangeShapes Go.WideShapes Go.ChangeAt Go.RowKit
open Go.Proofs.Ytidfdlpdacbkoaa.Byt Go.Proofs.Ytidfdlpdacbkoaa.Key Go.Proofs.Ytidfdlpdacbkoaa.Buf Go.Proofs.Ytidfdlpdacbkoaa.Hed
set_option linter.unusedVariables false
set_option linter.unusedSimpArgs false
/-- Bytes of the call's own, each of which may be turned. -/
def Row8 (w : World) (g n : Nat) : Prop := ∃ cur, Blk w g 5 cur ∧ ∀ i, i < n → ∃ x : Nat, x < 256 ∧ cur[i]? = some (.int .u8 (x : Int))
theorem Row8.put {w : World} {g n : Nat} (h : Row8 w g n) (k : Nat) (x : Nat) (hx : x < 256) : Row8 (w.setCell ⟨g, k, none⟩ (.int .u8 (x : Int))) g n := by
  obtain ⟨cur, hb, hc⟩ := h
  refine ⟨_, hb.put k _, fun i hi => ?_⟩
  by_cases he : k = i
  · subst he
    obtain ⟨y, _, hy⟩ := hc k hi
    rw [Array.getElem?_setIfInBounds_self_of_lt (Array.getElem?_eq_some_iff.1 hy).1]
    exact ⟨x, hx, rfl⟩
  · rw [Array.getElem?_setIfInBounds_ne he]
    exact hc i hi
theorem Row8.below {w w' : World} {g n : Nat} (h : Row8 w g n) (hB : Below w.heap.size w w') : Row8 w' g n := by
  obtain ⟨cur, hb, hc⟩ := h
  exact ⟨cur, hb.below hB, hc⟩
theorem Row8.of_own {w : World} {base n cap : Nat} {ad : Option Addr} {l : List UInt8} (h : OwnB w base (.slice ad n cap) l) (h0 : 0 < n) : ∃ g, ad = some ⟨g, 0, none⟩ ∧ base ≤ g ∧ g < w.heap.size ∧ Row8 w g n := by
  obtain rfl : n = l.length := h.rd.2
  rcases h.2 with ⟨hv, hz⟩ | ⟨g, cap', cur, hv, hb, hg, hn, hm, hs, ht⟩
  · omega
  · simp only [Value.slice.injEq] at hv
    obtain ⟨rfl, _, rfl⟩ := hv
    refine ⟨g, rfl, hb, (Array.getElem?_eq_some_iff.1 hg).1, cur, hg, fun i hi => ?_⟩
    refine ⟨(l.getD i 0).toNat, (l.getD i 0).toNat_lt, ?_⟩
    have h1 : (cur.toList.take (l.length * 1))[i]? = (bvs l)[i]? := by rw [ht]
    rw [Nat.mul_one, List.getElem?_take_of_lt hi, Array.getElem?_toList] at h1
    rw [h1]
    simp [bvs, bv, hi]
theorem far_of {B : Nat} {w1 w4 : World} {ad : Option Addr} {n cap base : Nat} {l : List UInt8} (h : l = [] ∨ OwnB w4 base (.slice ad n cap) l) (hB : Below B w1 w4) (hb : B ≤ base) : l = [] ∨ ∀ b o, ad = some ⟨b, o, none⟩ → B ≤ b := by
  rcases h with h | h
  · exact .inl h
  · refine .inr fun b o e => Nat.le_trans hb ?_
    exact (own_at h (k := b) (by rw [e]; rfl)).1
/-- Twelve cells written above B. -/
theorem below12 {w W : World} {B g : Nat} (h : Below B w W) (hg : B ≤ g) (v0 v1 v2 v3 v4 v5 v6 v7 v8 v9 v10 v11 : Value) : Below B w ((((((((((((W.setCell ⟨g, 0, none⟩ v0).setCell ⟨g, 1, none⟩ v1).setCell ⟨g, 2, none⟩ v2).setCell ⟨g, 3, none⟩ v3).setCell ⟨g, 4, none⟩ v4).setCell ⟨g, 5, none⟩ v5).setCell ⟨g, 6, none⟩ v6).setCell ⟨g, 7, none⟩ v7).setCell ⟨g, 8, none⟩ v8).setCell ⟨g, 9, none⟩ v9).setCell ⟨g, 10, none⟩ v10).setCell ⟨g, 11, none⟩ v11) := by
  have h := h.setCell (p := ⟨g, 0, none⟩) hg v0
  have h := h.setCell (p := ⟨g, 1, none⟩) hg v1
  have h := h.setCell (p := ⟨g, 2, none⟩) hg v2
  have h := h.setCell (p := ⟨g, 3, none⟩) hg v3
  have h := h.setCell (p := ⟨g, 4, none⟩) hg v4
  have h := h.setCell (p := ⟨g, 5, none⟩) hg v5
  have h := h.setCell (p := ⟨g, 6, none⟩) hg v6
  have h := h.setCell (p := ⟨g, 7, none⟩) hg v7
  have h := h.setCell (p := ⟨g, 8, none⟩) hg v8
  have h := h.setCell (p := ⟨g, 9, none⟩) hg v9
  have h := h.setCell (p := ⟨g, 10, none⟩) hg v10
  have h := h.setCell (p := ⟨g, 11, none⟩) hg v11
  exact h
/-- Two packets' boxes, whose bytes lie elsewhere than in block gi. -/
structure NewS (w : World) (gi bw bp : Nat) (k : Ky) (adw adp : Option Addr) (capw capp : Nat) (xs : List UInt8) (W : World) : Prop where
  below : Below w.heap.size w W
  boxw : Blk W bw 27 (mk4 k 1 adw capw xs).cells
  boxp : Blk W bp 27 (mk4 k 1 adp capp xs).cells
  rdw : RdB W adw xs
  rdp : RdB W adp xs
  ge : w.heap.size ≤ gi
  new : gi ≠ bw
  nep : gi ≠ bp
  farw : xs ≠ [] → ∀ b o, adw = some ⟨b, o, none⟩ → gi ≠ b
  farp : xs ≠ [] → ∀ b o, adp = some ⟨b, o, none⟩ → gi ≠ b
theorem NewS.put {w : World} {gi bw bp : Nat} {k : Ky} {adw adp : Option Addr} {capw capp : Nat} {xs : List UInt8} {W : World} (h : NewS w gi bw bp k adw adp capw capp xs W) (i : Nat) (v : Value) : NewS w gi bw bp k adw adp capw capp xs (W.setCell ⟨gi, i, none⟩ v) := by
  have hk : ∀ b, b ≠ gi → (W.setCell ⟨gi, i, none⟩ v).heap[b]? = W.heap[b]? := fun b hb => heap_setCell_other _ _ _ _ hb
  exact ⟨h.below.setCell (p := ⟨gi, i, none⟩) h.ge v, (hk _ (Ne.symm h.new)).trans h.boxw, (hk _ (Ne.symm h.nep)).trans h.boxp, rd_kept h.rdw fun hne b o e _ => hk b (Ne.symm (h.farw hne b o e)), rd_kept h.rdp fun hne b o e _ => hk b (Ne.symm (h.farp hne b o e)), h.ge, h.new, h.nep, h.farw, h.farp⟩
theorem NewS.kept {w : World} {gi bw bp : Nat} {k : Ky} {adw adp : Option Addr} {capw capp : Nat} {xs : List UInt8} {W V : World} (h : NewS w gi bw bp k adw adp capw capp xs W) (hB : Below W.heap.size W V) : NewS w gi bw bp k adw adp capw capp xs V :=
  ⟨h.below.trans (hB.mono h.below.size), h.boxw.below hB, h.boxp.below hB, h.rdw.below hB, h.rdp.below hB, h.ge, h.new, h.nep, h.farw, h.farp⟩
/-- The same beside the bytes that are turned. -/
structure NewT (w : World) (gi bw bp : Nat) (k : Ky) (adw adp : Option Addr) (capw capp : Nat) (xs : List UInt8) (ad : Option Addr) (n : Nat) (W : World) : Prop where
  ns : NewS w gi bw bp k adw adp capw capp xs W
  row : 0 < n → ad = some ⟨gi, 0, none⟩ ∧ Row8 W gi n
theorem NewT.kept {w : World} {gi bw bp : Nat} {k : Ky} {adw adp ad : Option Addr} {capw capp n : Nat} {xs : List UInt8} {W V : World} (h : NewT w gi bw bp k adw adp capw capp xs ad n W) (hB : Below W.heap.size W V) : NewT w gi bw bp k adw adp capw capp xs ad n V :=
  ⟨h.ns.kept hB, fun h0 => ⟨(h.row h0).1, (h.row h0).2.below hB⟩⟩
theorem NewT.put {w : World} {gi bw bp : Nat} {k : Ky} {adw adp ad : Option Addr} {capw capp n : Nat} {xs : List UInt8} {W : World} (h : NewT w gi bw bp k adw adp capw capp xs ad n W) (i x : Nat) (hx : x < 256) : NewT w gi bw bp k adw adp capw capp xs ad n (W.setCell ⟨gi, i, none⟩ (.int .u8 (x : Int))) :=
  ⟨h.ns.put i _, fun h0 => ⟨(h.row h0).1, (h.row h0).2.put i x hx⟩⟩
theorem same_mk4 (k : Ky) (h : Int) (a a' : Option Addr) (c c' : Nat) (l : List UInt8) : eqP (mk4 k h a c l) (mk4 k h a' c' l) = true := eqP_self (mk4 k h a c l)
theorem datG_mk4 (k : Ky) (h : Int) (a a' : Option Addr) (c c' : Nat) (l : List UInt8) : datG (mk4 k h a c l) = datG (mk4 k h a' c' l) := rfl
end Go.Proofs.Ytidfdlpdacbkoaa.Dat
