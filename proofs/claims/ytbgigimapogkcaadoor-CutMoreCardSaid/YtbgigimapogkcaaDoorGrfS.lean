/- Contracts of the document's own answers for layer 16: all links; whom one is linked with. -/
import Derived.Test.YtbgigimapogkcaaDoorGrfR
import Derived.Test.YtbgigimapogkcaaDoorNodesD
namespace Go.Proofs.YtbgigimapogkcaaDoor.Grf
open Go.ChangeShapes Go.WideShapes Go.ChangeAt Go.RowKit
set_option linter.unusedVariables false
set_option maxRecDepth 100000
def lkN (L : List Pr) (a b : Nat) : Bool := lk L (a : Int) (b : Int)
theorem linksL_eq (n : Nat) (L : List Pr) : linksL n L = allU (lkN L) n n := rfl
set_option maxHeartbeats 4000000 in
theorem rnear_any (n : Nat) (hn64 : n ≤ 64) (ad : Option Addr) (len cap : Nat) (L : List Pr) (z : Int) (w : World) (hlen : L.length = len) (hm : len < 9223372036854775807) (hr : RdG w ad L) :
    Calls Tryd.prog 20 #[gval (n : Int) (.slice ad len cap), .int .i64 z] w (Nodes.ListPost (nearL n L z) w) := by
  obtain ⟨i0, hi, hz0, hz1, hz2⟩ := info_parts Nodes.infoInt
  obtain ⟨w0, hw0⟩ : ∃ w0, Hid (w0 = w.alloc (.cells #[.int .i64 (n : Int), .slice ad len cap] 27)) := ⟨_, Lib.hid rfl⟩
  obtain ⟨hB0, hs0, hb0⟩ := gbox w w0 n _ hw0.out
  have HR := Lib.hid (hr.below hB0)
  have HB := Lib.hid hB0
  have HBX := Lib.hid (fun W (hB : Below w0.heap.size w0 W) => And.intro ((hb0.below hB).cell 0) ((hb0.below hB).cell 1))
  have CK := Lib.hid (fun (y : Nat) W (hB : Below w0.heap.size w0 W) => rlinked_any (n : Int) ad len cap L z (y : Int) W hlen hm (HR.out.below hB))
  have HO : Hid (Nodes.OwnL (w0.alloc (.cells #[] 3)) w0.heap.size (.slice (some ⟨w0.heap.size, 0, none⟩) 0 0) []) := Lib.hid (World.ownsRow_lit (size := 1) w0 #[] 0 (Nat.le_refl _) (by unfold maxLen; omega) rfl)
  have HB1 : Hid (Below w0.heap.size w0 (w0.alloc (.cells #[] 3))) := Lib.hid ((Below.refl _ _).alloc (Nat.le_refl _) _)
  simp only [List.getElem?_toArray, List.getElem?_cons_zero, List.getElem?_cons_succ] at HBX
  clear hlen hr hB0 hs0 hb0
  unfold gval at *
  go_enter Tryd.func20, Tryd.ntmps20
  go_upto_region 1 with fail
  rw [← hw0.out]
  go_wp2_with fail
  go_loopw [5, 6] (fun v i wr => ∃ k : Nat, k ≤ n ∧ i = .int .i64 k ∧ Nodes.OwnL wr w0.heap.size v (nearL k L z) ∧ Below w0.heap.size w0 wr) (fun _ i _ => n - (intOf i).toNat)
  case atStart => exact ⟨0, Nat.zero_le _, rfl, HO.out, HB1.out⟩
  case round =>
    obtain ⟨k, hk, rfl, hown, hB⟩ := hrel
    obtain ⟨c0, c1⟩ := HBX.out wr hB
    by_cases hlt : k < n
    · have CKK := Lib.hid (CK.out k _ hB)
      have hsz := hB.size
      have hul := nearL_len k L z
      cases hq : lk L z (k : Int) with
      | true =>
        have HS := Lib.hid (nearL_hit hq)
        rw [hq] at CKK
        clear hq
        go_wp2_with fail
        refine (CKK.out).mono ?_; rintro e w3 ⟨rfl, hB3⟩
        have hown3 : Nodes.OwnL w3 w0.heap.size _ (nearL k L z) := World.ownsRow.kept hown (row := Option.none) ⟨hB3.os, hB3.tape, hB3.output, hB3.size, fun j hj _ => hB3.block j hj⟩ (by cases hv : Value.ownBlock _ <;> simp)
        have hB03 := hB.trans (hB3.mono hsz)
        have hsz3 := hB03.size
        clear hown hB3 c0 c1 CKK hB
        go_wp2_with (at_builtin; refine Own.wpList_append2 _ rfl _ _ 51 rfl w0.heap.size 3 i0 (.int .i64 0) 1 8 Tryd.underlying51 hi hz0 hz1 hz2 rfl (by decide) _ _ _ rfl (World.ownsRow.alloc hown3 _) ⟨w3.heap.size, 0, none⟩ 1 1 [.int .i64 k] rfl rfl (cell_one_new _ _ _) (by simp [Value.oneCell']) (by unfold maxLen; omega) (by omega) (by simp; omega) ?_; intro v' w4 hown' hgrow _ _)
        have hB4 := hB03.trans (Own.below_append hown3 hsz3 hgrow)
        go_roundw
        case rel => exact ⟨k + 1, by omega, by go_num, by rw [HS.out]; exact Nodes.OwnL.snoc hown', hB4⟩
        case measure => simp [intOf]; omega
      | false =>
        have HS := Lib.hid (nearL_miss hq)
        rw [hq] at CKK
        clear hq
        go_wp2_with fail
        refine (CKK.out).mono ?_; rintro e w3 ⟨rfl, hB3⟩
        have hown3 : Nodes.OwnL w3 w0.heap.size _ (nearL k L z) := World.ownsRow.kept hown (row := Option.none) ⟨hB3.os, hB3.tape, hB3.output, hB3.size, fun j hj _ => hB3.block j hj⟩ (by cases hv : Value.ownBlock _ <;> simp)
        have hB03 := hB.trans (hB3.mono hsz)
        clear hown hB3 c0 c1 CKK hB
        go_wp2_with fail
        go_roundw
        case rel => exact ⟨k + 1, by omega, by go_num, by rw [HS.out]; exact hown3, hB03⟩
        case measure => simp [intOf]; omega
    · obtain rfl : k = n := by omega
      obtain ⟨ad', cap', rfl, -⟩ := Own.shape hown
      have HP : Hid (Nodes.ListPost (nearL k L z) w (.returned (.slice ad' (nearL k L z).length cap')) wr) := Lib.hid ⟨ad', cap', rfl, Own.mono hown HB.out.size, HB.out.trans (hB.mono HB.out.size)⟩
      clear hown hB
      go_wp2_with fail
      go_ret
      exact HP.out
end Go.Proofs.YtbgigimapogkcaaDoor.Grf
