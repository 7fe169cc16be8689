/- Contracts of the document's own answers for layer 16: all links; whom one is linked with. -/
import Derived.Test.YtlfkeonopdhoeaaGrfR
import Derived.Test.YtlfkeonopdhoeaaNodesD
namespace Go.Proofs.Ytlfkeonopdhoeaa.Grf
open Go.ChangeShapes Go.WideShapes Go.ChangeAt Go.RowKit
set_option linter.unusedVariables false
def lkN (L : List Pr) (a b : Nat) : Bool := lk L (a : Int) (b : Int)
theorem linksL_eq (n : Nat) (L : List Pr) : linksL n L = allU (lkN L) n n := rfl
set_option maxHeartbeats 4000000 in
theorem rlinks_any (n : Nat) (hn64 : n ≤ 64) (ad : Option Addr) (len cap : Nat) (L : List Pr) (w : World) (hlen : L.length = len) (hm : len < 9223372036854775807) (hr : RdG w ad L) :
    Calls Try.prog 31 #[gval (n : Int) (.slice ad len cap)] w (LPost (linksL n L) w) := by
  rw [linksL_eq]
  obtain ⟨w0, hw0⟩ : ∃ w0, Hid (w0 = w.alloc (.cells #[.int .i64 (n : Int), .slice ad len cap] 29)) := ⟨_, Lib.hid rfl⟩
  obtain ⟨hB0, hs0, hb0⟩ := gbox w w0 n _ hw0.out
  have HR := Lib.hid (hr.below hB0)
  have HB := Lib.hid hB0
  have HBX := Lib.hid (fun W (hB : Below w0.heap.size w0 W) => And.intro ((hb0.below hB).cell 0) ((hb0.below hB).cell 1))
  have CK := Lib.hid (fun (x y : Nat) W (hB : Below w0.heap.size w0 W) => rlinked_any (n : Int) ad len cap L (x : Int) (y : Int) W hlen hm (HR.out.below hB))
  have HO := Lib.hid (OwnG.lit0 w0)
  have HB1 : Hid (Below w0.heap.size w0 (w0.alloc (.cells #[] 35))) := Lib.hid ((Below.refl _ _).alloc (Nat.le_refl _) _)
  simp only [List.getElem?_toArray, List.getElem?_cons_zero, List.getElem?_cons_succ] at HBX
  clear hlen hr hB0 hs0 hb0
  unfold gval at *
  go_enter Try.func31, Try.ntmps31
  go_upto_region 1 with fail
  rw [← hw0.out]
  go_wp2_with fail
  go_loopw [3, 4] (fun v i wr => ∃ k : Nat, k ≤ n ∧ i = .int .i64 k ∧ OwnG wr w0.heap.size v (allU (lkN L) n k) ∧ Below w0.heap.size w0 wr) (fun _ i _ => n - (intOf i).toNat)
  case atStart => exact ⟨0, Nat.zero_le _, rfl, HO.out, HB1.out⟩
  case round =>
    obtain ⟨k, hk, rfl, hown, hB⟩ := hrel
    obtain ⟨c0, c1⟩ := HBX.out wr hB
    by_cases hlt : k < n
    · go_wp2_with fail
      go_loopw [3, 5] (fun v5 i5 wr5 => ∃ j : Nat, k + 1 ≤ j ∧ j ≤ n ∧ i5 = .int .i64 j ∧ OwnG wr5 w0.heap.size v5 (allU (lkN L) n k ++ rowU (lkN L) k (j - (k + 1))) ∧ Below w0.heap.size w0 wr5) (fun _ i5 _ => n - (intOf i5).toNat)
      case atStart => exact ⟨k + 1, Nat.le_refl _, hlt, by go_num, by rw [Nat.sub_self, rowU_zero, List.append_nil]; exact hown, hB⟩
      case round =>
        clear hown hB c0 c1
        obtain ⟨j, hj1, hj2, rfl, hown, hB⟩ := hrel
        obtain ⟨c0, c1⟩ := HBX.out _ hB
        by_cases hjn : j < n
        · have hsz := hB.size
          have CKK := Lib.hid (CK.out k j _ hB)
          have hlen : (allU (lkN L) n k ++ rowU (lkN L) k (j - (k + 1))).length < 1099511627776 := by
            rw [List.length_append]
            have h1 : (allU (lkN L) n k).length ≤ 4096 := Nat.le_trans (allU_len _ n k) (Nat.le_trans (Nat.mul_le_mul_right n hk) (Nat.mul_le_mul hn64 hn64))
            have h2 := row_len (lkN L) k (j - (k + 1))
            omega
          cases hq : lkN L k j with
          | true =>
            have HS := Lib.hid (show rowU (lkN L) k (j + 1 - (k + 1)) = rowU (lkN L) k (j - (k + 1)) ++ [((k : Int), (j : Int))] by
              rw [show j + 1 - (k + 1) = (j - (k + 1)) + 1 by omega, rowU_hit (by rw [show k + 1 + (j - (k + 1)) = j by omega]; exact hq), show k + 1 + (j - (k + 1)) = j by omega])
            rw [show lk L (k : Int) (j : Int) = true from hq] at CKK
            clear hq
            go_wp2_with fail
            refine (CKK.out).mono ?_; rintro e w3 ⟨rfl, hB3⟩
            have hown3 := hown.below hB3
            have hB03 := hB.trans (hB3.mono hsz)
            have hsz3 := hB03.size
            clear hown hB3 c0 c1 CKK hB
            go_wp2_with (at_builtin; refine app_one rfl _ _ rfl w0.heap.size _ _ rfl hown3 (k : Int) (j : Int) rfl hlen hsz3 ?_; intro v' w1 hown' hB1 _)
            go_roundw
            case rel => exact ⟨j + 1, by omega, by omega, by go_num, by rw [HS.out, ← List.append_assoc]; exact hown', hB03.trans hB1⟩
            case measure => simp [intOf]; omega
          | false =>
            have HS := Lib.hid (show rowU (lkN L) k (j + 1 - (k + 1)) = rowU (lkN L) k (j - (k + 1)) by
              rw [show j + 1 - (k + 1) = (j - (k + 1)) + 1 by omega, rowU_miss (by rw [show k + 1 + (j - (k + 1)) = j by omega]; exact hq)])
            rw [show lk L (k : Int) (j : Int) = false from hq] at CKK
            clear hq
            go_wp2_with fail
            refine (CKK.out).mono ?_; rintro e w3 ⟨rfl, hB3⟩
            have hown3 := hown.below hB3
            have hB03 := hB.trans (hB3.mono hsz)
            clear hown hB3 c0 c1 CKK hB
            go_wp2_with fail
            go_roundw
            case rel => exact ⟨j + 1, by omega, by omega, by go_num, by rw [HS.out]; exact hown3, hB03⟩
            case measure => simp [intOf]; omega
        · obtain rfl : j = n := by omega
          have HS := Lib.hid (allU_succ (lkN L) j k)
          go_wp2_with fail
          go_roundw
          case rel => exact ⟨k + 1, by omega, by go_num, by rw [HS.out]; exact hown, hB⟩
          case measure => simp [intOf]; omega
    · obtain rfl : k = n := by omega
      obtain ⟨ad', cap', rfl⟩ := hown.shape
      have HP : Hid (LPost (allU (lkN L) k k) w (.returned (.slice ad' (allU (lkN L) k k).length cap')) wr) := Lib.hid ⟨ad', cap', rfl, Rw.OwnS.mono hown HB.out.size, HB.out.trans (hB.mono HB.out.size)⟩
      clear hown hB
      go_wp2_with fail
      go_ret
      exact HP.out
set_option maxHeartbeats 4000000 in
theorem rnear_any (n : Nat) (hn64 : n ≤ 64) (ad : Option Addr) (len cap : Nat) (L : List Pr) (z : Int) (w : World) (hlen : L.length = len) (hm : len < 9223372036854775807) (hr : RdG w ad L) :
    Calls Try.prog 33 #[gval (n : Int) (.slice ad len cap), .int .i64 z] w (Nodes.ListPost (nearL n L z) w) := by
  obtain ⟨i0, hi, hz0, hz1, hz2⟩ := info_parts Nodes.infoInt
  obtain ⟨w0, hw0⟩ : ∃ w0, Hid (w0 = w.alloc (.cells #[.int .i64 (n : Int), .slice ad len cap] 29)) := ⟨_, Lib.hid rfl⟩
  obtain ⟨hB0, hs0, hb0⟩ := gbox w w0 n _ hw0.out
  have HR := Lib.hid (hr.below hB0)
  have HB := Lib.hid hB0
  have HBX := Lib.hid (fun W (hB : Below w0.heap.size w0 W) => And.intro ((hb0.below hB).cell 0) ((hb0.below hB).cell 1))
  have CK := Lib.hid (fun (y : Nat) W (hB : Below w0.heap.size w0 W) => rlinked_any (n : Int) ad len cap L z (y : Int) W hlen hm (HR.out.below hB))
  have HO : Hid (Nodes.OwnL (w0.alloc (.cells #[] 3)) w0.heap.size (.slice (some ⟨w0.heap.size, 0, none⟩) 0 0) []) := Lib.hid (World.ownsRow_lit (size := 1) w0 #[] 0 (Nat.le_refl _) (by unfold maxLen; omega) rfl)
  have HB1 : Hid (Below w0.heap.size w0 (w0.alloc (.cells #[] 3))) := Lib.hid ((Below.refl _ _).alloc (Nat.le_refl _) _)
  simp only [List.getElem?_toArray, List.getElem?_cons_zero, List.getElem?_cons_succ] at HBX
  clear hlen hr hB0 hs0 hb0
  unfold gval at *
  go_enter Try.func33, Try.ntmps33
  go_upto_region 1 with fail
  rw [← hw0.out]
  go_wp2_with fail
  go_loopw [5, 6] (fun v i wr => ∃ k : Nat, k ≤ n ∧ i = .int .i64 k ∧ Nodes.OwnL wr w0.heap.size v (nearL k L z) ∧ Below w0.heap.size w0 wr) (fun _ i _ => n - (intOf i).toNat)
  case atStart => exact ⟨0, Nat.zero_le _, rfl, HO.out, HB1.out⟩
  case round =>
    obtain ⟨k, hk, rfl, hown, hB⟩ := hrel
    obtain ⟨c0, c1⟩ := HBX.out wr hB
    by_cases hlt : k < n
    · have CKK := Lib.hid (CK.out k _ hB)
      have hsz := hB.size
      have hul := nearL_len k L z
      cases hq : lk L z (k : Int) with
      | true =>
        have HS := Lib.hid (nearL_hit hq)
        rw [hq] at CKK
        clear hq
        go_wp2_with fail
        refine (CKK.out).mono ?_; rintro e w3 ⟨rfl, hB3⟩
        have hown3 : Nodes.OwnL w3 w0.heap.size _ (nearL k L z) := World.ownsRow.kept hown (row := Option.none) ⟨hB3.os, hB3.tape, hB3.output, hB3.size, fun j hj _ => hB3.block j hj⟩ (by cases hv : Value.ownBlock _ <;> simp)
        have hB03 := hB.trans (hB3.mono hsz)
        have hsz3 := hB03.size
        clear hown hB3 c0 c1 CKK hB
        go_wp2_with (at_builtin; refine Own.wpList_append2 _ rfl _ _ 43 rfl w0.heap.size 3 i0 (.int .i64 0) 1 8 Try.underlying43 hi hz0 hz1 hz2 rfl (by decide) _ _ _ rfl (World.ownsRow.alloc hown3 _) ⟨w3.heap.size, 0, none⟩ 1 1 [.int .i64 k] rfl rfl (cell_one_new _ _ _) (by simp [Value.oneCell']) (by unfold maxLen; omega) (by omega) (by simp; omega) ?_; intro v' w4 hown' hgrow _ _)
        have hB4 := hB03.trans (Own.below_append hown3 hsz3 hgrow)
        go_roundw
        case rel => exact ⟨k + 1, by omega, by go_num, by rw [HS.out]; exact Nodes.OwnL.snoc hown', hB4⟩
        case measure => simp [intOf]; omega
      | false =>
        have HS := Lib.hid (nearL_miss hq)
        rw [hq] at CKK
        clear hq
        go_wp2_with fail
        refine (CKK.out).mono ?_; rintro e w3 ⟨rfl, hB3⟩
        have hown3 : Nodes.OwnL w3 w0.heap.size _ (nearL k L z) := World.ownsRow.kept hown (row := Option.none) ⟨hB3.os, hB3.tape, hB3.output, hB3.size, fun j hj _ => hB3.block j hj⟩ (by cases hv : Value.ownBlock _ <;> simp)
        have hB03 := hB.trans (hB3.mono hsz)
        clear hown hB3 c0 c1 CKK hB
        go_wp2_with fail
        go_roundw
        case rel => exact ⟨k + 1, by omega, by go_num, by rw [HS.out]; exact hown3, hB03⟩
        case measure => simp [intOf]; omega
    · obtain rfl : k = n := by omega
      obtain ⟨ad', cap', rfl, -⟩ := Own.shape hown
      have HP : Hid (Nodes.ListPost (nearL k L z) w (.returned (.slice ad' (nearL k L z).length cap')) wr) := Lib.hid ⟨ad', cap', rfl, Own.mono hown HB.out.size, HB.out.trans (hB.mono HB.out.size)⟩
      clear hown hB
      go_wp2_with fail
      go_ret
      exact HP.out
end Go.Proofs.Ytlfkeonopdhoeaa.Grf
