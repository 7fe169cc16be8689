/- The contract of package crc (layer 4) for the sum of two parts; what the condition on both tables gives. -/
import Derived.Test.YtgacljanapmnfaaDoorCrcI
import Derived.Test.YtgacljanapmnfaaDoorCrcC
import Derived.Stop.LaidErr
namespace Go.Proofs.YtgacljanapmnfaaDoor.Crc
open Go.ChangeShapes Go.WideShapes Go.ChangeAt Go.RowKit
open Go.Proofs.YtgacljanapmnfaaDoor.Byt
set_option linter.unusedVariables false
theorem and1_i64 (c : Nat) : Go.bits .and .i64 (c : Int) 1 = ((c % 2 : Nat) : Int) := by
  show IntKind.i64.wrap ((BitVec.ofInt 64 (c : Int) &&& BitVec.ofInt 64 1).toNat : Int) = _
  rw [BitVec.toNat_and, show (BitVec.ofInt 64 1).toNat = 2 ^ 1 - 1 from by decide, Nat.and_two_pow_sub_one_eq_mod, BitVec.ofInt_natCast, BitVec.toNat_ofNat, IntKind.wrap_i64]
  omega
def joinN (a b : Nat) (n : Int) : Nat := feed a (zs (8 * n.toNat)) ^^^ b
set_option maxHeartbeats 1000000 in
theorem join_any (a b : Nat) (n : Int) (ha : a < 4294967296) (hb : b < 4294967296) (hn : n ≤ 9223372036854775807) (w : World) (hT : TabZ w) :
    Calls Tryd.prog 15 #[.int .u32 a, .int .u32 b, .int .i64 n] w fun e w' => e = .returned (.int .u32 ((joinN a b n : Nat) : Int)) ∧ Below w.heap.size w w' := by
  have C0 := Lib.hid (oneByte_any w hT)
  have CM : Hid (∀ W m (x : Nat), Below w.heap.size w W → x < 4294967296 → Calls Tryd.prog 23 #[.agg (matC m), .int .u32 x] W fun e w' => e = .returned (.int .u32 ((feed x (zs m) : Nat) : Int)) ∧ Below W.heap.size W w') := Lib.hid (fun W m x hW hx => move_any m x hx W (hT.below hW))
  have CS : Hid (∀ W m, Below w.heap.size w W → Calls Tryd.prog 24 #[.agg (matC m)] W fun e w' => e = .returned (.agg (matC (m + m))) ∧ Below W.heap.size W w') := Lib.hid (fun W m hW => square_any m W (hT.below hW))
  have HJ := Lib.hid (show joinN a b n = feed a (zs (8 * n.toNat)) ^^^ b from rfl)
  have HZ := Lib.hid (matC_size 8)
  have HO := Lib.hid (matC_oneCell 8)
  clear hT
  go_enter Tryd.func15, Tryd.ntmps15
  go_wp2_with fail
  refine (C0.out).mono ?_; rintro e w1 ⟨rfl, hB1⟩
  obtain ⟨w2, hw2⟩ : ∃ w2, Hid ((w1.alloc (.cells zeroC 41)).setRow w1.heap.size (matC 8) = w2) := ⟨_, Lib.hid rfl⟩
  obtain ⟨G, hG⟩ : ∃ G, Hid (w1.heap.size = G) := ⟨_, Lib.hid rfl⟩
  have hGs := hB1.size
  rw [hG.out] at hGs
  have hB2 : Below w.heap.size w w2 := by
    rw [← hw2.out]; exact below_setRow (hB1.alloc hB1.size _) hB1.size _
  have hK : Hid (w2.heap[G]? = some (.cells (matC 8) 41 (0, 0))) := Lib.hid (by
    rw [← hw2.out, ← hG.out]; exact setRow_heap _ _ _ _ _ _ (heap_alloc_new _ _))
  have hsz2 : G < w2.heap.size := (Array.getElem?_eq_some_iff.1 hK.out).1
  go_upto_region 2 with (refine wpList_store_row rfl 41 _ _ rfl w1.heap.size (matC 8) rfl rfl 41 zeroC (heap_alloc_new _ _) (by rw [HZ.out]; exact infoMat) (by rw [HZ.out]; rfl) HO.out ?_)
  rw [hw2.out, hG.out]
  simp only [Act.put]
  go_loopw [0, 2] (fun v z wr => ∃ (x : Nat) (zz : Int) (m k : Nat), v = .int .u32 x ∧ z = .int .i64 zz ∧ x < 4294967296 ∧ Hid (feed x (zs (m * k)) = feed a (zs (8 * n.toNat))) ∧ Hid (wr.heap[G]? = some (.cells (matC m) 41 (0, 0))) ∧ Below w.heap.size w wr ∧ (zz = (k : Int) ∨ (zz < 0 ∧ k = 0)) ∧ zz ≤ 9223372036854775807) (fun _ z _ => (intOf z).toNat)
  case atStart => exact ⟨a, n, 8, n.toNat, rfl, rfl, ha, Lib.hid rfl, hK, hB2, by omega, hn⟩
  case round =>
    obtain ⟨x, zz, m, k, rfl, rfl, hx, he, b0, hB, hz, hzm⟩ := hrel
    by_cases hpos : 0 < zz
    · obtain rfl : zz = (k : Int) := by omega
      have HSM := Lib.hid (matC_size m)
      have HSQ := Lib.hid (matC_size (m + m))
      have HOQ := Lib.hid (matC_oneCell (m + m))
      have HA1 := Lib.hid (and1_i64 k)
      have hH := halve x m k
      by_cases hodd : k % 2 = 1
      · rw [if_pos hodd] at hH
        have HE := Lib.hid (show feed (feed x (zs m)) (zs ((m + m) * (k / 2))) = feed a (zs (8 * n.toNat)) from hH.symm.trans he.out)
        have hxl := feed_lt (zs m) hx
        have CC := Lib.hid (CM.out wr m x hB hx)
        have htest : (Go.bits .and .i64 (k : Int) 1 != 0) = true := by rw [HA1.out, hodd]; rfl
        generalize feed x (zs m) = x' at *
        clear hH hodd hz he
        go_wp2_with (refine wpList_load_row rfl 41 _ rfl G rfl _ (matC m) _ _ b0.out Tryd.underlying41 rfl (by rw [HSM.out]; exact infoMat) ?_)
        refine (CC.out).mono ?_; rintro e w3 ⟨rfl, hB3⟩
        have b3 := Lib.hid (block_kept b0.out hB3)
        have hB03 := hB.trans (hB3.mono hB.size)
        have CQ := Lib.hid (CS.out w3 m hB03)
        go_wp2_with (refine wpList_load_row rfl 41 _ rfl G rfl _ (matC m) _ _ b3.out Tryd.underlying41 rfl (by rw [HSM.out]; exact infoMat) ?_)
        refine (CQ.out).mono ?_; rintro e w4 ⟨rfl, hB4⟩
        have bq := Lib.hid (block_kept b3.out hB4)
        have hBq := hB03.trans (hB4.mono hB03.size)
        go_wp2_with (refine wpList_store_row rfl 41 _ _ rfl G (matC (m + m)) rfl rfl _ _ bq.out (by rw [HSQ.out]; exact infoMat) (by rw [HSQ.out, HSM.out]) HOQ.out ?_)
        go_roundw
        case rel => exact ⟨x', (k : Int) / 2, m + m, k / 2, rfl, rfl, hxl, HE, Lib.hid (setRow_heap _ _ _ _ _ _ bq.out), below_setRow hBq hGs _, .inl (by omega), by omega⟩
        case measure => simp [intOf]; omega
      · rw [if_neg hodd] at hH
        have HE := Lib.hid (show feed x (zs ((m + m) * (k / 2))) = feed a (zs (8 * n.toNat)) from hH.symm.trans he.out)
        have htest : (Go.bits .and .i64 (k : Int) 1 != 0) = false := by rw [HA1.out, show k % 2 = 0 by omega]; rfl
        have CQ := Lib.hid (CS.out wr m hB)
        clear hH hodd hz he
        go_wp2_with (refine wpList_load_row rfl 41 _ rfl G rfl _ (matC m) _ _ b0.out Tryd.underlying41 rfl (by rw [HSM.out]; exact infoMat) ?_)
        refine (CQ.out).mono ?_; rintro e w4 ⟨rfl, hB4⟩
        have bq := Lib.hid (block_kept b0.out hB4)
        have hBq := hB.trans (hB4.mono hB.size)
        go_wp2_with (refine wpList_store_row rfl 41 _ _ rfl G (matC (m + m)) rfl rfl _ _ bq.out (by rw [HSQ.out]; exact infoMat) (by rw [HSQ.out, HSM.out]) HOQ.out ?_)
        go_roundw
        case rel => exact ⟨x, (k : Int) / 2, m + m, k / 2, rfl, rfl, hx, HE, Lib.hid (setRow_heap _ _ _ _ _ _ bq.out), below_setRow hBq hGs _, .inl (by omega), by omega⟩
        case measure => simp [intOf]; omega
    · have hk0 : k = 0 := by omega
      subst hk0
      have hd : decide (0 < zz) = false := decide_eq_false hpos
      have HE := Lib.hid (show joinN a b n = x ^^^ b by
        have := he.out
        rw [Nat.mul_zero] at this
        rw [HJ.out, ← this]; rfl)
      have HX := Lib.hid (xor_u32 x b hx hb)
      clear hz hpos he
      go_wp2_with fail
      go_ret
      exact ⟨ret_int (by rw [HE.out]; exact HX.out), hB⟩
theorem join_sums (y0 y1 : List UInt8) : joinN (sumB y0) (sumB y1) ((y1.length : Nat) : Int) = sumB (y0 ++ y1) := by
  unfold joinN; rw [Int.toNat_natCast, sum_join]
theorem join_none (s : Nat) (n : Int) (h : n ≤ 0) : joinN s 0 n = s := by
  unfold joinN; rw [show n.toNat = 0 by omega, Nat.mul_zero, Nat.xor_zero]; rfl
end Go.Proofs.YtgacljanapmnfaaDoor.Crc
/-! The condition on both tables. -/
namespace Go.Proofs.YtgacljanapmnfaaDoor.CrcJ
open Go.ChangeShapes Go.WideShapes Go.ChangeAt Go.RowKit
open Go.Proofs.YtgacljanapmnfaaDoor.Crc
set_option linter.unusedVariables false
def laidL : List (String × DataW Unit) := Go.Proofs.YtgacljanapmnfaaDoor.Rows.crcJoinsRow.laid
theorem door_met (os : Os) (args : Array Value) : laidMetH Tryd.prog laidL ((World.doorLaid Tryd.prog 33 os).forCall (fun _ _ => 0) ⟨#[], args, []⟩).memory :=
  laidMetH_of_parts3 (fuel := 8) (laidMet_of_run' 8 (by kernel_rfl) (by kernel_rfl)) (by kernel_rfl) (by kernel_rfl)
def Tabs (w : World) : Prop := Crc.Tabs w ∧ TabZ w
theorem Tabs.below {w w' : World} (h : Tabs w) (hb : Below w.heap.size w w') : Tabs w' := ⟨h.1.below hb, h.2.below hb⟩
def tab32 : List Int := Go.Lib.deBruijn32tab.map fun n : Nat => (n : Int)
theorem tab32_at (j : Nat) (hj : j < Go.Lib.deBruijn32tab.length) : tab32.getD j 0 = ((Go.Lib.deBruijn32tab.getD j 0 : Nat) : Int) := by
  simp [tab32, List.getD, hj]
theorem tabs_of_laid {W : World} (h : laidMetH Tryd.prog laidL W) : Tabs W := by
  rw [MakeChecks.laidMetH_plain _ _ _ (by kernel_rfl)] at h
  have h1 := laidMet.tail h
  have hT := Go.Lib.tabIs_of_head (g := 1) (k := .u8) (zs := tab32) (by kernel_rfl) (by kernel_rfl) Tryd.underlying46 Tryd.underlying5 (by kernel_rfl) (by kernel_rfl) (show laidMet Tryd.prog ((_, Go.Lib.tabData .u8 tab32) :: _) W from h)
  have hc : ∀ j, j < tab32.length → W.cell? ⟨1, j, none⟩ = some (.int .u8 (tab32.getD j 0)) := fun j hj => hT.cell (by kernel_rfl) j hj
  have hT2 := Go.Lib.tabIs_of_head (g := 0) (k := .u32) (zs := tabF) (by kernel_rfl) (by kernel_rfl) Tryd.underlying39 Tryd.underlying24 (by kernel_rfl) (by kernel_rfl) (show laidMet Tryd.prog ((_, Go.Lib.tabData .u32 tabF) :: _) W from h1)
  have hc2 : ∀ j, j < tabF.length → W.cell? ⟨0, j, none⟩ = some (.int .u32 (tabF.getD j 0)) := fun j hj => hT2.cell (by kernel_rfl) j hj
  refine ⟨⟨fun j hj => ?_, ?_⟩, ⟨fun j hj => ?_, ?_⟩⟩
  · rw [hc2 j (by rw [tabF, List.length_map]; exact hj), tabF_at j hj]
  · exact cell_lt (hc2 0 (by decide))
  · rw [hc j (by rw [tab32, List.length_map]; exact hj), tab32_at j hj]
  · exact cell_lt (hc 0 (by decide))
end Go.Proofs.YtgacljanapmnfaaDoor.CrcJ
