/- Contracts of package crc (layer 4): a matrix past one byte; sums joined. -/
import Derived.Test.YtgacljanapmnfaaDoorCrcH
namespace Go.Proofs.YtgacljanapmnfaaDoor.Crc
open Go.ChangeShapes Go.WideShapes Go.ChangeAt Go.RowKit
open Go.Proofs.YtgacljanapmnfaaDoor.Byt
set_option linter.unusedVariables false
abbrev oneC : Array Value := #[.int .u32 3988292384, .int .u32 0, .int .u32 0, .int .u32 0, .int .u32 0, .int .u32 0, .int .u32 0, .int .u32 0, .int .u32 0, .int .u32 0, .int .u32 0, .int .u32 0, .int .u32 0, .int .u32 0, .int .u32 0, .int .u32 0, .int .u32 0, .int .u32 0, .int .u32 0, .int .u32 0, .int .u32 0, .int .u32 0, .int .u32 0, .int .u32 0, .int .u32 0, .int .u32 0, .int .u32 0, .int .u32 0, .int .u32 0, .int .u32 0, .int .u32 0, .int .u32 0]
theorem built_one : Tryd.prog.built 41 [(0, .int .u32 3988292384)] = some oneC := by kernel_rfl
theorem one_oneCell : oneC.all (·.oneCell') = true := by kernel_rfl
theorem rows_one : Rows 1 1 oneC := ⟨rfl, fun j hj => by
  obtain rfl : j = 0 := by omega
  rw [mat_one_zero]; rfl⟩
theorem shl_u32 (k : Nat) (h : k < 32) : (2 : Int) ^ k % 4294967296 = ((feed (2 ^ (k + 1)) (zs 1) : Nat) : Int) := by
  rw [mat_one_succ]
  have h1 := pow_lt h
  have e : (2 : Int) ^ k = ((2 ^ k : Nat) : Int) := by simp
  rw [e]
  generalize 2 ^ k = b at *
  omega
set_option maxHeartbeats 1000000 in
theorem oneByte_any (w : World) (hT : TabZ w) :
    Calls Tryd.prog 22 #[] w fun e w' => e = .returned (.agg (matC 8)) ∧ Below w.heap.size w w' := by
  have C : Hid (∀ W n, Below w.heap.size w W → Calls Tryd.prog 24 #[.agg (matC n)] W fun e w' => e = .returned (.agg (matC (n + n))) ∧ Below W.heap.size W w') := Lib.hid (fun W n hW => square_any n W (hT.below hW))
  obtain ⟨w1, hw1⟩ : ∃ w1, Hid (((w.alloc (.cells zeroC 41)).alloc (.cells zeroC 41)).setRow (w.heap.size + 1) oneC = w1) := ⟨_, Lib.hid rfl⟩
  have hB1 : Below w.heap.size w w1 := by
    rw [← hw1.out]; exact below_setRow (((Below.refl _ _).alloc (Nat.le_refl _) _).alloc (by simp) _) (by omega) _
  have hK0 : Hid (w1.heap[w.heap.size]? = some (.cells zeroC 41 (0, 0))) := Lib.hid (by
    rw [← hw1.out, setRow_other _ _ _ _ (by omega)]; exact heap_alloc2_old _ _ _)
  have hK1 : Hid (w1.heap[w.heap.size + 1]? = some (.cells oneC 41 (0, 0))) := Lib.hid (by
    rw [← hw1.out]; exact setRow_heap _ _ _ _ _ _ (heap_alloc2_new _ _ _))
  have HR1 := Lib.hid rows_one
  clear hT
  go_enter Tryd.func22, Tryd.ntmps22
  go_upto_region 2 with (refine wpList_store_row rfl 41 _ _ rfl (w.heap.size + 1) oneC rfl rfl 41 zeroC (heap_alloc2_new _ _ _) infoMat rfl one_oneCell ?_)
  rw [hw1.out]
  simp only [Act.put]
  go_wp2_with fail
  go_loopw [2] (fun i wr => ∃ (k : Nat) (D : Array Value), k < 32 ∧ i = .int .i64 ((k + 1 : Nat) : Int) ∧ Hid (wr.heap[w.heap.size]? = some (.cells zeroC 41 (0, 0))) ∧ Hid (wr.heap[w.heap.size + 1]? = some (.cells D 41 (0, 0))) ∧ Hid (Rows 1 (k + 1) D) ∧ Below w.heap.size w wr) (fun i _ => 32 - (intOf i).toNat)
  case atStart => exact ⟨0, oneC, by omega, rfl, hK0, hK1, HR1, hB1⟩
  case round =>
    obtain ⟨k, D, hk, rfl, b0, b1, hR, hB⟩ := hrel
    by_cases hlt : k + 1 < 32
    · have hcell := cell_of_row wr _ (k + 1) _ _ _ b1.out
      obtain ⟨old, hold⟩ : ∃ old, D[k + 1]? = some old := ⟨D[k + 1]'(by rw [hR.out.1]; exact hlt), by rw [Array.getElem?_eq_getElem]⟩
      rw [hold] at hcell
      have hfr := frozen_of_row wr _ (k + 1) _ _ b1.out
      have HX := Lib.hid (shl_u32 k hk)
      clear hold
      go_wp2_with fail
      go_roundw
      case rel =>
        refine ⟨k + 1, D.setIfInBounds (k + 1) (.int .u32 ((feed (2 ^ (k + 1)) (zs 1) : Nat) : Int)), by omega, by go_num, ?_, ?_, ?_, hB.setCell (p := ⟨w.heap.size + 1, k + 1, none⟩) (by simp) _⟩
        · exact Lib.hid (by rw [heap_setCell_other _ _ _ _ (by simp)]; exact b0.out)
        · exact Lib.hid (by rw [HX.out]; exact heap_setCell_same _ _ _ _ _ _ b1.out)
        · exact Lib.hid (hR.out.put hlt)
      case measure => simp [intOf]; omega
    · obtain rfl : k = 31 := by omega
      have HD := Lib.hid (show D = matC 1 from hR.out.mat)
      rw [HD.out] at b1
      have C1 := Lib.hid (C.out wr 1 hB)
      have HS1 := Lib.hid (matC_size 1)
      have hge : decide ((((31 + 1 : Nat) : Int)) < 32) = false := by decide
      clear hR hk hlt
      go_wp2_with (refine wpList_load_row rfl 41 _ rfl _ rfl _ (matC 1) _ _ b1.out Tryd.underlying41 rfl (by rw [HS1.out]; exact infoMat) ?_)
      refine (C1.out).mono ?_; rintro e w2 ⟨rfl, hB2⟩
      have hBa := hB.trans (hB2.mono hB.size)
      have C2 := Lib.hid (C.out w2 (1 + 1) hBa)
      go_wp2_with fail
      refine (C2.out).mono ?_; rintro e w3 ⟨rfl, hB3⟩
      have hBb := hBa.trans (hB3.mono hBa.size)
      have C3 := Lib.hid (C.out w3 (1 + 1 + (1 + 1)) hBb)
      go_wp2_with fail
      refine (C3.out).mono ?_; rintro e w4 ⟨rfl, hB4⟩
      have hBc := hBb.trans (hB4.mono hBb.size)
      have b4 := Lib.hid (block_kept (block_kept (block_kept b0.out hB2) hB3) hB4)
      have HS2 := Lib.hid (matC_size (1 + 1 + (1 + 1) + (1 + 1 + (1 + 1))))
      have HO := Lib.hid (matC_oneCell (1 + 1 + (1 + 1) + (1 + 1 + (1 + 1))))
      have H8 := Lib.hid (show matC (1 + 1 + (1 + 1) + (1 + 1 + (1 + 1))) = matC 8 from rfl)
      rw [H8.out] at HS2 HO
      rw [H8.out]
      obtain ⟨ds, hds⟩ : ∃ ds, Hid (matC 8 = ds) := ⟨_, Lib.hid rfl⟩
      rw [hds.out] at HS2 HO
      rw [hds.out]
      go_wp2_with (refine wpList_store_row rfl 41 _ _ rfl _ ds rfl rfl _ _ b4.out (by rw [HS2.out]; exact infoMat) (by rw [HS2.out]; rfl) HO.out ?_)
      refine bodyPost_ret (v := .agg ds) (results_cell_row rfl _ _ (w.heap.size) 41 ds (0, 0) _ rfl (setRow_heap _ _ _ _ _ _ b4.out) Tryd.underlying41 rfl (by rw [HS2.out]; exact infoMat)) rfl ⟨by rw [hds.out], below_setRow hBc (by omega) ds⟩
end Go.Proofs.YtgacljanapmnfaaDoor.Crc
