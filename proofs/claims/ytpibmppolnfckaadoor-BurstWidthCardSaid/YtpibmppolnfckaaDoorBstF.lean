/- The example of layer burst (15). -/
import Derived.Test.YtpibmppolnfckaaDoorBstE
namespace Go.Proofs.YtpibmppolnfckaaDoor.Bst
open Go.ChangeShapes Go.WideShapes Go.ChangeAt Go.RowKit
open Go.Proofs.YtpibmppolnfckaaDoor.Byt
set_option linter.unusedVariables false
theorem lit_rd (w : World) (l : List UInt8) (t : TypeId) (f : Nat × Nat) : RdB (w.alloc (.cells (bvs l).toArray t f)) (some ⟨w.heap.size, 0, none⟩) l := by
  refine .inr ⟨_, 0, rfl, fun i hi => ?_⟩
  rw [Nat.zero_add]
  have h := heap_alloc_last w (.cells (bvs l).toArray t f)
  simp only [World.cell?, h]
  simp [hi, bvs, bv]
theorem two_cells : (bvs [0, 0]).toArray = #[.int .u8 0, .int .u8 0] := by simp [bvs, bv]
theorem ex_turn : turnP [0, 0] 7 3 = [128, 1] := by decide +kernel
theorem ex_first : dF [128, 1] [0, 0] = 7 := by decide +kernel
theorem ex_wide : dW [128, 1] [0, 0] = 2 := by decide +kernel
theorem ex_width : widB 10 = 3 := by decide +kernel
set_option maxRecDepth 100000 in
theorem bworks_any (w : World) (hT : TabZ w) :
    Calls Tryd.prog 10 #[] w fun e w' => e = .returned (.bool true) ∧ Below w.heap.size w w' := by
  have hB0 : Below w.heap.size w (w.alloc (.cells #[.int .u8 0, .int .u8 0] 5)) := (Below.refl _ _).alloc (Nat.le_refl _) _
  have L1 := lit_rd w [0, 0] 5 (0, 0)
  rw [two_cells] at L1
  have C1 := Lib.hid (turn_any (some ⟨w.heap.size, 0, none⟩) 2 2 [0, 0] 7 3 _ rfl (by omega) (by omega) (by omega) L1 (by omega) (fun h => by cases h))
  rw [ex_turn] at C1
  have HB0 := Lib.hid hB0
  have HT := Lib.hid hT
  clear hB0 hT L1
  go_enter Tryd.func10, Tryd.ntmps10
  go_wp2_with fail
  refine (C1.out).mono ?_; rintro e w1 ⟨ad, cap, rfl, hown, hB1⟩
  have HB1 := Lib.hid (HB0.out.trans (hB1.mono HB0.out.size))
  have hBa : Below w1.heap.size w1 (w1.alloc (.cells #[.int .u8 0, .int .u8 0] 5)) := (Below.refl _ _).alloc (Nat.le_refl _) _
  have L2 := lit_rd w1 [0, 0] 5 (0, 0)
  rw [two_cells] at L2
  have C2 := Lib.hid (differ_any ad (some ⟨w1.heap.size, 0, none⟩) 2 cap 2 2 [128, 1] [0, 0] _ rfl rfl (by omega) (by omega) (hown.rd.1.below hBa) L2)
  unfold DifPost at C2
  rw [ex_first, ex_wide] at C2
  have HBa := Lib.hid hBa
  have HO := Lib.hid hown
  clear hown hB1 hBa L2
  go_wp2_with fail
  refine (C2.out).mono ?_; rintro e w2 ⟨rfl, hB2⟩
  have HB2 := Lib.hid (HBa.out.trans (hB2.mono HBa.out.size))
  have HBB := Lib.hid (HB1.out.trans (HB2.out.mono HB1.out.size))
  have hS : (convert 22 9 (.slice ad 2 cap)).run Tryd.prog w2 = .ok (.string { data := #[128, 1] }) w2 := OwnB.str HO.out HB2.out
  have CW := Lib.hid (width_any 10 (by omega) w2 (HT.out.below HBB.out))
  rw [ex_width, show ((10 : Nat) : Int) = 10 from rfl, show ((3 : Nat) : Int) = 3 from rfl] at CW
  clear hB2
  go_wp2_with fail
  refine (CW.out).mono ?_; rintro e w' ⟨rfl, rfl⟩
  go_wp2_with fail
  go_ret
  exact ⟨rfl, HBB.out⟩
end Go.Proofs.YtpibmppolnfckaaDoor.Bst
