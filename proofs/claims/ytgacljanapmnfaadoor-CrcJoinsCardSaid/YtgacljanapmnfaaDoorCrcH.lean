/- Contracts of package crc (layer 4): a matrix squared; sums joined. -/
import Derived.Test.YtgacljanapmnfaaDoorCrcG
import Derived.Deep.Cut
namespace Go.Proofs.YtgacljanapmnfaaDoor.Crc
open Go.ChangeShapes Go.WideShapes Go.ChangeAt Go.RowKit
open Go.Proofs.YtgacljanapmnfaaDoor.Byt
set_option linter.unusedVariables false
theorem infoMat : (Tryd.prog.info? 41).map (·.size) = some 32 := by kernel_rfl
abbrev zeroC : Array Value := #[.int .u32 0, .int .u32 0, .int .u32 0, .int .u32 0, .int .u32 0, .int .u32 0, .int .u32 0, .int .u32 0, .int .u32 0, .int .u32 0, .int .u32 0, .int .u32 0, .int .u32 0, .int .u32 0, .int .u32 0, .int .u32 0, .int .u32 0, .int .u32 0, .int .u32 0, .int .u32 0, .int .u32 0, .int .u32 0, .int .u32 0, .int .u32 0, .int .u32 0, .int .u32 0, .int .u32 0, .int .u32 0, .int .u32 0, .int .u32 0, .int .u32 0, .int .u32 0]
/-- A matrix of which the first rows are laid. -/
def Rows (n k : Nat) (C : Array Value) : Prop := C.size = 32 ∧ ∀ j, j < k → C[j]? = some (.int .u32 ((feed (2 ^ j) (zs n) : Nat) : Int))
theorem Rows.mat {n : Nat} {C : Array Value} (h : Rows n 32 C) : C = matC n := by
  refine Array.ext_getElem? fun i => ?_
  by_cases hi : i < 32
  · rw [h.2 i hi, matC_at n hi]
  · rw [Array.getElem?_eq_none (by rw [h.1]; omega), Array.getElem?_eq_none (by rw [matC_size]; omega)]
theorem Rows.put {n k : Nat} {C : Array Value} (h : Rows n k C) (hk : k < 32) : Rows n (k + 1) (C.setIfInBounds k (.int .u32 ((feed (2 ^ k) (zs n) : Nat) : Int))) := by
  refine ⟨by simpa using h.1, fun j hj => ?_⟩
  by_cases he : k = j
  · subst he
    rw [Array.getElem?_setIfInBounds_self_of_lt (by rw [h.1]; exact hk)]
  · rw [Array.getElem?_setIfInBounds_ne he, h.2 j (by omega)]
theorem matC_oneCell (n : Nat) : (matC n).all (·.oneCell') = true := by
  refine Array.all_eq_true_iff_forall_mem.2 fun v hv => ?_
  unfold matC at hv
  simp only [List.mem_toArray, List.mem_map] at hv
  obtain ⟨x, _, rfl⟩ := hv
  rfl
/-- A block that is known whole, behind what turns nothing old. -/
theorem block_kept {w w' : World} {g : Nat} {o : Obj} (h : w.heap[g]? = some o) (hB : Below w.heap.size w w') : w'.heap[g]? = some o :=
  (hB.block g (Array.getElem?_eq_some_iff.1 h).1).trans h
theorem index_at (W : World) (cs : Array Value) (k : Nat) (x : Int) (hk : k < 32) (h : cs[k]? = some (.int .u32 x)) : (Instr.index 41 (.agg cs) (.int .i64 (k : Int))).run Tryd.prog W = .ok (.int .u32 x) W := by
  have h1 : (0 : Int) ≤ (k : Int) ∧ (k : Int) < 32 := by omega
  simp [Instr.index, asIntOf, run_underlying Tryd.underlying41, Tryd.sizeOf24, h1, part, Tryd.isAgg24, h, go_sem]
  intro hh; omega
theorem below_setRow {B : Nat} {a w : World} (h : Below B a w) {g : Nat} (hg : B ≤ g) (cs : Array Value) : Below B a (w.setRow g cs) :=
  h.trans ⟨rfl, rfl, rfl, by simp, fun k hk => setRow_other w g k cs (by omega)⟩
set_option maxHeartbeats 1000000 in
theorem square_any (n : Nat) (w : World) (hT : TabZ w) :
    Calls Tryd.prog 24 #[.agg (matC n)] w fun e w' => e = .returned (.agg (matC (n + n))) ∧ Below w.heap.size w w' := by
  have C : Hid (∀ W (s : Nat), Below w.heap.size w W → s < 4294967296 → Calls Tryd.prog 23 #[.agg (matC n), .int .u32 s] W fun e w' => e = .returned (.int .u32 ((feed s (zs n) : Nat) : Int)) ∧ Below W.heap.size W w') := Lib.hid (fun W s hW hs => move_any n s hs W (hT.below hW))
  have HS := Lib.hid (matC_size n)
  have HI : Hid (∀ i, i < 32 → (matC n)[i]? = some (.int .u32 ((feed (2 ^ i) (zs n) : Nat) : Int))) := Lib.hid (fun i h => matC_at n h)
  generalize matC n = cs at *
  obtain ⟨w1, hw1⟩ : ∃ w1, Hid (((w.alloc (.cells cs 41)).alloc (.cells zeroC 41)).alloc (.cells zeroC 41) = w1) := ⟨_, Lib.hid rfl⟩
  have hB1 : Below w.heap.size w w1 := by
    rw [← hw1.out]; exact (((Below.refl _ _).alloc (Nat.le_refl _) _).alloc (by simp) _).alloc (by simp; omega) _
  have K0 : w1.heap[w.heap.size]? = some (.cells cs 41 (0, 0)) := by
    rw [← hw1.out, Below.heap_alloc _ _ _ (by simp; omega)]; exact heap_alloc2_old _ _ _
  have K1 : w1.heap[w.heap.size + 1]? = some (.cells zeroC 41 (0, 0)) := by
    rw [← hw1.out, Below.heap_alloc _ _ _ (by simp)]; exact heap_alloc2_new _ _ _
  have K2 : w1.heap[w.heap.size + 1 + 1]? = some (.cells zeroC 41 (0, 0)) := by
    have := heap_alloc_new ((w.alloc (.cells cs 41)).alloc (.cells zeroC 41)) (.cells zeroC 41)
    rw [hw1.out] at this
    simpa using this
  have hK0 := Lib.hid K0
  have hK1 := Lib.hid K1
  have hK2 := Lib.hid K2
  have HR0 : Hid (Rows (n + n) 0 zeroC) := Lib.hid ⟨rfl, fun j hj => by omega⟩
  clear K0 K1 K2 hT
  go_enter Tryd.func24, Tryd.ntmps24
  go_upto_region 2 with fail
  rw [hw1.out]
  go_wp2_with (refine wpList_load_row rfl 41 _ rfl _ rfl _ cs _ _ hK0.out Tryd.underlying41 rfl (by rw [HS.out]; exact infoMat) ?_)
  go_loopw [7] (fun i wr => ∃ (k : Nat) (D : Array Value), k ≤ 32 ∧ i = .int .i64 k ∧ Hid (wr.heap[w.heap.size]? = some (.cells cs 41 (0, 0))) ∧ Hid (wr.heap[w.heap.size + 1]? = some (.cells zeroC 41 (0, 0))) ∧ Hid (wr.heap[w.heap.size + 1 + 1]? = some (.cells D 41 (0, 0))) ∧ Hid (Rows (n + n) k D) ∧ Below w.heap.size w wr) (fun i _ => 32 - (intOf i).toNat)
  case atStart => exact ⟨0, zeroC, Nat.zero_le _, rfl, hK0, hK1, hK2, HR0, hB1⟩
  case round =>
    obtain ⟨k, D, hk, rfl, b0, b1, b2, hR, hB⟩ := hrel
    by_cases hlt : k < 32
    · have hidx := index_at wr cs k _ hlt (HI.out k hlt)
      have hx := feed_lt (s := 2 ^ k) (zs n) (pow_lt hlt)
      have CC := Lib.hid (C.out wr _ hB hx)
      have HF := Lib.hid (feed_zs_add (2 ^ k) n n)
      generalize feed (2 ^ k) (zs n) = x at *
      go_wp2_with (refine wpList_load_row rfl 41 _ rfl _ rfl _ cs _ _ b0.out Tryd.underlying41 rfl (by rw [HS.out]; exact infoMat) ?_)
      refine (CC.out).mono ?_; rintro e w2 ⟨rfl, hB2⟩
      have b02 := block_kept b0.out hB2
      have b12 := block_kept b1.out hB2
      have b22 := block_kept b2.out hB2
      have B0 := Lib.hid b02
      have B1 := Lib.hid b12
      have B2 := Lib.hid b22
      have hcell := cell_of_row w2 _ k _ _ _ b22
      obtain ⟨old, hold⟩ : ∃ old, D[k]? = some old := ⟨D[k]'(by rw [hR.out.1]; exact hlt), by rw [Array.getElem?_eq_getElem]⟩
      rw [hold] at hcell
      have hfr := frozen_of_row w2 _ k _ _ b22
      have hBB := hB.trans (hB2.mono hB.size)
      clear b02 b12 b22 hold
      go_wp2_with fail
      go_roundw
      case rel =>
        refine ⟨k + 1, D.setIfInBounds k (.int .u32 ((feed x (zs n) : Nat) : Int)), by omega, by go_num, ?_, ?_, ?_, ?_, hBB.setCell (p := ⟨w.heap.size + 1 + 1, k, none⟩) (by simp; omega) _⟩
        · exact Lib.hid (by rw [heap_setCell_other _ _ _ _ (by simp; omega)]; exact B0.out)
        · exact Lib.hid (by rw [heap_setCell_other _ _ _ _ (by simp)]; exact B1.out)
        · exact Lib.hid (heap_setCell_same _ _ _ _ _ _ B2.out)
        · exact Lib.hid (by rw [← HF.out]; exact hR.out.put hlt)
      case measure => simp [intOf]; omega
    · obtain rfl : k = 32 := by omega
      have HD := Lib.hid hR.out.mat
      rw [HD.out] at b2
      have HS2 := Lib.hid (matC_size (n + n))
      have HO := Lib.hid (matC_oneCell (n + n))
      obtain ⟨ds, hds⟩ : ∃ ds, Hid (matC (n + n) = ds) := ⟨_, Lib.hid rfl⟩
      rw [hds.out] at HS2 HO b2
      clear hR hk hlt
      go_wp2_with (first
        | (refine wpList_load_row rfl 41 _ rfl _ rfl _ ds _ _ b2.out Tryd.underlying41 rfl (by rw [HS2.out]; exact infoMat) ?_)
        | (refine wpList_store_row rfl 41 _ _ rfl _ ds rfl rfl _ _ b1.out (by rw [HS2.out]; exact infoMat) (by rw [HS2.out]; rfl) HO.out ?_))
      refine bodyPost_ret (v := .agg ds) (results_cell_row rfl _ _ (w.heap.size + 1) 41 ds (0, 0) _ rfl (setRow_heap _ _ _ _ _ _ b1.out) Tryd.underlying41 rfl (by rw [HS2.out]; exact infoMat)) rfl ⟨by rw [hds.out], below_setRow hB (by omega) ds⟩
end Go.Proofs.YtgacljanapmnfaaDoor.Crc
