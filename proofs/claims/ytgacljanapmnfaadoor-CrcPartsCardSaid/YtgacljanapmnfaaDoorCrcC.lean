/- Contracts of the laws' own Cut and works (layer crc, 4); what the condition on the tables gives. -/
import Derived.Test.YtgacljanapmnfaaDoorCrcB
import Derived.Lib.SlBytesConst
import Derived.Test.YtgacljanapmnfaaDoorTie
import Derived.LaidMore
import Derived.MakeChecks
import Derived.Lib.LaidTab
import Derived.Stop.Joined
namespace Go.Proofs.YtgacljanapmnfaaDoor.Crc
open Go.ChangeShapes Go.WideShapes Go.ChangeAt Go.RowKit
open Go.Proofs.YtgacljanapmnfaaDoor.Byt
set_option linter.unusedVariables false
theorem cut_any (ad : Option Addr) (len cap : Nat) (l : List UInt8) (w : World) (hlen : l.length = len) (hc : len ≤ cap) (hm : cap ≤ 9223372036854775807) (hr : RdB w ad l) (hnil : ad = none → cap = 0) (hs : len = 0 ∨ ∃ b off, ad = some ⟨b, off, none⟩) :
    Calls Tryd.prog 9 #[.slice ad len cap] w (BytesPost (l.take 300) w) := by
  obtain ⟨i0, hi, hz0, hz1, hz2⟩ := info_parts infoByte
  have HTL := Lib.hid (show (l.take 300).length = min len 300 by rw [List.length_take, hlen]; omega)
  have c2 := Lib.hid (RdB.cells (hr.take 300))
  have c2' : Hid (∀ a', ad = some a' → ∀ j u, (bvs (l.take 300))[j]? = some u → (w.alloc (.cells #[] 5)).cell? (a'.add j) = some u) := Lib.hid (RdB.cells ((hr.take 300).below ((Below.refl _ _).alloc (Nat.le_refl _) _)))
  have hB0 : Below w.heap.size w (w.alloc (.cells #[] 5)) := (Below.refl _ _).alloc (Nat.le_refl _) _
  have hown0 : (w.alloc (.cells #[] 5)).ownsRow w.heap.size 5 1 (.slice (some ⟨w.heap.size, 0, none⟩) 0 0) 0 (bvs []) := World.ownsRow_lit (size := 1) w #[] 0 (Nat.le_refl _) (by unfold maxLen; omega) rfl
  generalize l.take 300 = l' at *
  clear hr hlen c2
  rcases hs with rfl | ⟨b, off, rfl⟩
  · have h0 : l'.length = 0 := by have := HTL.out; omega
    obtain rfl := List.eq_nil_of_length_eq_zero h0
    clear HTL h0 hnil
    cases ad with
    | none =>
      go_enter Tryd.func9, Tryd.ntmps9
      go_wp2_with fail
      go_ret
      exact ⟨_, _, rfl, hown0, hB0⟩
    | some a =>
      go_enter Tryd.func9, Tryd.ntmps9
      go_wp2_with fail
      go_ret
      exact ⟨_, _, rfl, hown0, hB0⟩
  · have hl300 : l'.length ≤ 300 := by have := HTL.out; omega
    clear hnil
    by_cases h300 : 300 < len
    · have HE := Lib.hid (show (bvs l').length = 300 * 1 by rw [bvs_len, HTL.out]; omega)
      have HE2 := Lib.hid (show l'.length = 300 by rw [HTL.out]; omega)
      clear hl300
      go_enter Tryd.func9, Tryd.ntmps9
      go_wp2_with (at_builtin; refine Own.wpList_append2 _ rfl _ _ 22 rfl w.heap.size 5 i0 (.int .u8 0) 1 1 Tryd.underlying22 hi hz0 hz1 hz2 rfl (by decide) _ _ _ rfl hown0 ⟨b, off, none⟩ 300 _ (bvs l') rfl HE.out (c2'.out _ rfl) (bvs_oneCell _) (by unfold maxLen; omega) (by omega) (by simp) ?_; intro v' w1 hown' hgrow _ _)
      rw [Nat.zero_add, show bvs [] = [] from rfl, List.nil_append] at hown'
      obtain ⟨ad2, cap2, rfl, _⟩ := Own.shape hown'
      have hB1 : Below w.heap.size w w1 := hB0.grown hgrow (by simp) (fun k e => by cases e; exact Nat.le_refl _)
      go_wp2_with fail
      go_ret
      unfold BytesPost OwnB
      rw [HE2.out]
      exact ⟨ad2, cap2, rfl, hown', hB1⟩
    · have HE := Lib.hid (show (bvs l').length = len * 1 by rw [bvs_len, HTL.out]; omega)
      have HE2 := Lib.hid (show l'.length = len by rw [HTL.out]; omega)
      clear hl300
      go_enter Tryd.func9, Tryd.ntmps9
      go_wp2_with (at_builtin; refine Own.wpList_append2 _ rfl _ _ 22 rfl w.heap.size 5 i0 (.int .u8 0) 1 1 Tryd.underlying22 hi hz0 hz1 hz2 rfl (by decide) _ _ _ rfl hown0 ⟨b, off, none⟩ len _ (bvs l') rfl HE.out (c2'.out _ rfl) (bvs_oneCell _) (by unfold maxLen; omega) (by omega) (by simp) ?_; intro v' w1 hown' hgrow _ _)
      rw [Nat.zero_add, show bvs [] = [] from rfl, List.nil_append] at hown'
      obtain ⟨ad2, cap2, rfl, _⟩ := Own.shape hown'
      have hB1 : Below w.heap.size w w1 := hB0.grown hgrow (by simp) (fun k e => by cases e; exact Nat.le_refl _)
      go_wp2_with fail
      go_ret
      unfold BytesPost OwnB
      rw [HE2.out]
      exact ⟨ad2, cap2, rfl, hown', hB1⟩
theorem cut_own (ad : Option Addr) (cap : Nat) (l : List UInt8) (W : World) (base : Nat) (h : OwnB W base (.slice ad l.length cap) l) (hl : l.length ≤ 300) (w : World) (hB : Below W.heap.size W w) :
    Calls Tryd.prog 9 #[.slice ad l.length cap] w (BytesPost l w) := by
  obtain ⟨p1, p2, p3, p4⟩ := h.pos
  unfold maxLen at p2
  have := cut_any ad l.length cap l w rfl p1 (by omega) (h.rd.1.below hB) p3 (by
    by_cases h0 : l.length = 0
    · exact .inl h0
    · obtain ⟨g, e, _⟩ := p4 (by omega)
      exact .inr ⟨g, 0, e⟩)
  rwa [List.take_of_length_le hl] at this

/-! The condition on the tables. -/
def laidL : List (String × DataW Unit) := Rows.crcSumsRow.laid
theorem door_met (os : Os) (args : Array Value) : laidMetH Tryd.prog laidL ((World.doorLaid Tryd.prog 33 os).forCall (fun _ _ => 0) ⟨#[], args, []⟩).memory :=
  laidMetH_of_parts3 (fuel := 8) (laidMet_of_run' 8 (by kernel_rfl) (by kernel_rfl)) (by kernel_rfl) (by kernel_rfl)
theorem cell_lt {w : World} {a : Addr} {v : Value} (h : w.cell? a = some v) : a.block < w.heap.size := by
  by_cases hb : a.block < w.heap.size
  · exact hb
  · rw [World.cell?, Array.getElem?_eq_none (by omega)] at h
    simp at h
def tabF : List Int := fourL.map fun n : Nat => (n : Int)
theorem tabF_at (j : Nat) (hj : j < 16) : tabF.getD j 0 = ((fourN j : Nat) : Int) := by
  have : j < fourL.length := hj
  simp [tabF, fourN, List.getD, this]
theorem tabs_of_laid {W : World} (h : laidMetH Tryd.prog laidL W) : Tabs W := by
  rw [MakeChecks.laidMetH_plain _ _ _ (by kernel_rfl)] at h
  have hT := Go.Lib.tabIs_of_head (g := 0) (k := .u32) (zs := tabF) (by kernel_rfl) (by kernel_rfl) Tryd.underlying39 Tryd.underlying24 (by kernel_rfl) (by kernel_rfl) (show laidMet Tryd.prog ((_, Go.Lib.tabData .u32 tabF) :: _) W from h)
  have hc : ∀ j, j < tabF.length → W.cell? ⟨0, j, none⟩ = some (.int .u32 (tabF.getD j 0)) := fun j hj => hT.cell (by kernel_rfl) j hj
  refine ⟨fun j hj => ?_, ?_⟩
  · rw [hc j (by rw [tabF, List.length_map]; exact hj), tabF_at j hj]
  · exact cell_lt (hc 0 (by decide))

/-! The examples. -/
def nine : List UInt8 := [49, 50, 51, 52, 53, 54, 55, 56, 57]
theorem nine_sum : sumB nine = 3421780262 := by decide +kernel
theorem RdB_lit (w : World) (l : List UInt8) (t : TypeId) (f : Nat × Nat) : RdB (w.alloc (.cells (bvs l).toArray t f)) (some ⟨w.heap.size, 0, none⟩) l := by
  refine .inr ⟨_, 0, rfl, fun i hi => ?_⟩
  rw [Nat.zero_add]
  have h := heap_alloc_last w (.cells (bvs l).toArray t f)
  simp only [World.cell?, h]
  simp [hi, bvs, bv]
abbrev nineC : Array Value := #[.int .u8 49, .int .u8 50, .int .u8 51, .int .u8 52, .int .u8 53, .int .u8 54, .int .u8 55, .int .u8 56, .int .u8 57]
theorem nine_cells : (bvs nine).toArray = nineC := by simp [bvs, bv, nine]
theorem works_any (w : World) (hT : Tabs w) :
    Calls Tryd.prog 12 #[] w fun e w' => e = .returned (.bool true) ∧ Below w.heap.size w w' := by
  have kc := fun (w : World) (C : Array Value) (n c : Nat) => Lib.run_convert_bytes_const (P := Tryd.prog) w 22 5 C n c Tryd.underlying22 Tryd.underlying5
  have hB1 : Below w.heap.size w (w.alloc (.cells (bvs nine).toArray 5 (9, 10))) := (Below.refl _ _).alloc (Nat.le_refl _) _
  have C1 := Lib.hid (fun c1 c2 => sum_one (some ⟨w.heap.size, 0, none⟩) 9 c1 nine (w.alloc (.cells (bvs nine).toArray 5 (9, 10))) rfl (by omega) (RdB_lit w nine 5 (9, 10)) (hT.below hB1) c2 _ (show _ = w.heap.size + 1 by simp))
  rw [nine_sum, nine_cells, show ((3421780262 : Nat) : Int) = 3421780262 from rfl] at C1
  rw [nine_cells] at hB1
  have hB2 := hB1.alloc (show w.heap.size ≤ (w.alloc (.cells nineC 5 (9, 10))).heap.size by simp) (.cells #[.slice (some ⟨w.heap.size, 0, none⟩) 9 9] 22)
  have HT2 := Lib.hid (hT.below hB2)
  clear hT
  go_enter Tryd.func12, Tryd.ntmps12
  go_wp2_with fail
  refine (C1.out _ _).mono ?_; rintro e w' ⟨rfl, rfl⟩
  go_wp2_with fail
  refine (sum_none _ HT2.out _ _).mono ?_; rintro e w' ⟨rfl, rfl⟩
  go_wp2_with fail
  go_ret
  exact ⟨rfl, hB2⟩
end Go.Proofs.YtgacljanapmnfaaDoor.Crc
