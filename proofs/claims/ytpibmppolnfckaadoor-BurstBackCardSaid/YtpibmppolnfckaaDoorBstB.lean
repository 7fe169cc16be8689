/- The statements' Cut of layer burst (15): bytes kept short. -/
import Derived.Test.YtpibmppolnfckaaDoorBytA
import Derived.Deep.WholeRow
import Derived.Lib.SlBytesConst
namespace Go.Proofs.YtpibmppolnfckaaDoor.Bst
open Go.ChangeShapes Go.WideShapes Go.ChangeAt Go.RowKit
open Go.Proofs.YtpibmppolnfckaaDoor.Byt
set_option linter.unusedVariables false
set_option maxRecDepth 100000
theorem cut_any (ad : Option Addr) (len cap : Nat) (l : List UInt8) (w : World) (hlen : l.length = len) (hc : len ≤ cap) (hm : cap ≤ 9223372036854775807) (hr : RdB w ad l) (hnil : ad = none → cap = 0) (hs : len = 0 ∨ ∃ b off, ad = some ⟨b, off, none⟩) :
    Calls Tryd.prog 7 #[.slice ad len cap] w (BytesPost (l.take 200) w) := by
  obtain ⟨i0, hi, hz0, hz1, hz2⟩ := info_parts infoByte
  have HTL := Lib.hid (show (l.take 200).length = min len 200 by rw [List.length_take, hlen]; omega)
  have c2 := Lib.hid (RdB.cells (hr.take 200))
  have c2' : Hid (∀ a', ad = some a' → ∀ j u, (bvs (l.take 200))[j]? = some u → (w.alloc (.cells #[] 5)).cell? (a'.add j) = some u) := Lib.hid (RdB.cells ((hr.take 200).below ((Below.refl _ _).alloc (Nat.le_refl _) _)))
  have hB0 : Below w.heap.size w (w.alloc (.cells #[] 5)) := (Below.refl _ _).alloc (Nat.le_refl _) _
  have hown0 : (w.alloc (.cells #[] 5)).ownsRow w.heap.size 5 1 (.slice (some ⟨w.heap.size, 0, none⟩) 0 0) 0 (bvs []) := World.ownsRow_lit (size := 1) w #[] 0 (Nat.le_refl _) (by unfold maxLen; omega) rfl
  generalize l.take 200 = l' at *
  clear hr hlen c2
  rcases hs with rfl | ⟨b, off, rfl⟩
  · have h0 : l'.length = 0 := by have := HTL.out; omega
    obtain rfl := List.eq_nil_of_length_eq_zero h0
    clear HTL h0 hnil
    cases ad with
    | none =>
      go_enter Tryd.func7, Tryd.ntmps7
      go_wp2_with fail
      go_ret
      exact ⟨_, _, rfl, hown0, hB0⟩
    | some a =>
      go_enter Tryd.func7, Tryd.ntmps7
      go_wp2_with fail
      go_ret
      exact ⟨_, _, rfl, hown0, hB0⟩
  · have hl200 : l'.length ≤ 200 := by have := HTL.out; omega
    clear hnil
    by_cases h200 : 200 < len
    · have HE := Lib.hid (show (bvs l').length = 200 * 1 by rw [bvs_len, HTL.out]; omega)
      have HE2 := Lib.hid (show l'.length = 200 by rw [HTL.out]; omega)
      clear hl200
      go_enter Tryd.func7, Tryd.ntmps7
      go_wp2_with (at_builtin; refine Own.wpList_append2 _ rfl _ _ 22 rfl w.heap.size 5 i0 (.int .u8 0) 1 1 Tryd.underlying22 hi hz0 hz1 hz2 rfl (by decide) _ _ _ rfl hown0 ⟨b, off, none⟩ 200 _ (bvs l') rfl HE.out (c2'.out _ rfl) (bvs_oneCell _) (by unfold maxLen; omega) (by omega) (by simp) ?_; intro v' w1 hown' hgrow _ _)
      rw [Nat.zero_add, show bvs [] = [] from rfl, List.nil_append] at hown'
      obtain ⟨ad2, cap2, rfl, _⟩ := Own.shape hown'
      have hB1 : Below w.heap.size w w1 := hB0.grown hgrow (by simp) (fun k e => by cases e; exact Nat.le_refl _)
      go_wp2_with fail
      go_ret
      unfold BytesPost OwnB
      rw [HE2.out]
      exact ⟨ad2, cap2, rfl, hown', hB1⟩
    · have HE := Lib.hid (show (bvs l').length = len * 1 by rw [bvs_len, HTL.out]; omega)
      have HE2 := Lib.hid (show l'.length = len by rw [HTL.out]; omega)
      clear hl200
      go_enter Tryd.func7, Tryd.ntmps7
      go_wp2_with (at_builtin; refine Own.wpList_append2 _ rfl _ _ 22 rfl w.heap.size 5 i0 (.int .u8 0) 1 1 Tryd.underlying22 hi hz0 hz1 hz2 rfl (by decide) _ _ _ rfl hown0 ⟨b, off, none⟩ len _ (bvs l') rfl HE.out (c2'.out _ rfl) (bvs_oneCell _) (by unfold maxLen; omega) (by omega) (by simp) ?_; intro v' w1 hown' hgrow _ _)
      rw [Nat.zero_add, show bvs [] = [] from rfl, List.nil_append] at hown'
      obtain ⟨ad2, cap2, rfl, _⟩ := Own.shape hown'
      have hB1 : Below w.heap.size w w1 := hB0.grown hgrow (by simp) (fun k e => by cases e; exact Nat.le_refl _)
      go_wp2_with fail
      go_ret
      unfold BytesPost OwnB
      rw [HE2.out]
      exact ⟨ad2, cap2, rfl, hown', hB1⟩
theorem cut_own (ad : Option Addr) (cap : Nat) (l : List UInt8) (W : World) (base : Nat) (h : OwnB W base (.slice ad l.length cap) l) (hl : l.length ≤ 200) (w : World) (hB : Below W.heap.size W w) :
    Calls Tryd.prog 7 #[.slice ad l.length cap] w (BytesPost l w) := by
  obtain ⟨p1, p2, p3, p4⟩ := h.pos
  unfold maxLen at p2
  have := cut_any ad l.length cap l w rfl p1 (by omega) (h.rd.1.below hB) p3 (by
    by_cases h0 : l.length = 0
    · exact .inl h0
    · obtain ⟨g, e, _⟩ := p4 (by omega)
      exact .inr ⟨g, 0, e⟩)
  rwa [List.take_of_length_le hl] at this

end Go.Proofs.YtpibmppolnfckaaDoor.Bst
