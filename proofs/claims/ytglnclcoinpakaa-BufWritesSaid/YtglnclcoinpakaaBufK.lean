/- The chapter's example; items read by the program, and by the document. -/
import Derived.Test.YtglnclcoinpakaaBufJ
import Derived.Test.YtglnclcoinpakaaBufG
import Derived.Test.YtglnclcoinpakaaBufI
namespace Go.Proofs.Ytglnclcoinpakaa.Buf
open Go.ChangeShapes Go.WideShapes Go.ChangeAt Go.RowKit
open Go.Proofs.Ytglnclcoinpakaa.Byt Go.Proofs.Ytglnclcoinpakaa.Units Go.Proofs.Ytglnclcoinpakaa.BufM
set_option linter.unusedVariables false

theorem ex1 : wNum (5 : Int).toNat (0, []) 300 = (0, [172, 2]) := by
  unfold wNum
  rw [show sev 300 = [172, 2] from by rw [sev_big (by omega), sev_small (by omega)]; rfl]
  rfl
theorem ex2 : wNum (5 : Int).toNat (0, [172, 2]) (zigN (-1)) = (0, [172, 2, 1]) := by
  unfold wNum
  rw [show zigN (-1) = 1 from by decide, sev_small (by omega)]
  rfl
theorem ex3 : wFix (5 : Int).toNat (0, [172, 2, 1]) 258 2 = (0, [172, 2, 1, 2, 1]) := by decide
set_option maxHeartbeats 400000 in
theorem works_any (w : World) :
    Calls Try.prog 12 #[] w fun e w' => e = .returned (.bool true) ∧ Below w.heap.size w w' := by
  have C0 := Lib.hid (new_any 5 (by omega) w)
  have CA : Hid (∀ w1, WR w1 w.heap.size w.heap.size (5 : Int).toNat (0, []) none → Below w.heap.size w w1 → Calls Try.prog 21 #[.pointer (some ⟨w.heap.size, 0, none⟩), .int .u64 300] w1 (WPost w1 w.heap.size w.heap.size (5 : Int).toNat none (0, [172, 2]))) := Lib.hid (fun w1 h _ => by
    have := num_any w.heap.size w.heap.size (5 : Int).toNat (0, []) none 300 w1 h (by omega) (by simp)
    rwa [ex1] at this)
  have CB : Hid (∀ w1 row, WR w1 w.heap.size w.heap.size (5 : Int).toNat (0, [172, 2]) row → Calls Try.prog 24 #[.pointer (some ⟨w.heap.size, 0, none⟩), .int .i64 (-1)] w1 (WPost w1 w.heap.size w.heap.size (5 : Int).toNat row (0, [172, 2, 1]))) := Lib.hid (fun w1 row h => by
    have := int_any w.heap.size w.heap.size (5 : Int).toNat (0, [172, 2]) row (-1) w1 h (by omega) (by omega) (by simp)
    rwa [ex2] at this)
  have CC : Hid (∀ w1 row, WR w1 w.heap.size w.heap.size (5 : Int).toNat (0, [172, 2, 1]) row → Calls Try.prog 23 #[.pointer (some ⟨w.heap.size, 0, none⟩), .int .u64 258, .int .i64 2] w1 (WPost w1 w.heap.size w.heap.size (5 : Int).toNat row (0, [172, 2, 1, 2, 1]))) := Lib.hid (fun w1 row h => by
    have := fixed_any w.heap.size w.heap.size (5 : Int).toNat (0, [172, 2, 1]) row 258 2 w1 h (by omega) (by simp)
    rwa [ex3] at this)
  have CD : Hid (∀ w1 row, WR w1 w.heap.size w.heap.size (5 : Int).toNat (0, [172, 2, 1, 2, 1]) row → Calls Try.prog 11 #[.pointer (some ⟨w.heap.size, 0, none⟩)] w1 (fun e w2 => ∃ ad cap, e = .returned (.tuple #[.slice ad 5 cap, .int .i64 0]) ∧ Below w1.heap.size w1 w2 ∧ (convert 25 9 (.slice ad 5 cap)).run Try.prog w2 = .ok (.string ⟨#[172, 2, 1, 2, 1]⟩) w2)) := Lib.hid (fun w1 row h => (done_any w.heap.size w.heap.size (5 : Int).toNat _ row w1 h (by simp)).mono fun e w2 hh => by
    obtain ⟨v, rfl, ho, hB⟩ := hh
    simp only [if_true] at ho
    obtain ⟨ad, cap, rfl, _⟩ := Own.shape ho
    exact ⟨ad, cap, rfl, hB, ho.str (Below.refl _ _)⟩)
  go_enter Try.func12, Try.ntmps12
  go_wp2_with fail
  refine (C0.out).mono ?_; rintro e w1 ⟨rfl, hr, hB, hs⟩
  have CA := Lib.hid (CA.out w1 hr hB)
  have HB1 := Lib.hid hB
  clear hr hB hs
  go_wp2_with fail
  refine (CA.out).mono ?_; rintro e w2 ⟨rfl, row2, hr, hst⟩
  have CB := Lib.hid (CB.out w2 _ hr)
  have HB2 := Lib.hid (HB1.out.trans hst.below)
  clear hr hst
  go_wp2_with fail
  refine (CB.out).mono ?_; rintro e w3 ⟨rfl, row3, hr, hst⟩
  have CC := Lib.hid (CC.out w3 _ hr)
  have HB3 := Lib.hid (HB2.out.trans hst.below)
  clear hr hst
  go_wp2_with fail
  refine (CC.out).mono ?_; rintro e w4 ⟨rfl, row4, hr, hst⟩
  have CD := Lib.hid (CD.out w4 _ hr)
  have HB4 := Lib.hid (HB3.out.trans hst.below)
  clear hr hst
  go_wp2_with fail
  refine (CD.out).mono ?_; rintro e w5 ⟨ad, cap, rfl, hB, hR⟩
  have HB5 := Lib.hid (HB4.out.trans (hB.mono HB4.out.size))
  clear hB
  go_wp2_with fail
  go_ret
  exact ⟨rfl, HB5.out⟩
end Go.Proofs.Ytglnclcoinpakaa.Buf
