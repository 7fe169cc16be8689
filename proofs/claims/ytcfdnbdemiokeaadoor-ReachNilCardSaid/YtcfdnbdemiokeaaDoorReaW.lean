/- The law's own helpers for layer 17: are two lists the same, the chapter's example; what the seat's condition on the package-level tables gives. -/
import Derived.Test.YtcfdnbdemiokeaaDoorReaE
import Derived.Test.YtcfdnbdemiokeaaDoorReaK
import Derived.Test.YtcfdnbdemiokeaaDoorReaH
import Derived.Test.YtcfdnbdemiokeaaDoorTie
import Derived.LaidMore
import Derived.MakeChecks
import Derived.Lib.LaidTab
import Derived.Stop.LaidErr
import Derived.Stop.Joined
namespace Go.Proofs.YtcfdnbdemiokeaaDoor.Rea
open Go.ChangeShapes Go.WideShapes Go.ChangeAt Go.RowKit
open Grf (Pr lk RdG OwnG gval GR Ok)
open Nodes (Tabs Rd OwnL)
set_option linter.unusedVariables false
set_option linter.unusedSimpArgs false
theorem ns_any (ad bd : Option Addr) (len ca cb : Nat) (zs : List Int) (w : World) (hlen : zs.length = len) (hm : len ≤ 9223372036854775807) (hr : Rd w ad zs) (hs : Rd w bd zs) :
    Calls Tryd.prog 10 #[.slice ad len ca, .slice bd len cb] w fun e w' => e = .returned (.bool true) ∧ Below w.heap.size w w' := by
  have HL := Lib.hid hlen
  have HR := Lib.hid hr
  have HS := Lib.hid hs
  have ht : (len != len) = false := by simp
  clear hlen hr hs
  go_enter Tryd.func10, Tryd.ntmps10
  go_wp2_with fail
  go_loopw [13] (fun i wr => ∃ k : Nat, k ≤ len ∧ i = .int .i64 k ∧ Below w.heap.size w wr) (fun i _ => len - (intOf i).toNat)
  case atStart => exact ⟨0, Nat.zero_le _, rfl, Below.refl _ _⟩
  case round =>
    obtain ⟨k, hk, rfl, hB⟩ := hrel
    by_cases hlt : k < len
    · obtain ⟨b, off, rfl, hc⟩ := (HR.out.below hB).at (k := k) (by rw [HL.out]; exact hlt)
      obtain ⟨b2, off2, rfl, hc2⟩ := (HS.out.below hB).at (k := k) (by rw [HL.out]; exact hlt)
      generalize zs.getD k 0 = x at *
      have hxx : (x != x) = false := by simp
      go_wp2_with fail
      go_quiet (fail)
      go_wp2_with fail
      go_roundw
      case rel => exact ⟨k + 1, by omega, by go_num, Own.below_drewN hB _⟩
      case measure => simp [intOf]; omega
    · obtain rfl : k = len := by omega
      go_wp2_with fail
      go_ret
      exact ⟨rfl, hB⟩
def R5 : List Pr := [(0, 1), (1, 2), (2, 3), (3, 4), (4, 0)]
theorem r5_is : Grf.ringZ 5 = R5 := by decide +kernel
theorem r5_ok : Ok 5 R5 := by
  have := Grf.ring_ok 5
  rwa [show Grf.ring 5 = R5 by decide +kernel] at this
theorem r5_er : Grf.erF 5 [] R5 = 0 := Grf.ok_er (by simpa using r5_ok)
theorem r5_dst : dstL 5 1 R5 1 = [-1, 0, 1, 2, 3] := by decide +kernel
theorem r5_near : ((List.range 5).all fun x => (List.range 5).all fun y => !(hereB 5 1 x && hereB 5 1 y) || (decide (0 ≤ dst 5 1 R5 x y) && decide (dst 5 1 R5 x y ≤ 3))) = true := by decide +kernel
theorem r5_at {x y : Nat} (hx : hereB 5 1 x = true) (hy : hereB 5 1 y = true) : 0 ≤ dst 5 1 R5 x y ∧ dst 5 1 R5 x y ≤ 3 := by
  have h1 := List.all_eq_true.1 (List.all_eq_true.1 r5_near x (List.mem_range.2 (here_lt hx))) y (List.mem_range.2 (here_lt hy))
  rw [hx, hy] at h1
  simpa using h1
theorem r5_whole : wholeP 5 1 R5 := ⟨⟨1, by decide +kernel⟩, fun x y hx hy => (r5_at hx hy).1⟩
theorem r5_wide : IsWide 5 1 R5 3 := .inr ⟨r5_whole, ⟨1, 4, by decide +kernel, by decide +kernel, by decide +kernel⟩, fun x y hx hy => (r5_at hx hy).2⟩
set_option maxHeartbeats 4000000 in
theorem works17_any (w : World) (hT : Tabs w) : Calls Tryd.prog 14 #[] w fun e w' => e = .returned (.bool true) ∧ Below w.heap.size w w' := by
  have CR := Lib.hid (Grf.ring_any 5 (by unfold Grf.inI; omega) w)
  rw [r5_is] at CR
  have HT := Lib.hid hT
  have CN := Lib.hid (fun ad cap W (hr : RdG W ad R5) => Grf.new_in 5 (by omega) (by omega) ad 5 cap R5 rfl (by omega) (ok_in r5_ok (by omega)) W hr)
  have CD := Lib.hid (fun p W (hg : GP W p 5 R5) (hT : Tabs W) => dist_any p 5 R5 1 1 (by omega) W hg hT)
  have CW := Lib.hid (fun p W (hg : GP W p 5 R5) (hT : Tabs W) => wide_any p 5 R5 1 (by omega) 3 r5_wide W hg hT)
  have CH := Lib.hid (fun p W (hg : GP W p 5 R5) (hT : Tabs W) => whole_any p 5 R5 1 (by omega) W hg hT)
  rw [wholeB_iff.2 r5_whole] at CH
  rw [show src 1 = 1 from rfl, r5_dst] at CD
  have HER := Lib.hid r5_er
  have hl5 : R5.length = 5 := rfl
  unfold Grf.LPost at CR
  rw [hl5] at CR
  clear hT hl5
  generalize R5 = L5 at *
  go_enter Tryd.func14, Tryd.ntmps14
  go_wp2_with fail
  refine (CR.out).mono ?_; rintro e w1 ⟨ad1, cap1, rfl, hown, hB1⟩
  have CNN := Lib.hid (CN.out ad1 cap1 w1 hown.rd.1)
  clear hown CN CR
  go_wp2_with fail
  refine (CNN.out).mono ?_; rintro e w2 ⟨hp, -, hB2⟩
  obtain ⟨g, b, rfl, hG, -, -⟩ := hp HER.out
  have HG2 : Hid (GP w2 (some ⟨g, 0, none⟩) 5 L5) := Lib.hid (.inr ⟨g, b, rfl, hG⟩)
  have HB2 := Lib.hid (hB1.trans (hB2.mono hB1.size))
  have CDD := Lib.hid (CD.out _ w2 HG2.out (HT.out.below HB2.out))
  clear hp hG hB1 hB2 CNN HER CD
  go_wp2_with fail
  refine (CDD.out).mono ?_; rintro e w3 ⟨ad3, cap3, rfl, hown3, hB3⟩
  have HG3 := Lib.hid (HG2.out.below hB3)
  have HB3 := Lib.hid (HB2.out.trans (hB3.mono HB2.out.size))
  have HR3 := Lib.hid (OwnL.rd hown3).1
  have CWW := Lib.hid (CW.out _ w3 HG3.out (HT.out.below HB3.out))
  clear hown3 hB3 CDD CW HG2 HB2
  go_wp2_with fail
  refine (CWW.out).mono ?_; rintro e w4 ⟨rfl, hB4⟩
  have HG4 := Lib.hid (HG3.out.below hB4)
  have HB4 := Lib.hid (HB3.out.trans (hB4.mono HB3.out.size))
  have hR4 := HR3.out.below hB4
  obtain ⟨b3, o3, rfl, d0⟩ := hR4.at (k := 0) (by simp)
  obtain ⟨b4, o4, e4, d4⟩ := hR4.at (k := 4) (by simp)
  cases e4
  simp only [List.getD_cons_zero, List.getD_cons_succ, Nat.add_zero] at d0 d4
  have CHH := Lib.hid (CH.out _ w4 HG4.out (HT.out.below HB4.out))
  clear hR4 hB4 CWW CH HG3 HB3
  go_wp2_with fail
  refine (CHH.out).mono ?_; rintro e w5 ⟨rfl, hB5⟩
  go_wp2_with fail
  go_ret
  exact ⟨rfl, HB4.out.trans (hB5.mono HB4.out.size)⟩

/-! The condition on the table. -/
theorem cellLt {w : World} {a : Addr} {v : Value} (h : w.cell? a = some v) : a.block < w.heap.size := by
  by_cases hb : a.block < w.heap.size
  · exact hb
  · rw [World.cell?, Array.getElem?_eq_none (by omega)] at h
    simp at h
def laidL : List (String × DataW Unit) := Rows.reachNilRow.laid
theorem door_met (os : Os) (args : Array Value) : laidMetH Tryd.prog laidL ((World.doorLaid Tryd.prog 14 os).forCall (fun _ _ => 0) ⟨#[], args, []⟩).memory :=
  laidMetH_of_parts3 (fuel := 8) (laidMet_of_run' 8 (by kernel_rfl) (by kernel_rfl)) (by kernel_rfl) (by kernel_rfl)
def tab64 : List Int := Go.Lib.deBruijn64tab.map fun n : Nat => (n : Int)
theorem tab64_at (j : Nat) (hj : j < Go.Lib.deBruijn64tab.length) : tab64.getD j 0 = ((Go.Lib.deBruijn64tab.getD j 0 : Nat) : Int) := by
  simp [tab64, List.getD, hj]
theorem tabs_of_laid {W : World} (h : laidMetH Tryd.prog laidL W) : Tabs W := by
  rw [MakeChecks.laidMetH_plain _ _ _ (by kernel_rfl)] at h
  have hT := Go.Lib.tabIs_of_head (g := 0) (k := .u8) (zs := tab64) (by kernel_rfl) (by kernel_rfl) Tryd.underlying82 Tryd.underlying5 (by kernel_rfl) (by kernel_rfl) (show laidMet Tryd.prog ((_, Go.Lib.tabData .u8 tab64) :: _) W from h)
  have hc : ∀ j, j < tab64.length → W.cell? ⟨0, j, none⟩ = some (.int .u8 (tab64.getD j 0)) := fun j hj => hT.cell (by kernel_rfl) j hj
  refine ⟨fun j hj => ?_, ?_⟩
  · rw [hc j (by rw [tab64, List.length_map]; exact hj), tab64_at j hj]
  · exact cellLt (hc 0 (by decide))
end Go.Proofs.YtcfdnbdemiokeaaDoor.Rea
