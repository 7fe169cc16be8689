/- The chapter's example (layer 18), and what the seat's condition on the package-level tables gives. -/
import Derived.Test.YtbgigimapogkcaaDoorCutT
import Derived.Test.YtbgigimapogkcaaDoorGrfE
import Derived.Test.YtbgigimapogkcaaDoorTie
import Derived.LaidMore
import Derived.MakeChecks
import Derived.Lib.LaidTab
import Derived.Stop.LaidErr
import Derived.Stop.Joined
namespace Go.Proofs.YtbgigimapogkcaaDoor.Cut
open Go.ChangeShapes Go.WideShapes Go.ChangeAt Go.RowKit
open Grf (Pr lk RdG OwnG gval GR Ok)
open Nodes (Tabs)
open Rea (GP wholeB wholeP wholeB_iff hereB here_lt dst ok_in)
set_option linter.unusedVariables false
set_option linter.unusedSimpArgs false
/-- Whole, as it is reckoned. -/
def wD (n S : Nat) (L : List Pr) : Bool := ((List.range n).any (hereB n S)) && (List.range n).all fun x => (List.range n).all fun y => !(hereB n S x && hereB n S y) || decide (0 ≤ dst n S L x y)
theorem wD_iff {n S : Nat} {L : List Pr} : wD n S L = true ↔ wholeP n S L := by
  unfold wD wholeP
  rw [Bool.and_eq_true, List.any_eq_true, List.all_eq_true]
  constructor
  · rintro ⟨⟨x, -, hx⟩, h⟩
    refine ⟨⟨x, hx⟩, fun x y hx hy => ?_⟩
    have := List.all_eq_true.1 (h x (List.mem_range.2 (here_lt hx))) y (List.mem_range.2 (here_lt hy))
    rw [hx, hy] at this
    simpa using this
  · rintro ⟨⟨x, hx⟩, h⟩
    refine ⟨⟨x, List.mem_range.2 (here_lt hx), hx⟩, fun x _ => List.all_eq_true.2 fun y _ => ?_⟩
    cases hx : hereB n S x with
    | false => simp
    | true =>
      cases hy : hereB n S y with
      | false => simp
      | true => simpa using h x y hx hy
theorem wD_eq (n S : Nat) (L : List Pr) : wholeB n S L = wD n S L := by
  rw [Bool.eq_iff_iff, wholeB_iff, wD_iff]
def R4 : List Pr := [(0, 1), (1, 2), (2, 3), (3, 0)]
theorem r4_is : Grf.ringZ 4 = R4 := by decide +kernel
theorem r4_ok : Ok 4 R4 := by
  have := Grf.ring_ok 4
  rwa [show Grf.ring 4 = R4 by decide +kernel] at this
theorem r4_er : Grf.erF 4 [] R4 = 0 := Grf.ok_er (by simpa using r4_ok)
theorem r4_first (f : Int) : firstO 4 R4 f = (upTo 4 (manyN 4 (min f 3))).find? fun s => !wD 4 s R4 := by
  unfold firstO
  congr 1
  funext s
  rw [wD_eq]
theorem r4_two : firstO 4 R4 2 = some 5 := by rw [r4_first]; decide +kernel
theorem r4_str : strP 4 R4 = 1 := by
  have : firstO 4 R4 3 = some 5 := by rw [r4_first]; decide +kernel
  unfold strP
  rw [this]
  decide +kernel
theorem r4_safe : safeB 4 R4 1 = true := by
  have : firstO 4 R4 1 = none := by rw [r4_first]; decide +kernel
  unfold safeB
  rw [this]
  decide
theorem r4_whole : wholeB 4 2 R4 = true := by rw [wD_eq]; decide +kernel
set_option maxRecDepth 100000 in
set_option maxHeartbeats 4000000 in
theorem works18_any (w : World) (hT : Tabs w) : Calls Tryd.prog 14 #[] w fun e w' => e = .returned (.bool true) ∧ Below w.heap.size w w' := by
  have CR := Lib.hid (Grf.ring_any 4 (by unfold Grf.inI; omega) w)
  rw [r4_is] at CR
  have HT := Lib.hid hT
  have CN := Lib.hid (fun ad cap W (hr : RdG W ad R4) => Grf.new_in 4 (by omega) (by omega) ad 4 cap R4 rfl (by omega) (ok_in r4_ok (by omega)) W hr)
  have CF := Lib.hid (fun p W (hg : GP W p 4 R4) (hT : Tabs W) => first_any p 4 R4 2 (by omega) W hg hT)
  have CS := Lib.hid (fun p W (hg : GP W p 4 R4) (hT : Tabs W) => strength_any p 4 R4 W hg hT)
  have CA := Lib.hid (fun p W (hg : GP W p 4 R4) (hT : Tabs W) => safe_any p 4 R4 1 (by omega) W hg hT)
  have CC := Lib.hid (fun p W (hg : GP W p 4 R4) (hT : Tabs W) => cuts_any p 4 R4 2 (by omega) W hg hT)
  rw [r4_two] at CF
  rw [r4_str] at CS
  rw [r4_safe] at CA
  rw [r4_whole] at CC
  have HER := Lib.hid r4_er
  have hl4 : R4.length = 4 := rfl
  unfold Grf.LPost at CR
  rw [hl4] at CR
  clear hT hl4
  generalize R4 = L4 at *
  go_enter Tryd.func14, Tryd.ntmps14
  go_wp2_with fail
  refine (CR.out).mono ?_; rintro e w1 ⟨ad1, cap1, rfl, hown, hB1⟩
  have CNN := Lib.hid (CN.out ad1 cap1 w1 hown.rd.1)
  clear hown CN CR
  go_wp2_with fail
  refine (CNN.out).mono ?_; rintro e w2 ⟨hp, -, hB2⟩
  obtain ⟨g, b, rfl, hG, -, -⟩ := hp HER.out
  have HG2 : Hid (GP w2 (some ⟨g, 0, none⟩) 4 L4) := Lib.hid (.inr ⟨g, b, rfl, hG⟩)
  have HB2 := Lib.hid (hB1.trans (hB2.mono hB1.size))
  have CDD := Lib.hid (CF.out _ w2 HG2.out (HT.out.below HB2.out))
  clear hp hG hB1 hB2 CNN HER CF
  go_wp2_with fail
  refine (CDD.out).mono ?_; rintro e w3 ⟨rfl, hB3⟩
  have HG3 := Lib.hid (HG2.out.below hB3)
  have HB3 := Lib.hid (HB2.out.trans (hB3.mono HB2.out.size))
  have CWW := Lib.hid (CS.out _ w3 HG3.out (HT.out.below HB3.out))
  clear hB3 CDD CS HG2 HB2
  go_wp2_with fail
  refine (CWW.out).mono ?_; rintro e w4 ⟨rfl, hB4⟩
  have HG4 := Lib.hid (HG3.out.below hB4)
  have HB4 := Lib.hid (HB3.out.trans (hB4.mono HB3.out.size))
  have CAA := Lib.hid (CA.out _ w4 HG4.out (HT.out.below HB4.out))
  clear hB4 CWW CA HG3 HB3
  go_wp2_with fail
  refine (CAA.out).mono ?_; rintro e w5 ⟨rfl, hB5⟩
  have HG5 := Lib.hid (HG4.out.below hB5)
  have HB5 := Lib.hid (HB4.out.trans (hB5.mono HB4.out.size))
  have CHH := Lib.hid (CC.out _ w5 HG5.out (HT.out.below HB5.out))
  clear hB5 CAA CC HG4 HB4
  go_wp2_with fail
  refine (CHH.out).mono ?_; rintro e w6 ⟨rfl, hB6⟩
  go_wp2_with fail
  go_ret
  exact ⟨rfl, HB5.out.trans (hB6.mono HB5.out.size)⟩

/-! The condition on the table. -/
theorem cellLt {w : World} {a : Addr} {v : Value} (h : w.cell? a = some v) : a.block < w.heap.size := by
  by_cases hb : a.block < w.heap.size
  · exact hb
  · rw [World.cell?, Array.getElem?_eq_none (by omega)] at h
    simp at h
def laidL : List (String × DataW Unit) := Rows.cutCutsRow.laid
theorem door_met (os : Os) (args : Array Value) : laidMetH Tryd.prog laidL ((World.doorLaid Tryd.prog 14 os).forCall (fun _ _ => 0) ⟨#[], args, []⟩).memory :=
  laidMetH_of_parts3 (fuel := 8) (laidMet_of_run' 8 (by kernel_rfl) (by kernel_rfl)) (by kernel_rfl) (by kernel_rfl)
def tab64 : List Int := Go.Lib.deBruijn64tab.map fun n : Nat => (n : Int)
theorem tab64_at (j : Nat) (hj : j < Go.Lib.deBruijn64tab.length) : tab64.getD j 0 = ((Go.Lib.deBruijn64tab.getD j 0 : Nat) : Int) := by
  simp [tab64, List.getD, hj]
theorem tabs_of_laid {W : World} (h : laidMetH Tryd.prog laidL W) : Tabs W := by
  rw [MakeChecks.laidMetH_plain _ _ _ (by kernel_rfl)] at h
  have hT := Go.Lib.tabIs_of_head (g := 0) (k := .u8) (zs := tab64) (by kernel_rfl) (by kernel_rfl) Tryd.underlying96 Tryd.underlying5 (by kernel_rfl) (by kernel_rfl) (show laidMet Tryd.prog ((_, Go.Lib.tabData .u8 tab64) :: _) W from h)
  have hc : ∀ j, j < tab64.length → W.cell? ⟨0, j, none⟩ = some (.int .u8 (tab64.getD j 0)) := fun j hj => hT.cell (by kernel_rfl) j hj
  refine ⟨fun j hj => ?_, ?_⟩
  · rw [hc j (by rw [tab64, List.length_map]; exact hj), tab64_at j hj]
  · exact cellLt (hc 0 (by decide))
end Go.Proofs.YtbgigimapogkcaaDoor.Cut
