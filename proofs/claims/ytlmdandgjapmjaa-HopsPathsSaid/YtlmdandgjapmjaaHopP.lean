/- Contracts of package hops (layer 19): paths of a graph, and how many links one may have. -/
import Derived.Test.YtlmdandgjapmjaaHopM
import Derived.Test.YtlmdandgjapmjaaGrfB
import Derived.Test.YtlmdandgjapmjaaReaA
import Derived.Test.YtlmdandgjapmjaaIntA
namespace Go.Proofs.Ytlmdandgjapmjaa.Hop
open Go.ChangeShapes Go.WideShapes Go.ChangeAt Go.RowKit
open Grf (Pr lk inI)
open Rea (GP)
set_option linter.unusedVariables false
set_option maxRecDepth 100000
theorem gplinked_any (p : Option Addr) (n : Nat) (L : List Pr) (x y : Int) (hx : inI x) (hy : inI y) (w : World) (h : GP w p n L) :
    Calls Try.prog 23 #[.pointer p, .int .i64 x, .int .i64 y] w fun e w' => e = .returned (.bool (lk L x y)) ∧ Below w.heap.size w w' := by
  rcases h with ⟨rfl, rfl, rfl⟩ | ⟨g, b, rfl, hG⟩
  · refine (Grf.linked_nil x y w).mono ?_
    rintro e w' ⟨rfl, rfl⟩
    exact ⟨rfl, Below.refl _ _⟩
  · exact Grf.linked_any g b n L x y hx hy w hG
theorem limit_any (p : Option Addr) (n : Nat) (L : List Pr) (w : World) (h : GP w p n L) :
    Calls Try.prog 10 #[.pointer p] w fun e w' => e = .returned (.int .i64 (max ((n : Int) - 1) 0)) ∧ w = w' := by
  have hn := h.le
  have CN := Lib.hid (fun W (hW : GP W p n L) => Rea.gpn_any p n L W hW)
  have HG := Lib.hid h
  clear h
  go_enter Try.func10, Try.ntmps10
  go_wp2_with fail
  refine (CN.out _ HG.out).mono ?_; rintro e w' ⟨rfl, rfl⟩
  go_wp2_with fail
  go_ret
  exact ⟨rfl, rfl⟩
/-- Which nodes were there, as an array's cells. -/
def bcells (l : List Int) (k : Nat) : Array Value := ((List.range 64).map fun i : Nat => Value.bool (beenB l k (i : Int))).toArray
theorem bcells_at (l : List Int) (k : Nat) {i : Nat} (hi : i < 64) : (bcells l k)[i]? = some (.bool (beenB l k (i : Int))) := by simp [bcells, hi]
theorem bcells_zero (l : List Int) : bcells l 0 = (List.replicate 64 (.bool false)).toArray := by
  unfold bcells
  have e : (fun i : Nat => Value.bool (beenB l 0 (i : Int))) = fun _ => Value.bool false := by funext i; simp [beenB]
  rw [e]
  rfl
theorem bcells_put {l : List Int} {k x : Nat} (hk : k < l.length) (hx : l.getD k 0 = (x : Int)) : (bcells l k).setIfInBounds x (.bool true) = bcells l (k + 1) := by
  apply Array.ext_getElem?
  intro i
  have hs : ∀ k, (bcells l k).size = 64 := fun k => by simp [bcells]
  rw [Array.getElem?_setIfInBounds, hs]
  by_cases hi : i < 64
  · rw [bcells_at _ _ hi, bcells_at _ _ hi, been_succ hk, hx]
    by_cases h1 : x = i
    · subst h1
      rw [if_pos rfl, if_pos hi]
      simp
    · rw [if_neg h1, decide_eq_false (show ¬ (x : Int) = (i : Int) by omega), Bool.or_false]
  · rw [Array.getElem?_eq_none (by rw [hs]; omega), Array.getElem?_eq_none (by rw [hs]; omega)]
    split <;> (try split) <;> first | rfl | omega
theorem ret_bP {a b : Bool} (h : a = b) : Ending.returned (.bool a) = .returned (.bool b) := by rw [h]
theorem zeroBs (w : World) : (zeroValue 58).run Try.prog w = .ok (.agg (List.replicate 64 (.bool false)).toArray) w := by kernel_rfl
set_option maxHeartbeats 4000000 in
theorem hpath_any (p : Option Addr) (n : Nat) (L : List Pr) (ad : Option Addr) (len cap : Nat) (l : List Int) (w : World) (h : GP w p n L) (hlen : l.length = len) (hm : len < 9223372036854775807) (hz : ∀ i, i < len → inI (l.getD i 0)) (hr : Ints.Rd w ad l) :
    Calls Try.prog 9 #[.pointer p, .slice ad len cap] w fun e w' => e = .returned (.bool (pathB n L l)) ∧ Below w.heap.size w w' := by
  have hn := h.le
  have HLEN := Lib.hid hlen
  have HZ := Lib.hid hz
  have HR := Lib.hid hr
  have CN := Lib.hid (fun W (hB : Below w.heap.size w W) => Rea.gpn_any p n L W (h.below hB))
  have CL := Lib.hid (fun x y (hx : inI x) (hy : inI y) W (hB : Below w.heap.size w W) => gplinked_any p n L x y hx hy W (h.below hB))
  obtain ⟨w0, hw0⟩ : ∃ w0, Hid (w0 = w.alloc (.cells (List.replicate 64 (.bool false)).toArray 58)) := ⟨_, Lib.hid rfl⟩
  have HB0 : Hid (Below w.heap.size w w0) := Lib.hid (by rw [hw0.out]; exact (Below.refl _ _).alloc (Nat.le_refl _) _)
  have HK0 : Hid (Rw.Blk w0 w.heap.size 58 (bcells l 0)) := Lib.hid (by rw [hw0.out, bcells_zero]; exact Rw.Blk.new _ _ _)
  clear h hlen hz hr
  have hzz := zeroBs
  generalize List.replicate 64 (Value.bool false) = zs at *
  go_enter Try.func9, Try.ntmps9
  go_upto_region 2 with fail
  rw [← hw0.out]
  clear hw0 hzz
  go_wp2_with fail
  go_loopw [10] (fun i wr => ∃ k : Nat, k ≤ len ∧ i = .int .i64 k ∧ Hid (Below w.heap.size w wr) ∧ Hid (Rw.Blk wr w.heap.size 58 (bcells l k)) ∧ Hid (∀ j, j < k → stepP n L l j)) (fun i _ => len - (intOf i).toNat)
  case atStart => exact ⟨0, Nat.zero_le _, rfl, HB0, HK0, Lib.hid (fun j hj => absurd hj (by omega))⟩
  case round =>
    clear HB0 HK0
    obtain ⟨k, hk, rfl, HB, HK, HS⟩ := hrel
    by_cases hlt : k < len
    · obtain ⟨b, off, rfl, hc⟩ := (HR.out.below HB.out).at (k := k) (by rw [HLEN.out]; exact hlt)
      obtain ⟨z, hzk⟩ : ∃ z, Hid (l.getD k 0 = z) := ⟨_, Lib.hid rfl⟩
      rw [hzk.out] at hc
      have HNO := Lib.hid (path_no (n := n) (L := L) (l := l) (k := k) (by rw [HLEN.out]; exact hlt))
      have CN1 := Lib.hid (CN.out wr HB.out)
      by_cases h0 : z < 0
      · have HP := Lib.hid (HNO.out (step_no_low hzk.out (by omega)))
        go_wp2_with fail
        go_ret
        exact ⟨ret_bP HP.out.symm, HB.out⟩
      · obtain ⟨x, rfl⟩ := Int.eq_ofNat_of_zero_le (show 0 ≤ z by omega)
        by_cases h1 : n ≤ x
        · have HP := Lib.hid (HNO.out (step_no_high hzk.out (by omega)))
          go_wp2_with fail
          refine (CN1.out).mono ?_; rintro e w' ⟨rfl, rfl⟩
          go_wp2_with fail
          go_ret
          exact ⟨ret_bP HP.out.symm, HB.out⟩
        · have h1' : x < n := by omega
          have hx64 : x < 64 := by omega
          have hcb := (HK.out.cell x).trans (bcells_at l k hx64)
          cases hb : beenB l k (x : Int) with
          | true =>
            rw [hb] at hcb
            have HP := Lib.hid (HNO.out (step_no_been (by rw [HLEN.out]; omega) hzk.out hb))
            clear hb h0
            go_wp2_with fail
            refine (CN1.out).mono ?_; rintro e w' ⟨rfl, rfl⟩
            go_wp2_with fail
            go_ret
            exact ⟨ret_bP HP.out.symm, HB.out⟩
          | false =>
            rw [hb] at hcb
            have HBF := Lib.hid hb
            have HPUT := Lib.hid (bcells_put (k := k) (by rw [HLEN.out]; exact hlt) hzk.out)
            clear hb h0
            rcases k with _ | k
            · have HST := Lib.hid (step_yes (n := n) (L := L) (l := l) (k := 0) (by omega) hzk.out (by omega) (show (x : Int) < n by omega) HBF.out (fun h => absurd h (by omega)))
              rw [Nat.add_zero] at hc
              have hf := HK.out.free x
              have HK1 := Lib.hid (HK.out.put x (.bool true))
              rw [HPUT.out] at HK1
              have HB1 := Lib.hid (HB.out.setCell (p := ⟨w.heap.size, x, none⟩) (Nat.le_refl _) (.bool true))
              go_wp2_with fail
              refine (CN1.out).mono ?_; rintro e w' ⟨rfl, rfl⟩
              go_wp2_with fail
              go_roundw
              case rel => exact ⟨1, by omega, by go_num, HB1, HK1, Lib.hid (steps_succ HS.out HST.out)⟩
              case measure => simp [intOf]; omega
            · obtain ⟨b', off', e', hc'⟩ := (HR.out.below HB.out).at (k := k) (by rw [HLEN.out]; omega)
              cases e'
              obtain ⟨y, hy⟩ : ∃ y, Hid (l.getD k 0 = y) := ⟨_, Lib.hid rfl⟩
              rw [hy.out] at hc'
              have hyi : inI y := by rw [← hy.out]; exact HZ.out k (by omega)
              have CL1 := Lib.hid (CL.out y (x : Int) hyi (by unfold inI; omega) wr HB.out)
              have hk1 : (0 : Int) < (k : Int) + 1 := by omega
              cases hl : lk L y (x : Int) with
              | false =>
                have HP := Lib.hid (HNO.out (step_no_link hzk.out (by omega) (by rw [Nat.add_sub_cancel, hy.out]; exact hl)))
                rw [hl] at CL1
                clear hl hyi
                go_wp2_with fail
                refine (CN1.out).mono ?_; rintro e w' ⟨rfl, rfl⟩
                go_wp2_with fail
                refine (CL1.out).mono ?_; rintro e w1 ⟨rfl, hB1⟩
                have HB1 := Lib.hid (HB.out.trans (hB1.mono HB.out.size))
                clear hB1
                go_wp2_with fail
                go_ret
                exact ⟨ret_bP HP.out.symm, HB1.out⟩
              | true =>
                have HST := Lib.hid (step_yes (n := n) (L := L) (l := l) (k := k + 1) (by rw [HLEN.out]; omega) hzk.out (by omega) (show (x : Int) < n by omega) HBF.out (fun _ => by rw [Nat.add_sub_cancel, hy.out]; exact hl))
                rw [hl] at CL1
                clear hl hyi
                go_wp2_with fail
                refine (CN1.out).mono ?_; rintro e w' ⟨rfl, rfl⟩
                go_wp2_with fail
                refine (CL1.out).mono ?_; rintro e w1 ⟨rfl, hB1⟩
                have HB1 := Lib.hid (HB.out.trans (hB1.mono HB.out.size))
                have hKw := HK.out.below hB1
                have hcb1 := (hKw.cell x).trans (bcells_at l (k + 1) hx64)
                rw [HBF.out] at hcb1
                have hf := hKw.free x
                have HK1 := Lib.hid (hKw.put x (.bool true))
                rw [HPUT.out] at HK1
                have HB2 := Lib.hid (HB1.out.setCell (p := ⟨w.heap.size, x, none⟩) (Nat.le_refl _) (.bool true))
                clear hB1 hKw hcb
                go_wp2_with fail
                go_roundw
                case rel => exact ⟨k + 1 + 1, by omega, by go_num, HB2, HK1, Lib.hid (steps_succ HS.out HST.out)⟩
                case measure => simp [intOf]; omega
    · obtain rfl : k = len := by omega
      have HP := Lib.hid (path_end (fun j hj => HS.out j (by rw [← HLEN.out]; exact hj)))
      rw [HLEN.out] at HP
      go_wp2_with fail
      go_ret
      exact ⟨ret_bP HP.out.symm, HB.out⟩
end Go.Proofs.Ytlmdandgjapmjaa.Hop
