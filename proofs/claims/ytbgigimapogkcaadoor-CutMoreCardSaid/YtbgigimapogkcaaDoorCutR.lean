/- The document's own Cuts, First (angelusref18). -/
import Derived.Test.YtbgigimapogkcaaDoorCutS
import Derived.Test.YtbgigimapogkcaaDoorCutG
import Derived.Test.YtbgigimapogkcaaDoorReaH
import Derived.Test.YtbgigimapogkcaaDoorReaQ
namespace Go.Proofs.YtbgigimapogkcaaDoor.Cut
open Go.RowKit Go.Shelf Go.ChangeShapes Go.WideShapes Go.ChangeAt
open Nodes (Tabs mem ret_int ret_bool)
open Grf (Pr RdG gval gbox)
open Rea (RdU wholeB wholeP IsWide wide_is wide_whole)
set_option linter.unusedVariables false
set_option linter.unusedSimpArgs false
set_option maxRecDepth 100000
set_option maxHeartbeats 1000000 in
theorem rcuts_any (n : Nat) (hn : n ≤ 64) (ad : Option Addr) (len cap : Nat) (L : List Pr) (S : Nat) (hS : S < 18446744073709551616) (w : World) (hlen : L.length = len) (hm : len < 9223372036854775807) (hr : RdG w ad L) :
    Calls Tryd.prog 13 #[gval (n : Int) (.slice ad len cap), .int .u64 S] w fun e w' => e = .returned (.bool (!wholeB n S L)) ∧ Below w.heap.size w w' := by
  obtain ⟨u, hu⟩ := wide_is n S L
  have hwh := wide_whole hu
  obtain ⟨w0, hw0⟩ : ∃ w0, Hid (w0 = w.alloc (.cells #[.int .i64 (n : Int), .slice ad len cap] 27)) := ⟨_, Lib.hid rfl⟩
  obtain ⟨hB0, hs0, hb0⟩ := gbox w w0 (n : Int) _ hw0.out
  have C := Lib.hid (Rea.rwide_any n hn ad len cap L S hS u hu w0 hlen hm (hr.below hB0))
  have HW : Hid ((decide (u < 0)) = !wholeB n S L) := Lib.hid (by rw [hwh, Bool.eq_iff_iff]; simp)
  have HB0 := Lib.hid hB0
  have c0 : w0.cell? ⟨w.heap.size, 0, none⟩ = some (.int .i64 (n : Int)) := hb0.cell 0
  have c1 : w0.cell? ⟨w.heap.size, 1, none⟩ = some (.slice ad len cap) := hb0.cell 1
  clear hwh hu hr hB0 hs0 hb0 hlen
  generalize (!wholeB n S L) = b at *
  unfold gval at *
  go_enter Tryd.func13, Tryd.ntmps13
  go_upto_region 1 with fail
  rw [← hw0.out]
  go_wp2_with fail
  refine (C.out).mono ?_; rintro e w' ⟨rfl, hB⟩
  go_wp2_with fail
  go_ret
  exact ⟨ret_bool HW.out, HB0.out.trans (hB.mono HB0.out.size)⟩
set_option maxHeartbeats 2000000 in
theorem rfirst_any (n : Nat) (hn : n ≤ 12) (ad : Option Addr) (len cap : Nat) (L : List Pr) (f : Int) (h1 : -9223372036854775808 ≤ f) (w : World) (hlen : L.length = len) (hm : len < 9223372036854775807) (hr : RdG w ad L) :
    Calls Tryd.prog 11 #[gval (n : Int) (.slice ad len cap), .int .i64 f] w fun e w' =>
      e = .returned (.tuple #[.int .u64 (((firstO n L f).getD 0 : Nat) : Int), .bool (firstO n L f).isSome]) ∧ Below w.heap.size w w' := by
  obtain ⟨w0, hw0⟩ : ∃ w0, Hid (w0 = w.alloc (.cells #[.int .i64 (n : Int), .slice ad len cap] 27)) := ⟨_, Lib.hid rfl⟩
  obtain ⟨hB0, hs0, hb0⟩ := gbox w w0 (n : Int) _ hw0.out
  have HB := Lib.hid hB0
  obtain ⟨m, hmf⟩ : ∃ m, m = min f 3 := ⟨_, rfl⟩
  have CS := Lib.hid (fun W => rsets_any n hn m (by omega) W)
  have hFO : firstO n L f = (upTo n (min m (n : Int) + 1).toNat).find? fun s => !wholeB n s L := by rw [hmf]; rfl
  have HLL := Lib.hid (upTo_len n (min m (n : Int) + 1).toNat)
  generalize hls : upTo n (min m (n : Int) + 1).toNat = l at *
  have hmem : ∀ j, j < l.length → l.getD j 0 < 18446744073709551616 := fun j hj => by
    have hg : l[j]? = some (l.getD j 0) := by simp [List.getD, hj]
    have := List.mem_of_getElem? hg
    rw [← hls] at this hg
    have := (mem_upTo.1 (List.mem_of_getElem? hg)).1
    have := pow64 (show n ≤ 64 by omega)
    have := e64
    rw [← hls]
    omega
  have hlb : l.length ≤ 13 * 4096 := by
    have hp : (2 : Nat) ^ n ≤ 2 ^ 12 := Nat.pow_le_pow_right (by decide) hn
    have := HLL.out
    have h2 : (min m (n : Int) + 1).toNat * 2 ^ n ≤ 13 * 4096 := Nat.mul_le_mul (by omega) (by omega)
    omega
  have CC := Lib.hid (fun j (hj : j < l.length) W (hB : Below w0.heap.size w0 W) => rcuts_any n (by omega) ad len cap L (l.getD j 0) (hmem j hj) W hlen hm ((hr.below hB0).below hB))
  have HFI := Lib.hid (fun (k : Nat) (hk : k < l.length) (hno : ∀ j, j < k → (!wholeB n (l.getD j 0) L) = false) (hc : (!wholeB n (l.getD k 0) L) = true) => show firstO n L f = some (l.getD k 0) by
    rw [hFO]
    refine find_at (i := k) (fun j hj y hy => ?_) (by simp [List.getD, hk]) hc
    have := hno j hj
    rw [List.getD, hy] at this
    exact this)
  have HFN := Lib.hid (fun (hno : ∀ j, j < l.length → (!wholeB n (l.getD j 0) L) = false) => show firstO n L f = none by
    rw [hFO]
    refine find_none_upto fun j hj x hx => ?_
    have := hno j hj
    rw [List.getD, hx] at this
    exact this)
  have HBX := Lib.hid (fun W (hB : Below w0.heap.size w0 W) => And.intro ((hb0.below hB).cell 0) ((hb0.below hB).cell 1))
  simp only [List.getElem?_toArray, List.getElem?_cons_zero, List.getElem?_cons_succ] at HBX
  have HMM := Lib.hid hmf
  clear hr hB0 hs0 hb0 hFO hmem HLL hls hlen
  unfold gval at *
  unfold SetsPost at CS
  obtain ⟨c0, c1⟩ := HBX.out w0 (Below.refl _ _)
  have hcase : (3 < f ∧ m = 3) ∨ (¬ 3 < f ∧ m = f) := by have := HMM.out; omega
  clear HMM hmf
  go_enter Tryd.func11, Tryd.ntmps11
  go_upto_region 1 with fail
  rw [← hw0.out]
  rcases hcase with ⟨h3, rfl⟩ | ⟨h3, rfl⟩
  all_goals (
    go_wp2_with fail
    refine (CS.out _).mono ?_; rintro e w2 ⟨ad2, cap2, rfl, hown, hB2⟩
    have HR := Lib.hid (OwnW.rd hown).1
    have HB2 := Lib.hid hB2
    clear hown hB2 c0 c1
    go_wp2_with fail
    go_loopw [7] (fun i wr => ∃ k : Nat, k ≤ l.length ∧ i = .int .i64 k ∧ Hid (∀ j, j < k → (!wholeB n (l.getD j 0) L) = false) ∧ Hid (RdU wr ad2 l) ∧ Hid (Below w0.heap.size w0 wr)) (fun i _ => l.length - (intOf i).toNat)
    case atStart => exact ⟨0, Nat.zero_le _, rfl, Lib.hid (fun j hj => by omega), HR, HB2⟩
    case round =>
      obtain ⟨k, hk, rfl, HNO, HRR, HBR⟩ := hrel
      obtain ⟨d0, d1⟩ := HBX.out wr HBR.out
      by_cases hlt : k < l.length
      · obtain ⟨b, rfl, hbl, hcb⟩ := HRR.out k hlt
        have CK := Lib.hid (CC.out k hlt wr.drew HBR.out.drew)
        have HFK := Lib.hid (HFI.out k hlt HNO.out)
        have HN1 : Hid ((!wholeB n (l.getD k 0) L) = false → ∀ j, j < k + 1 → (!wholeB n (l.getD j 0) L) = false) := Lib.hid (fun h j hj => by
          by_cases hjk : j = k
          · rw [hjk]; exact h
          · exact HNO.out j (by omega))
        have HB3 := Lib.hid (fun V (hB : Below wr.heap.size wr V) => And.intro (HRR.out.below hB) (And.intro (HBR.out.trans (hB.mono HBR.out.size)) ((hB.cell (p := ⟨b, k, none⟩) hbl).trans hcb)))
        clear HNO HRR HBR
        generalize l.getD k 0 = s at *
        generalize (!wholeB n s L) = c at *
        go_upto_region 7 with fail
        cases c with
        | true =>
          go_region_with (go_at_call 13; refine (CK.out).mono ?_; rintro e w4 ⟨rfl, hB4⟩)
          all_goals (
            obtain ⟨HR4, HB4, hc4⟩ := HB3.out w4 ((Below.refl _ _).drew.trans hB4)
            have HF := Lib.hid (HFK.out (by simp))
            have HB5 := Lib.hid HB4
            clear HB3 HFK HR4 HB4 hB4
            go_wp2_with fail
            go_ret2
            rw [HF.out]
            exact ⟨rfl, HB.out.trans (HB5.out.mono HB.out.size)⟩)
        | false =>
          have HN2 := Lib.hid (HN1.out (by simp))
          clear HN1
          go_region_with (go_at_call 13; refine (CK.out).mono ?_; rintro e w4 ⟨rfl, hB4⟩)
          all_goals (
            obtain ⟨HR4, HB4, -⟩ := HB3.out w4 ((Below.refl _ _).drew.trans hB4)
            have HR5 := Lib.hid HR4
            have HB5 := Lib.hid HB4
            clear HB3 HFK HR4 HB4 hB4
            go_wp2_with fail
            go_roundw
            case rel => exact ⟨k + 1, by omega, by go_num, HN2, HR5, HB5⟩
            case measure => simp [intOf]; omega)
      · obtain rfl : k = l.length := by omega
        have HF := Lib.hid (HFN.out HNO.out)
        go_wp2_with fail
        go_ret2
        rw [HF.out]
        exact ⟨rfl, HB.out.trans (HBR.out.mono HB.out.size)⟩)
end Go.Proofs.YtbgigimapogkcaaDoor.Cut
