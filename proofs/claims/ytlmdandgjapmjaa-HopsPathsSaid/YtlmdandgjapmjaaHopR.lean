/- Contracts of the document's own answers for layer 19: paths. -/
import Derived.Test.YtlmdandgjapmjaaHopP
import Derived.Test.YtlmdandgjapmjaaGrfR
import Derived.Test.YtlmdandgjapmjaaQuiB
import Derived.BigRegion
import Derived.BigQuiet
import Derived.Deep.QuietTactic
import Derived.Deep.Cut
namespace Go.Proofs.Ytlmdandgjapmjaa.Hop
open Go.ChangeShapes Go.WideShapes Go.ChangeAt Go.RowKit
open Grf (Pr lk inI RdG gval gbox rlinked_any)
set_option linter.unusedVariables false
set_option maxRecDepth 100000
theorem rpath_end {n : Nat} {L : List Pr} {l : List Int} {k : Nat} (hk : k < l.length) (hx : 0 ≤ l.getD k 0) (h1 : l.getD k 0 < (n : Int)) (h2 : 0 < k → lk L (l.getD (k - 1) 0) (l.getD k 0) = true) (h3 : ∀ i, i < k → l.getD i 0 ≠ l.getD k 0) : stepP n L l k := ⟨hx, h1, h2, h3⟩
set_option maxHeartbeats 8000000 in
theorem rpath_any (n : Nat) (ga : Option Addr) (gl gc : Nat) (L : List Pr) (ad : Option Addr) (len cap : Nat) (l : List Int) (w : World) (hgl : L.length = gl) (hgm : gl < 9223372036854775807) (hg : RdG w ga L)
    (hlen : l.length = len) (hm : len < 9223372036854775807) (hr : Ints.Rd w ad l) :
    Calls Try.prog 8 #[gval (n : Int) (.slice ga gl gc), .slice ad len cap] w fun e w' => e = .returned (.bool (pathB n L l)) ∧ Below w.heap.size w w' := by
  obtain ⟨w0, hw0⟩ : ∃ w0, Hid (w0 = w.alloc (.cells #[.int .i64 (n : Int), .slice ga gl gc] 27)) := ⟨_, Lib.hid rfl⟩
  obtain ⟨hB0, hs0, hb0⟩ := gbox w w0 (n : Int) _ hw0.out
  have HB0 := Lib.hid hB0
  have HBX := Lib.hid (fun W (hB : Below w0.heap.size w0 W) => And.intro ((hb0.below hB).cell 0) ((hb0.below hB).cell 1))
  have CK := Lib.hid (fun x y W (hB : Below w0.heap.size w0 W) => rlinked_any (n : Int) ga gl gc L x y W hgl hgm (hg.below (hB0.trans (hB.mono hB0.size))))
  have HR := Lib.hid (fun W (hB : Below w0.heap.size w0 W) => hr.below (hB0.trans (hB.mono hB0.size)))
  have HLEN := Lib.hid hlen
  simp only [List.getElem?_toArray, List.getElem?_cons_zero, List.getElem?_cons_succ] at HBX
  clear hlen hr hB0 hs0 hb0 hg hgl
  unfold gval at *
  go_enter Try.func8, Try.ntmps8
  go_upto_region 1 with fail
  rw [← hw0.out]
  go_wp2_with fail
  go_loopw [5] (fun i wr => ∃ k : Nat, k ≤ len ∧ i = .int .i64 k ∧ Hid (Below w0.heap.size w0 wr) ∧ Hid (∀ j, j < k → stepP n L l j)) (fun i _ => len - (intOf i).toNat)
  case atStart => exact ⟨0, Nat.zero_le _, rfl, Lib.hid (Below.refl _ _), Lib.hid (fun j hj => absurd hj (by omega))⟩
  case round =>
    obtain ⟨k, hk, rfl, HB, HS⟩ := hrel
    by_cases hlt : k < len
    · obtain ⟨b, off, rfl, hc0⟩ := (HR.out _ HB.out).at (k := k) (by rw [HLEN.out]; exact hlt)
      obtain ⟨z, hzk⟩ : ∃ z, Hid (l.getD k 0 = z) := ⟨_, Lib.hid rfl⟩
      have HC : Hid (∀ j, j < len → ∀ W, Below wr.heap.size wr W → W.cell? ⟨b, off + j, none⟩ = some (.int .i64 (l.getD j 0))) := Lib.hid (fun j hj W hW => by
        obtain ⟨b', off', e', hc'⟩ := (HR.out W (HB.out.trans (hW.mono HB.out.size))).at (k := j) (by rw [HLEN.out]; exact hj)
        cases e'
        exact hc')
      have HNO := Lib.hid (path_no (n := n) (L := L) (l := l) (k := k) (by rw [HLEN.out]; exact hlt))
      have HBV := Lib.hid (fun W (hW : Below wr.heap.size wr W) => HB.out.trans (hW.mono HB.out.size))
      have q0 : ∀ x : Qui.Cls wr, x.V.cell? ⟨w.heap.size, 0, none⟩ = some (.int .i64 (n : Int)) := fun x => (HBX.out _ (HBV.out _ x.lies)).1
      have q1 : ∀ x : Qui.Cls wr, x.V.cell? ⟨w.heap.size, 1, none⟩ = some (.slice ga gl gc) := fun x => (HBX.out _ (HBV.out _ x.lies)).2
      have q2 : ∀ x : Qui.Cls wr, x.V.cell? ⟨b, off + k, none⟩ = some (.int .i64 z) := fun x => by rw [← hzk.out]; exact HC.out k hlt _ x.lies
      clear hc0
      by_cases h0 : z < 0
      · have t1 : decide (z < 0) = true := decide_eq_true h0
        have HP := Lib.hid (HNO.out (step_no_low hzk.out (by omega)))
        go_upto_region 4 with fail
        refine Qui.wp_region_quiet_below (by kernel_rfl) (by kernel_rfl) ?_
        repeat (go_big_quiet_step (first | (go_at_call 20; with_reducible exact Qui.cls_below (CKK.out _ (Qui.Cls.lies _)))))
        refine wpQuiet_nil ?_
        intro _ hw'
        obtain ⟨x, rfl⟩ := hw'
        have hV := x.lies
        generalize x.V = V at *
        clear x
        have HV := Lib.hid (HBV.out V hV)
        have HCV := Lib.hid (fun j (hj : j < len) W (hW : Below V.heap.size V W) => HC.out j hj W (hV.trans (hW.mono hV.size)))
        clear hV HBV HC
        clear q0 q1 q2
        go_wp2_with fail
        go_ret
        exact ⟨ret_bP HP.out.symm, HB0.out.trans (HV.out.mono HB0.out.size)⟩
      · have t1 : decide (z < 0) = false := decide_eq_false h0
        by_cases h1 : (n : Int) ≤ z
        · have t2 : decide ((n : Int) ≤ z) = true := decide_eq_true h1
          have HP := Lib.hid (HNO.out (step_no_high hzk.out (by omega)))
          go_upto_region 4 with fail
          refine Qui.wp_region_quiet_below (by kernel_rfl) (by kernel_rfl) ?_
          repeat (go_big_quiet_step (first | (go_at_call 20; with_reducible exact Qui.cls_below (CKK.out _ (Qui.Cls.lies _)))))
          refine wpQuiet_nil ?_
          intro _ hw'
          obtain ⟨x, rfl⟩ := hw'
          have hV := x.lies
          generalize x.V = V at *
          clear x
          have HV := Lib.hid (HBV.out V hV)
          have HCV := Lib.hid (fun j (hj : j < len) W (hW : Below V.heap.size V W) => HC.out j hj W (hV.trans (hW.mono hV.size)))
          clear hV HBV HC
          clear q0 q1 q2
          go_wp2_with fail
          go_ret
          exact ⟨ret_bP HP.out.symm, HB0.out.trans (HV.out.mono HB0.out.size)⟩
        · have t2 : decide ((n : Int) ≤ z) = false := decide_eq_false h1
          have HZ0 : Hid (0 ≤ z) := Lib.hid (by omega)
          have HZ1 : Hid (z < (n : Int)) := Lib.hid (by omega)
          rcases k with _ | k
          · rw [Nat.add_zero] at q2
            go_upto_region 4 with fail
            refine Qui.wp_region_quiet_below (by kernel_rfl) (by kernel_rfl) ?_
            repeat (go_big_quiet_step (first | (go_at_call 20; with_reducible exact Qui.cls_below (CKK.out _ (Qui.Cls.lies _)))))
            refine wpQuiet_nil ?_
            intro _ hw'
            obtain ⟨x, rfl⟩ := hw'
            have hV := x.lies
            generalize x.V = V at *
            clear x
            have HV := Lib.hid (HBV.out V hV)
            have HCV := Lib.hid (fun j (hj : j < len) W (hW : Below V.heap.size V W) => HC.out j hj W (hV.trans (hW.mono hV.size)))
            clear hV HBV HC
            clear q0 q1 q2
            have HV0 := HV
            clear HB HV
            go_wp2_with fail
            go_loopw [6] (fun i wr => ∃ j : Nat, j ≤ 0 ∧ i = .int .i64 j ∧ Hid (Below V.heap.size V wr) ∧ Hid (∀ i, i < j → l.getD i 0 ≠ z)) (fun i _ => 0 - (intOf i).toNat)
            case atStart => exact ⟨0, Nat.zero_le _, rfl, Lib.hid (Below.refl _ _), Lib.hid (fun j hj => absurd hj (by omega))⟩
            case round =>
              obtain ⟨j, hj, rfl, HBr, HN⟩ := hrel
              by_cases hjt : j < 0
              · exact absurd hjt (by omega)
              · obtain rfl : j = 0 := by omega
                have HST := Lib.hid (rpath_end (n := n) (L := L) (l := l) (k := 0) (by rw [HLEN.out]; exact hlt) (by rw [hzk.out]; exact HZ0.out) (by rw [hzk.out]; exact HZ1.out) (fun h => absurd h (by omega)) (fun i hi => absurd hi (by omega)))
                have HBE := Lib.hid (HV0.out.trans (HBr.out.mono HV0.out.size))
                clear HBr HN HV0
                go_wp2_with fail
                go_roundw
                case rel => exact ⟨1, by omega, by go_num, HBE, Lib.hid (steps_succ HS.out HST.out)⟩
                case measure => simp [intOf]; omega
          · obtain ⟨y, hy⟩ : ∃ y, Hid (l.getD k 0 = y) := ⟨_, Lib.hid rfl⟩
            have q3 : ∀ x : Qui.Cls wr, x.V.cell? ⟨b, off + k, none⟩ = some (.int .i64 y) := fun x => by rw [← hy.out]; exact HC.out k (by omega) _ x.lies
            have t3 : decide ((0 : Int) < (k : Int) + 1) = true := decide_eq_true (by omega)
            have CKK := Lib.hid (fun W (hW : Below wr.heap.size wr W) => CK.out y z W (HBV.out W hW))
            cases hl : lk L y z with
            | false =>
              have HP := Lib.hid (HNO.out (step_no_link hzk.out (by omega) (by rw [Nat.add_sub_cancel, hy.out]; exact hl)))
              rw [hl] at CKK
              clear hl
              go_upto_region 4 with fail
              refine Qui.wp_region_quiet_below (by kernel_rfl) (by kernel_rfl) ?_
              repeat (go_big_quiet_step (first | (go_at_call 20; with_reducible exact Qui.cls_below (CKK.out _ (Qui.Cls.lies _)))))
              refine wpQuiet_nil ?_
              intro _ hw'
              obtain ⟨x, rfl⟩ := hw'
              have hV := x.lies
              generalize x.V = V at *
              clear x
              have HV := Lib.hid (HBV.out V hV)
              have HCV := Lib.hid (fun j (hj : j < len) W (hW : Below V.heap.size V W) => HC.out j hj W (hV.trans (hW.mono hV.size)))
              clear hV HBV HC
              clear q3
              clear q0 q1 q2
              go_wp2_with fail
              go_ret
              exact ⟨ret_bP HP.out.symm, HB0.out.trans (HV.out.mono HB0.out.size)⟩
            | true =>
              have HL := Lib.hid hl
              rw [hl] at CKK
              clear hl
              go_upto_region 4 with fail
              refine Qui.wp_region_quiet_below (by kernel_rfl) (by kernel_rfl) ?_
              repeat (go_big_quiet_step (first | (go_at_call 20; with_reducible exact Qui.cls_below (CKK.out _ (Qui.Cls.lies _)))))
              refine wpQuiet_nil ?_
              intro _ hw'
              obtain ⟨x, rfl⟩ := hw'
              have hV := x.lies
              generalize x.V = V at *
              clear x
              have HV := Lib.hid (HBV.out V hV)
              have HCV := Lib.hid (fun j (hj : j < len) W (hW : Below V.heap.size V W) => HC.out j hj W (hV.trans (hW.mono hV.size)))
              clear hV HBV HC
              clear q3
              clear q0 q1 q2
              have HV0 := HV
              clear HB HV
              go_wp2_with fail
              go_loopw [6] (fun i wr => ∃ j : Nat, j ≤ k + 1 ∧ i = .int .i64 j ∧ Hid (Below V.heap.size V wr) ∧ Hid (∀ i, i < j → l.getD i 0 ≠ z)) (fun i _ => k + 1 - (intOf i).toNat)
              case atStart => exact ⟨0, Nat.zero_le _, rfl, Lib.hid (Below.refl _ _), Lib.hid (fun j hj => absurd hj (by omega))⟩
              case round =>
                obtain ⟨j, hj, rfl, HBr, HN⟩ := hrel
                by_cases hjt : j < k + 1
                · have cj := HCV.out j (by omega) wr HBr.out
                  have ck := HCV.out (k + 1) (by omega) wr HBr.out
                  rw [hzk.out] at ck
                  obtain ⟨yj, hyj⟩ : ∃ yj, Hid (l.getD j 0 = yj) := ⟨_, Lib.hid rfl⟩
                  rw [hyj.out] at cj
                  by_cases hyz : yj = z
                  · have HP := Lib.hid (HNO.out (step_no_twice hjt (by rw [hyj.out, hzk.out, hyz])))
                    have e1 : (yj == z) = true := beq_iff_eq.2 hyz
                    have HF := Lib.hid (HB0.out.trans ((HV0.out.trans (HBr.out.mono HV0.out.size)).mono HB0.out.size))
                    subst hyz
                    clear e1
                    have e1 : (yj == yj) = true := beq_iff_eq.2 rfl
                    go_wp2_with fail
                    go_region
                    all_goals (
                      go_wp2_with fail
                      go_ret
                      exact ⟨ret_bP HP.out.symm, by have := HF.out; first | exact this | exact this.drew⟩)
                  · have e1 : (yj == z) = false := beq_eq_false_iff_ne.2 hyz
                    have HN2 : Hid (∀ i, i < j + 1 → l.getD i 0 ≠ z) := Lib.hid (fun i hi => by
                      by_cases e : i = j
                      · subst e; rw [hyj.out]; exact hyz
                      · exact HN.out i (by omega))
                    have HBr2 := Lib.hid HBr.out
                    have HBr3 := Lib.hid HBr.out.drew
                    clear hyz
                    go_wp2_with fail
                    go_region
                    all_goals (
                      go_wp2_with fail
                      go_roundw
                      case rel => exact ⟨j + 1, by omega, by go_num, Lib.hid (by first | exact HBr2.out | exact HBr3.out), HN2⟩
                      case measure => simp [intOf]; omega)
                · obtain rfl : j = k + 1 := by omega
                  have HST := Lib.hid (rpath_end (n := n) (L := L) (l := l) (k := k + 1) (by rw [HLEN.out]; exact hlt) (by rw [hzk.out]; exact HZ0.out) (by rw [hzk.out]; exact HZ1.out) (fun _ => by rw [Nat.add_sub_cancel, hy.out, hzk.out]; exact HL.out) (fun i hi => by rw [hzk.out]; exact HN.out i hi))
                  have HBE := Lib.hid (HV0.out.trans (HBr.out.mono HV0.out.size))
                  clear HBr HN HV0
                  go_wp2_with fail
                  go_roundw
                  case rel => exact ⟨k + 1 + 1, by omega, by go_num, HBE, Lib.hid (steps_succ HS.out HST.out)⟩
                  case measure => simp [intOf]; omega
    · obtain rfl : k = len := by omega
      have HP := Lib.hid (path_end (fun j hj => HS.out j (by rw [← HLEN.out]; exact hj)))
      rw [HLEN.out] at HP
      go_wp2_with fail
      go_ret
      exact ⟨ret_bP HP.out.symm, HB0.out.trans (HB.out.mono HB0.out.size)⟩
end Go.Proofs.Ytlmdandgjapmjaa.Hop
