/- Contracts of the document's own answers for layer 28: Gap, Pace. Written by gen/drf_g.py. -/
import Derived.Test.YtmkdemdeejhonaaDoorDrfA
import Derived.Test.YtmkdemdeejhonaaDoorSpanP
import Derived.Test.YtmkdemdeejhonaaDoorI64A
import Derived.BigRegion
import Derived.Deep.QuietTactic
namespace Go.Proofs.YtmkdemdeejhonaaDoor.Drf
open Go.ChangeShapes Go.WideShapes Go.ChangeAt Go.RowKit
open Go.Proofs.YtmkdemdeejhonaaDoor.Rw
set_option linter.unusedVariables false
set_option maxRecDepth 100000
/-- A note as the document has it. -/
def eval (n : Nt) (ad : Option Addr) (cap : Nat) : Value := .agg #[.int .i64 n.tick, .slice ad n.l.length cap, .int .u64 (n.set : Int)]
theorem ebox (w w0 : World) (n : Nt) (ad : Option Addr) (cap : Nat) (h : w0 = w.alloc (.cells #[.int .i64 n.tick, .slice ad n.l.length cap, .int .u64 (n.set : Int)] 29)) :
    Below w.heap.size w w0 ∧ w0.heap.size = w.heap.size + 1 ∧ ∀ W, Below w0.heap.size w0 W → W.cell? ⟨w.heap.size, 0, none⟩ = some (.int .i64 n.tick) ∧ W.cell? ⟨w.heap.size, 1, none⟩ = some (.slice ad n.l.length cap) ∧ W.cell? ⟨w.heap.size, 2, none⟩ = some (.int .u64 (n.set : Int)) := by
  subst h
  refine ⟨(Below.refl _ _).alloc (Nat.le_refl _) _, by simp, fun W hB => ?_⟩
  have hb := (Blk.new w 29 #[.int .i64 n.tick, .slice ad n.l.length cap, .int .u64 (n.set : Int)]).below hB
  exact ⟨hb.cell 0, hb.cell 1, hb.cell 2⟩
theorem has_len {n : Nt} {i : Nat} (h : n.has i = true) : i < n.l.length := by
  unfold Nt.has at h
  rw [Bool.and_eq_true] at h
  exact of_decide_eq_true h.1
set_option maxHeartbeats 8000000 in
theorem drgap_any (n : Nt) (ad : Option Addr) (cap : Nat) (hS : n.set < 18446744073709551616) (w : World) (h : I64s.Sl w ad cap n.l) :
    Calls Tryd.prog 7 #[eval n ad cap] w fun e w' => e = .returned (.int .i64 (gapV n)) ∧ Below w.heap.size w w' := by
  obtain ⟨w0, hw0⟩ : ∃ w0, Hid (w0 = w.alloc (.cells #[.int .i64 n.tick, .slice ad n.l.length cap, .int .u64 (n.set : Int)] 29)) := ⟨_, Lib.hid rfl⟩
  obtain ⟨hB0, hs0, hX⟩ := ebox w w0 n ad cap hw0.out
  have HB0 := Lib.hid hB0
  have HX := Lib.hid hX
  have CH := Lib.hid (fun (i : Nat) W => show Calls Tryd.prog 15 #[.agg #[.int .i64 n.tick, .slice ad n.l.length cap, .int .u64 (n.set : Int)], .int .i64 (i : Int)] W fun e w' => e = .returned (.bool (n.has i)) ∧ Below W.heap.size W w' from rhasN_any n.tick ad n.l.length cap n.set hS i W)
  have CT := Lib.hid (fun (i : Nat) W => show Calls Tryd.prog 16 #[.int .i64 (n.l.getD i 0)] W fun e w' => e = .returned (.int .i64 (n.t i)) ∧ W = w' from rtime_any (n.l.getD i 0) W)
  have HL := Lib.hid (fun (i : Nat) (hi : n.has i = true) => h.at (has_len hi))
  have HLT := Lib.hid (fun (i : Nat) (hi : n.has i = true) => has_len hi)
  have HE := Lib.hid (fun v (hv : Gs n 64 0 v) => gap_eq hS hv)
  have hlm : n.l.length ≤ 9223372036854775807 := Nat.le_trans h.le h.mx
  clear hB0 hX h
  unfold eval
  obtain ⟨ln, hln⟩ : ∃ ln, n.l.length = ln := ⟨_, rfl⟩
  rw [hln] at hw0 HX CH HLT hlm ⊢
  clear hln
  go_enter Tryd.func7, Tryd.ntmps7
  go_upto_region 1 with fail
  rw [← hw0.out]
  go_wp2_with fail
  go_loopw [3, 4] (fun g i wr => ∃ (k : Nat) (v : Int), k ≤ 64 ∧ g = .int .i64 v ∧ i = .int .i64 k ∧ Hid (Gs n k 0 v) ∧ Hid (Below w0.heap.size w0 wr)) (fun _ i _ => 64 - (intOf i).toNat)
  case atStart => exact ⟨0, 0, by omega, rfl, rfl, Lib.hid (Gs.nil n), Lib.hid (Below.refl _ _)⟩
  case round =>
    obtain ⟨i, v, hi, rfl, rfl, HG, HB⟩ := hrel
    by_cases hlt : i < 64
    · have hi64 : (i : Int) < 64 := by omega
      go_wp2_with fail
      go_loopw [3, 5] (fun g j wr => ∃ (k : Nat) (u : Int), k ≤ 64 ∧ g = .int .i64 u ∧ j = .int .i64 k ∧ Hid (Gs n i k u) ∧ Hid (Below w0.heap.size w0 wr)) (fun _ j _ => 64 - (intOf j).toNat)
      case atStart => exact ⟨0, v, by omega, rfl, rfl, HG, HB⟩
      case round =>
        obtain ⟨k, u, hk, rfl, rfl, HG5, HB5⟩ := hrel
        by_cases hkt : k < 64
        · have hk64 : (k : Int) < 64 := by omega
          have HXV := Lib.hid (fun W (hW : Below wr.heap.size wr W) => HX.out _ (HB5.out.trans (hW.mono HB5.out.size)))
          have HBV := Lib.hid (fun W (hW : Below wr.heap.size wr W) => HB5.out.trans (hW.mono HB5.out.size))
          have q0 : ∀ x : Qui.Cls wr, x.V.cell? ⟨w.heap.size, 0, none⟩ = some (.int .i64 n.tick) := fun x => (HXV.out _ x.lies).1
          have q1 : ∀ x : Qui.Cls wr, x.V.cell? ⟨w.heap.size, 1, none⟩ = some (.slice ad ln cap) := fun x => (HXV.out _ x.lies).2.1
          have q2 : ∀ x : Qui.Cls wr, x.V.cell? ⟨w.heap.size, 2, none⟩ = some (.int .u64 (n.set : Int)) := fun x => (HXV.out _ x.lies).2.2
          have CHi := Lib.hid (fun W => CH.out i W)
          have CHk := Lib.hid (fun W => CH.out k W)
          have CTi := Lib.hid (fun W => CT.out i W)
          have CTk := Lib.hid (fun W => CT.out k W)
          cases hhi : n.has i with
          | false =>
            have HG6 := Lib.hid (HG5.out.no (.inl hhi))
            rw [hhi] at CHi
            clear HL HLT CT CTi CTk CHk hhi HE
            go_upto_region 8 with fail
            refine Qui.wp_region_quiet_below (by kernel_rfl) (by kernel_rfl) ?_
            repeat (go_big_quiet_step (first
              | (go_at_call 15; first | (with_reducible exact Qui.cls_below (CHi.out _)))
              | (go_at_call 16; first | fail)))
            refine wpQuiet_nil ?_
            intro _ hw'
            obtain ⟨zz, rfl⟩ := hw'
            have HV := Lib.hid (HBV.out _ zz.lies)
            clear q0 q1 q2 HBV HXV CHi
            generalize zz.V = V at *
            clear zz
            go_wp2_with fail
            go_roundw
            case rel => exact ⟨k + 1, u, by omega, rfl, by go_num, HG6, HV⟩
            case measure => simp [intOf]; omega
          | true =>
            obtain ⟨b, off, had, hci⟩ := HL.out _ hhi
            subst had
            have hli := HLT.out _ hhi
            have hli' : (i : Int) < (ln : Int) := by omega
            have q3 : ∀ x : Qui.Cls wr, x.V.cell? ⟨b, off + i, none⟩ = some (.int .i64 (n.l.getD i 0)) := fun x => hci _ (HB0.out.trans ((HBV.out _ x.lies).mono HB0.out.size))
            rw [hhi] at CHi
            cases hhk : n.has k with
            | false =>
              have HG6 := Lib.hid (HG5.out.no (.inr (.inl hhk)))
              rw [hhk] at CHk
              clear HL HLT CT CTi CTk hhk hhi HE hci q3
              go_upto_region 8 with fail
              refine Qui.wp_region_quiet_below (by kernel_rfl) (by kernel_rfl) ?_
              repeat (go_big_quiet_step (first
                | (go_at_call 15; first | (with_reducible exact Qui.cls_below (CHi.out _)) | (with_reducible exact Qui.cls_below (CHk.out _)))
                | (go_at_call 16; first | fail)))
              refine wpQuiet_nil ?_
              intro _ hw'
              obtain ⟨zz, rfl⟩ := hw'
              have HV := Lib.hid (HBV.out _ zz.lies)
              clear q0 q1 q2 HBV HXV CHi CHk
              generalize zz.V = V at *
              clear zz
              go_wp2_with fail
              go_roundw
              case rel => exact ⟨k + 1, u, by omega, rfl, by go_num, HG6, HV⟩
              case measure => simp [intOf]; omega
            | true =>
              obtain ⟨b', off', had', hck⟩ := HL.out _ hhk
              cases had'
              have hlk := HLT.out _ hhk
              have hlk' : (k : Int) < (ln : Int) := by omega
              have q4 : ∀ x : Qui.Cls wr, x.V.cell? ⟨b, off + k, none⟩ = some (.int .i64 (n.l.getD k 0)) := fun x => hck _ (HB0.out.trans ((HBV.out _ x.lies).mono HB0.out.size))
              rw [hhk] at CHk
              have b1 := n.t_bd i
              have b2 := n.t_bd k
              have hwr : IntKind.i64.wrap (n.t i - n.t k) = n.t i - n.t k := by rw [IntKind.wrap_i64]; omega
              have HNO : Hid (¬ u < n.t i - n.t k → Gs n i (k + 1) u) := Lib.hid (fun h => HG5.out.no (.inr (.inr h)))
              have HYE : Hid (u < n.t i - n.t k → Gs n i (k + 1) (n.t i - n.t k)) := Lib.hid (fun h => HG5.out.yes hlt hkt hhi hhk h)
              have HC9 := Lib.hid (fun W (hW : Below wr.heap.size wr W) => And.intro (hci _ (HB0.out.trans ((HBV.out _ hW).mono HB0.out.size))) (hck _ (HB0.out.trans ((HBV.out _ hW).mono HB0.out.size))))
              clear HL HLT CT CH hhk hhi HE hci hck HG5
              generalize n.l.getD i 0 = li at *
              generalize n.l.getD k 0 = lk at *
              generalize n.t i = ti at *
              generalize n.t k = tk at *
              by_cases hu : u < ti - tk
              · have hd : decide (u < ti - tk) = true := decide_eq_true hu
                have HG6 := Lib.hid (HYE.out hu)
                clear HNO HYE b1 b2
                go_upto_region 8 with fail
                refine Qui.wp_region_quiet_below (by kernel_rfl) (by kernel_rfl) ?_
                repeat (go_big_quiet_step (first
                  | (go_at_call 15; first | (with_reducible exact Qui.cls_below (CHi.out _)) | (with_reducible exact Qui.cls_below (CHk.out _)))
                  | (go_at_call 16; first | (with_reducible exact Qui.cls_same (CTi.out _)) | (with_reducible exact Qui.cls_same (CTk.out _)))))
                refine wpQuiet_nil ?_
                intro _ hw'
                obtain ⟨zz, rfl⟩ := hw'
                have HBW := Lib.hid (HBV.out _ zz.lies)
                have HCW := Lib.hid (fun W (hW : Below zz.V.heap.size zz.V W) => HC9.out _ (zz.lies.trans (hW.mono zz.lies.size)))
                clear q0 q1 q2 q3 q4 HBV HXV HC9
                generalize zz.V = V at *
                clear zz
                have HBV := Lib.hid (fun W (hW : Below V.heap.size V W) => HBW.out.trans (hW.mono HBW.out.size))
                have q1 : ∀ x : Qui.Cls V, x.V.cell? ⟨w.heap.size, 1, none⟩ = some (.slice (some ⟨b, off, none⟩) ln cap) := fun x => (HX.out _ (HBV.out _ x.lies)).2.1
                have q3 : ∀ x : Qui.Cls V, x.V.cell? ⟨b, off + i, none⟩ = some (.int .i64 li) := fun x => (HCW.out _ x.lies).1
                have q4 : ∀ x : Qui.Cls V, x.V.cell? ⟨b, off + k, none⟩ = some (.int .i64 lk) := fun x => (HCW.out _ x.lies).2
                go_upto_region 9 with fail
                refine Qui.wp_region_quiet_below (by kernel_rfl) (by kernel_rfl) ?_
                repeat (go_big_quiet_step (first
                  | (go_at_call 15; first | fail)
                  | (go_at_call 16; first | (with_reducible exact Qui.cls_same (CTi.out _)) | (with_reducible exact Qui.cls_same (CTk.out _)))))
                refine wpQuiet_nil ?_
                intro _ hw'
                obtain ⟨zz, rfl⟩ := hw'
                have HV := Lib.hid (HBV.out _ zz.lies)
                clear HBV HBW HCW CHi CHk CTi CTk q1 q3 q4
                generalize zz.V = V2 at *
                clear zz
                go_wp2_with fail
                go_roundw
                case rel => exact ⟨k + 1, ti - tk, by omega, rfl, by go_num, HG6, HV⟩
                case measure => simp [intOf]; omega
              · have hd : decide (u < ti - tk) = false := decide_eq_false hu
                have HG6 := Lib.hid (HNO.out hu)
                clear HNO HYE b1 b2 HC9
                go_upto_region 8 with fail
                refine Qui.wp_region_quiet_below (by kernel_rfl) (by kernel_rfl) ?_
                repeat (go_big_quiet_step (first
                  | (go_at_call 15; first | (with_reducible exact Qui.cls_below (CHi.out _)) | (with_reducible exact Qui.cls_below (CHk.out _)))
                  | (go_at_call 16; first | (with_reducible exact Qui.cls_same (CTi.out _)) | (with_reducible exact Qui.cls_same (CTk.out _)))))
                refine wpQuiet_nil ?_
                intro _ hw'
                obtain ⟨zz, rfl⟩ := hw'
                have HV := Lib.hid (HBV.out _ zz.lies)
                clear q0 q1 q2 HBV HXV CHi CHk CTi CTk
                generalize zz.V = V at *
                clear zz
                go_wp2_with fail
                go_roundw
                case rel => exact ⟨k + 1, u, by omega, rfl, by go_num, HG6, HV⟩
                case measure => simp [intOf]; omega
        · obtain rfl : k = 64 := by omega
          have HG6 := Lib.hid HG5.out.row
          clear HL HLT CT CH HE HX HG5
          go_wp2_with fail
          go_roundw
          case rel => exact ⟨i + 1, u, by omega, rfl, by go_num, HG6, HB5⟩
          case measure => simp [intOf]; omega
    · obtain rfl : i = 64 := by omega
      have HV := Lib.hid (HE.out v HG.out)
      have HBE := Lib.hid (HB0.out.trans (HB.out.mono HB0.out.size))
      clear HL HLT CT CH HE HX HG HB
      go_wp2_with fail
      go_ret
      exact ⟨by rw [← HV.out]; rfl, HBE.out⟩
end Go.Proofs.YtmkdemdeejhonaaDoor.Drf
