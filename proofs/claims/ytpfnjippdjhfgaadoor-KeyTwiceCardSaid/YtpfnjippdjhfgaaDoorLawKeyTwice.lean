/- Of any keys the first one that stands in them twice is told, and whether all rise. -/
import Derived.Test.YtpfnjippdjhfgaaDoorRows
import Derived.Test.YtpfnjippdjhfgaaDoorTie
import Derived.Test.YtpfnjippdjhfgaaDoorCards
import Derived.SevenTiedAt
import Derived.LaidMore
import Derived.Stop.Joined
import Derived.WalkKit
import Derived.ProofKit
import Derived.OpenShut
import Derived.ShutString
import Derived.ChangeOld
import Derived.Below
import Derived.Test.YtpfnjippdjhfgaaDoorKeyN
import Derived.Deep.Cut
import Derived.Deep.CutRange
namespace Go.Proofs.YtpfnjippdjhfgaaDoor.lawKeyTwice
open Go.ChangeShapes Go.WideShapes Go.ChangeAt Go.RowKit
open Go.ChangeMaps (open_string shut_string)
set_option linter.unusedVariables false

theorem own : ownKnob Tryd.prog.godebug = none := by kernel_rfl
theorem laidOut : laidOutB Tryd.prog = true := by kernel_rfl

/-! The walk: the Go text returns true and writes nothing that was there. -/
set_option maxRecDepth 100000 in
set_option maxHeartbeats 1000000 in
theorem walk (a0 : Option Addr) (len0 cap0 : Nat) (z0 : List Key.Ky) (w : World) (w0 : Key.Keys w w.heap.size a0 len0 cap0 z0) (hT : Key.Tabs w) :
    Calls Tryd.prog 6 #[.slice a0 len0 cap0] w fun e w' => e = .returned (.bool true) ∧ Below w.heap.size w w' := by
  obtain ⟨i0, hi, hz0, hz1, hz2⟩ := info_parts Key.infoKey
  have hlen0 := w0.len_
  have hlc0 := w0.le
  have hcm0 := w0.max
  have HOK : Hid (∀ y ∈ z0.take 40, Key.ok y) := Lib.hid (fun y hy => w0.ok y (List.mem_of_mem_take hy))
  have HYL : Hid ((z0.take 40).length ≤ 40) := Lib.hid (by rw [List.length_take]; omega)
  have hown0 : (w.alloc (.cells #[] 24)).ownsRow w.heap.size 24 3 (.slice (some ⟨w.heap.size, 0, none⟩) 0 0) 0 [] := World.ownsRow_lit (size := 3) w #[] 0 (Nat.le_refl _) (by unfold maxLen; omega) rfl
  have hB0 : Below w.heap.size w (w.alloc (.cells #[] 24)) := Key.box_below _ _
  have TC : Hid (∀ ad, a0 = some ad → ∀ j u, ((z0.take 40).flatMap Key.enc)[j]? = some u → (w.alloc (.cells #[] 24)).cell? (ad.add j) = some u) := Lib.hid (fun ad e j u hu => by
    have hrd := (w0.rd.below hB0).take 40
    have hj : j < (z0.take 40).length * 3 := by
      have := (List.getElem?_eq_some_iff.1 hu).1
      rwa [Rw.flat_len Key.enc_len] at this
    obtain ⟨b, off, e2, -, hc⟩ := hrd.at_ (i := j / 3) (by omega)
    rw [e] at e2
    cases e2
    have h1 := Rw.flat_at Key.enc_len (z0.take 40) (j / 3) (j % 3) (by omega) (by omega)
    rw [show j / 3 * 3 + j % 3 = j by omega, hu] at h1
    have h2 := hc (j % 3) u h1.symm
    rw [Addr.add_lit]
    rwa [show off + j / 3 * 3 + j % 3 = off + j by omega] at h2)
  have HQ : Hid (∀ w1 v m, w1.ownsRow w.heap.size 24 3 v m ([] ++ (z0.take 40).flatMap Key.enc) → m = (z0.take 40).length → (w.alloc (.cells #[] 24)).grownBy w1 (some w.heap.size) → Key.OwnK w1 w.heap.size v (z0.take 40) ∧ Below w.heap.size w w1 ∧ ∃ ad cap, v = .slice ad (z0.take 40).length cap) := Lib.hid (fun w1 v m h hm hg => by
    subst hm
    have ho : Key.OwnK w1 w.heap.size v (z0.take 40) := h
    refine ⟨ho, hB0.trans (Key.grown_below hg (by simp) (fun k e => by cases e; exact Nat.le_refl _)), ?_⟩
    obtain ⟨ad, cap, e, _⟩ := Own.shape ho
    exact ⟨ad, cap, e⟩)
  have HL : Hid ((z0.take 40).length = (min (len0 : Int) 40).toNat) := Lib.hid (by rw [List.length_take]; omega)
  have HE : Hid (((z0.take 40).flatMap Key.enc).length = (min (len0 : Int) 40).toNat * 3) := Lib.hid (by rw [Rw.flat_len Key.enc_len, HL.out])
  have TN : Hid (a0 = none → (min (len0 : Int) 40).toNat = 0 ∧ cap0 = 0) := Lib.hid (fun hh => by have := w0.nil hh; omega)
  have hlc : (len0 : Int) ≤ (cap0 : Int) ∧ (cap0 : Int) ≤ 9223372036854775807 := by omega
  obtain ⟨hlc1, hlc2⟩ := hlc
  have HT := Lib.hid hT
  clear w0 hlen0 hB0 hT
  generalize z0.take 40 = y at *
  have hyl := HYL.out
  go_enter Tryd.func6, Tryd.ntmps6
  go_upto_region 1 with fail
  go_cut [0] from 17 (fun v wc => ∃ ad cap, v = .slice ad y.length cap ∧ Key.OwnK wc w.heap.size (.slice ad y.length cap) y ∧ Below w.heap.size w wc)
  case first =>
    go_wp2_with (at_builtin; refine Own.wpList_append2_any _ rfl _ _ 34 rfl w.heap.size 24 i0 (.agg #[.int .i64 0, .int .i64 0, .int .u32 0]) 3 24 Tryd.underlying34 hi hz0 hz1 hz2 rfl (by decide) (.slice (some ⟨w.heap.size, 0, none⟩) 0 0) 0 _ rfl hown0 a0 _ cap0 (y.flatMap Key.enc) rfl HE.out TN.out TC.out (fun u hu => by
      obtain ⟨x, hx, hu⟩ := List.mem_flatMap.1 hu
      exact Key.enc_one x u hu) (by unfold maxLen; omega) (by omega) (by simp) ?_; intro v' w1 hown' hgrow _)
    obtain ⟨ho, hB, ad, cap, rfl⟩ := HQ.out w1 v' _ hown' (by have := HL.out; omega) hgrow
    go_meet
    case rel => exact ⟨ad, cap, rfl, ho, hB⟩
  case rest =>
    obtain ⟨ad, cap, rfl, ho, hB⟩ := hcut
    have hps := ho.pos
    obtain ⟨p1, p2, -, p4⟩ := hps
    unfold maxLen at p2
    have HR := Lib.hid (ho.rd Key.enc_len).1
    have HBc := Lib.hid hB
    have HTc := Lib.hid (HT.out.below hB)
    clear hi hz0 hz1 hz2 hown0 TC HQ HL HE TN hlc1 hlc2 hlc0 hcm0 HT ho hB i0
    obtain ⟨wv, rfl⟩ : ∃ wv, wv = wc := ⟨_, rfl⟩
    have CTw := Lib.hid (fun W (hW : Below wv.heap.size wv W) => Key.twice_any ad y.length cap y W rfl (by omega) (HR.out.below hW) HOK.out)
    have CRi := Lib.hid (fun W (hW : Below wv.heap.size wv W) => Key.rising_any ad y.length cap y W rfl (by omega) (HR.out.below hW))
    have CW := Lib.hid (fun W (hW : Below wv.heap.size wv W) => Key.works_any W (HTc.out.below hW))
    have CI := Lib.hid (fun k (hk : k ≤ y.length) x W (hW : Below wv.heap.size wv W) => Key.rin_any ad k cap (y.take k) x W (by rw [List.length_take]; omega) (by omega) ((HR.out.below hW).take k))
    have CL := Lib.hid (fun x z W => Key.rless_any x z W)
    have HF0 : Hid (Key.Fst (wv.alloc (.cells #[.int .i64 0, .int .i64 0, .int .u32 0] 24)) wv.heap.size (Key.twoK [] (y.take 0)).1) := Lib.hid (by rw [List.take_zero]; exact Key.Fst.made wv (0, 0, 0))
    have HBf : Hid (Below wv.heap.size wv (wv.alloc (.cells #[.int .i64 0, .int .i64 0, .int .u32 0] 24))) := Lib.hid (Key.box_below _ _)
    go_wp2_with fail
    go_loopw [4, 5, 19] (fun f r i wr => ∃ k : Nat, k ≤ y.length ∧ i = .int .i64 k ∧ f = .bool (Key.twoK [] (y.take k)).2 ∧ r = .bool (Key.risK (y.take k)) ∧ Hid (Key.Fst wr wv.heap.size (Key.twoK [] (y.take k)).1) ∧ Hid (Below wv.heap.size wv wr)) (fun _ _ i _ => y.length - (intOf i).toNat)
    case atStart => exact ⟨0, Nat.zero_le _, rfl, by rw [List.take_zero]; rfl, by rw [List.take_zero]; rfl, HF0, HBf⟩
    case round =>
      obtain ⟨k, hk, rfl, rfl, rfl, hF, hBr⟩ := hrel
      by_cases hlt : k < y.length
      · obtain ⟨b, off, rfl, hb, hc⟩ := HR.out.at_ (i := k) hlt
        have HS := Lib.hid (Key.take_succ' (l := y) (k := k) hlt)
        have hc' := hc.below hBr.out hb
        obtain ⟨wk, hwk⟩ : ∃ wk, Hid (wk = wr.alloc (.cells #[.int .i64 (y.getD k default).1, .int .i64 (y.getD k default).2.1, .int .u32 (y.getD k default).2.2] 24)) := ⟨_, Lib.hid rfl⟩
        have HB0 := Lib.hid (Key.one_box wr wk (y.getD k default) hwk.out).1
        have HC := Lib.hid (Key.one_box wr wk (y.getD k default) hwk.out).2
        have hsz : wk.heap.size = wr.heap.size + 1 := by rw [hwk.out, World.size_alloc]
        have HBk : Hid (Below wv.heap.size wv wk) := Lib.hid (hBr.out.trans (HB0.out.mono hBr.out.size))
        have hgl := hF.out.lt
        have HFk : Hid (Key.Fst wk wv.heap.size (Key.twoK [] (y.take k)).1) := Lib.hid (hF.out.below HB0.out hgl)
        have CX : Hid (∀ W, Below wk.heap.size wk W → Calls Tryd.prog 20 #[.slice (some ⟨b, off, none⟩) k cap, Key.kval (y.getD k default)] W fun e w' => e = .returned (.bool (Key.inK (y.take k) (y.getD k default))) ∧ Below wk.heap.size wk w') := Lib.hid (fun W hW => (CI.out k hk (y.getD k default) W (HBk.out.trans (hW.mono HBk.out.size))).mono fun e w' h => ⟨h.1, hW.trans (h.2.mono hW.size)⟩)
        have HTS : Hid (Key.twoK [] (y.take (k + 1)) = (if (!(Key.twoK [] (y.take k)).2 && Key.inK (y.take k) (y.getD k default)) then y.getD k default else (Key.twoK [] (y.take k)).1, ((Key.twoK [] (y.take k)).2 || Key.inK (y.take k) (y.getD k default)))) := Lib.hid (by rw [HS.out, Key.two_succ])
        have HRS : Hid (Key.risK (y.take (k + 1)) = (Key.risK (y.take k) && (decide (k = 0) || Key.ltK (y.getD (k - 1) default) (y.getD k default)))) := Lib.hid (by
          rw [HS.out, Key.ris_snoc, show (y.take k).length = k by rw [List.length_take]; omega]
          by_cases h0 : k = 0
          · simp [h0]
          · simp [List.getD, show k - 1 < k by omega])
        have hkc : (k : Int) ≤ (cap : Int) := by omega
        clear hc hF HF0 HBf CI
        generalize hyv : y.getD k default = x at *
        have hyv' := Lib.hid hyv
        clear hyv
        generalize hft : Key.twoK [] (y.take k) = ft at *
        generalize hin : Key.inK (y.take k) x = inn at *
        clear hft hin
        obtain ⟨p, q, s⟩ := x
        obtain ⟨c0, c1, c2⟩ := Key.at3 hc'
        simp only [Key.kval] at CX
        simp only at c0 c1 c2 HC hwk
        clear hc'
        obtain ⟨fv, ff⟩ := ft
        obtain ⟨fa, fb, fc⟩ := fv
        simp only at HTS HFk
        go_upto_region 7 with fail
        rw [← hwk.out]
        go_cut [32] from 24 to 48 (fun v W => v = .bool (!ff && inn) ∧ Hid (Below wk.heap.size wk W))
        case first =>
          obtain ⟨k0, k1, k2⟩ := HC.out wk (Below.refl _ _)
          cases ff with
          | true =>
            go_quiet (fail)
            go_wp2_with fail
            go_meet
            case rel => exact ⟨rfl, Lib.hid (Own.below_drewN (Below.refl _ _) _)⟩
          | false =>
            refine wp_region_noPanic ?_
            go_region_held_law (fun W => Below wk.heap.size wk W ∧ W.cell? ⟨wr.heap.size, 0, none⟩ = some (.int .i64 p) ∧ W.cell? ⟨wr.heap.size, 1, none⟩ = some (.int .i64 q) ∧ W.cell? ⟨wr.heap.size, 2, none⟩ = some (.int .u32 s)) ((refine ⟨?_, HC.out _ ?_⟩ <;> (first | assumption | exact (Below.refl _ _) | exact (Below.refl _ _).drew)))
              ((go_at_call 20; (with_reducible refine (CX.out _ ?_).mono ?_); (focus (first | assumption | exact (Below.refl _ _).drew | exact (‹Below wk.heap.size wk _ ∧ _›).1)); rintro e w7 ⟨rfl, hB7⟩))
            all_goals
              refine NoPanic.normal ?_
              go_wp2_with fail
              go_meet
              case rel => exact ⟨by cases inn <;> rfl, Lib.hid (‹Below wk.heap.size wk _ ∧ _›).1⟩
        case rest =>
          obtain ⟨rfl, hB7⟩ := hcut
          obtain ⟨w7, rfl⟩ : ∃ w7, w7 = wc := ⟨_, rfl⟩
          have HKC : Hid (∀ W, Below wr.heap.size wk W → True) := Lib.hid (fun _ _ => trivial)
          obtain ⟨b7, hb7⟩ : ∃ b7, Hid (b7 = (!ff && inn)) := ⟨_, Lib.hid rfl⟩
          rw [← hb7.out] at HTS ⊢
          have HF7 : Hid (Key.Fst w7 wv.heap.size (fa, fb, fc)) := Lib.hid (HFk.out.below hB7.out (by omega))
          have HB7 : Hid (Below wv.heap.size wv w7) := Lib.hid (HBk.out.trans (hB7.out.mono HBk.out.size))
          have HC7 := Lib.hid (HC.out w7 hB7.out)
          have hne : (wv.heap.size : Nat) ≠ wr.heap.size := by omega
          clear HC hB7 HFk HBk CX HKC
          go_upto_if 32 with fail
          go_cut [4] from 24 to 48 (fun v W => v = .bool (ff || inn) ∧ Hid (Key.Fst W wv.heap.size (if b7 then (p, q, s) else (fa, fb, fc))) ∧ Hid (Below wv.heap.size wv W) ∧ Hid (W.cell? ⟨wr.heap.size, 0, none⟩ = some (.int .i64 p) ∧ W.cell? ⟨wr.heap.size, 1, none⟩ = some (.int .i64 q) ∧ W.cell? ⟨wr.heap.size, 2, none⟩ = some (.int .u32 s)))
          case first =>
            cases b7 with
            | true =>
              have hfi := (show ∀ ff inn : Bool, true = (!ff && inn) → ff = false ∧ inn = true by decide) ff inn hb7.out
              obtain ⟨rfl, rfl⟩ := hfi
              obtain ⟨z0, z1, z2⟩ := HF7.out.cells
              have f0 := HF7.out.free 0
              have f1 := HF7.out.free 1
              have f2 := HF7.out.free 2
              obtain ⟨k0, k1, k2⟩ := HC7.out
              have HP := Lib.hid (HF7.out.put p q s)
              have HBp : Hid (Below wv.heap.size wv (((w7.setCell ⟨wv.heap.size, 0, none⟩ (.int .i64 p)).setCell ⟨wv.heap.size, 1, none⟩ (.int .i64 q)).setCell ⟨wv.heap.size, 2, none⟩ (.int .u32 s))) := Lib.hid (((HB7.out.setCell (Nat.le_refl _) _).setCell (Nat.le_refl _) _).setCell (Nat.le_refl _) _)
              have far : ∀ i j (W : World) u, (W.setCell ⟨wv.heap.size, i, none⟩ u).cell? ⟨wr.heap.size, j, none⟩ = W.cell? ⟨wr.heap.size, j, none⟩ := fun i j W u => World.cell?_setCell_far W _ _ u hne
              have HKp : Hid (∀ j, (((w7.setCell ⟨wv.heap.size, 0, none⟩ (.int .i64 p)).setCell ⟨wv.heap.size, 1, none⟩ (.int .i64 q)).setCell ⟨wv.heap.size, 2, none⟩ (.int .u32 s)).cell? ⟨wr.heap.size, j, none⟩ = w7.cell? ⟨wr.heap.size, j, none⟩) := Lib.hid (fun j => by rw [far, far, far])
              clear far
              go_wp2_with fail
              go_meet
              case rel => exact ⟨rfl, HP, HBp, Lib.hid ⟨(HKp.out 0).trans HC7.out.1, (HKp.out 1).trans HC7.out.2.1, (HKp.out 2).trans HC7.out.2.2⟩⟩
            | false =>
              have hfi := (show ∀ ff inn : Bool, false = (!ff && inn) → (ff || inn) = ff by decide) ff inn hb7.out
              go_wp2_with fail
              go_meet
              case rel => exact ⟨by rw [hfi], HF7, HB7, HC7⟩
          case rest =>
            obtain ⟨rfl, hF8, hB8, hC8⟩ := hcut
            obtain ⟨w8, rfl⟩ : ∃ w8, w8 = wc := ⟨_, rfl⟩
            have HF8 : Hid (Key.Fst w8 wv.heap.size (Key.twoK [] (y.take (k + 1))).1) := Lib.hid (by rw [HTS.out]; exact hF8.out)
            have HFB : Hid (∀ W, Below w8.heap.size w8 W → Key.Fst W wv.heap.size (Key.twoK [] (y.take (k + 1))).1 ∧ Below wv.heap.size wv W) := Lib.hid (fun W hW => ⟨HF8.out.below hW HF8.out.lt, hB8.out.trans (hW.mono hB8.out.size)⟩)
            have HB2 : Hid ((ff || inn) = (Key.twoK [] (y.take (k + 1))).2) := Lib.hid (by rw [HTS.out])
            obtain ⟨k0, k1, k2⟩ := hC8.out
            rw [HB2.out]
            go_upto_region 9 with fail
            cases hrs : Key.risK (y.take k) with
            | false =>
              rw [hrs] at HRS
              simp only [Bool.false_and] at HRS
              go_quiet (fail)
              go_wp2_with fail
              go_roundw
              case rel => exact ⟨k + 1, by omega, by go_num, rfl, by rw [HRS.out], Lib.hid (HFB.out _ (Own.below_drewN (Below.refl _ _) _)).1, Lib.hid (HFB.out _ (Own.below_drewN (Below.refl _ _) _)).2⟩
              case measure => simp [intOf]; omega
            | true =>
              rw [hrs] at HRS
              simp only [Bool.true_and] at HRS
              by_cases h0 : k = 0
              · subst h0
                have HRS := Lib.hid (HRS.out.trans (show (decide ((0 : Nat) = 0) || Key.ltK (y.getD (0 - 1) default) (p, q, s)) = true by simp))
                go_quiet (fail)
                go_wp2_with fail
                go_roundw
                case rel => exact ⟨0 + 1, by omega, by go_num, rfl, by rw [HRS.out], Lib.hid (HFB.out _ (Own.below_drewN (Below.refl _ _) _)).1, Lib.hid (HFB.out _ (Own.below_drewN (Below.refl _ _) _)).2⟩
                case measure => simp [intOf]; omega
              · obtain ⟨j, rfl⟩ : ∃ j, k = j + 1 := ⟨k - 1, by omega⟩
                obtain ⟨b9, off9, e9, hb9, hc9⟩ := HR.out.at_ (i := j) (by omega)
                cases e9
                have HRS := Lib.hid (HRS.out.trans (show (decide ((j + 1 : Nat) = 0) || Key.ltK (y.getD (j + 1 - 1) default) (p, q, s)) = Key.ltK (y.getD j default) (p, q, s) by simp))
                generalize y.getD j default = z at *
                have hj2 : IntKind.i64.wrap (j : Int) = (j : Int) := by rw [IntKind.wrap_i64]; omega
                have hj3 : (j : Int) < (y.length : Int) := by omega
                have hj5 : (((j + 1 : Nat) : Int) == 0) = false := by simp; omega
                have hj6 : ((j : Int) + 1 == 0) = false := by simp; omega
                have CLx : Hid (∀ W, Below w8.heap.size w8 W → Calls Tryd.prog 9 #[Key.kval z, .agg #[.int .i64 p, .int .i64 q, .int .u32 s]] W fun e w' => e = .returned (.bool (Key.ltK z (p, q, s))) ∧ Below w8.heap.size w8 w') := Lib.hid (fun W hW => (CL.out z (p, q, s) W).mono fun e w' h => ⟨h.1, hW.trans (h.2.mono hW.size)⟩)
                have HC9 : Hid (∀ W, Below w8.heap.size w8 W → (W.cell? ⟨b, off + j * 3, none⟩ = some (.int .i64 z.1) ∧ W.cell? ⟨b, off + j * 3 + 1, none⟩ = some (.int .i64 z.2.1) ∧ W.cell? ⟨b, off + j * 3 + 2, none⟩ = some (.int .u32 z.2.2)) ∧ (W.cell? ⟨wr.heap.size, 0, none⟩ = some (.int .i64 p) ∧ W.cell? ⟨wr.heap.size, 1, none⟩ = some (.int .i64 q) ∧ W.cell? ⟨wr.heap.size, 2, none⟩ = some (.int .u32 s))) := Lib.hid (fun W hW => by
                  have hlt8 := World.block_lt_of_cell? w8 _ hC8.out.1
                  exact ⟨Key.at3 (hc9.below (hB8.out.trans (hW.mono hB8.out.size)) hb9), (hW.cell (p := ⟨wr.heap.size, 0, none⟩) hlt8).trans hC8.out.1, (hW.cell (p := ⟨wr.heap.size, 1, none⟩) hlt8).trans hC8.out.2.1, (hW.cell (p := ⟨wr.heap.size, 2, none⟩) hlt8).trans hC8.out.2.2⟩)
                generalize hlz : Key.ltK z (p, q, s) = lz at *
                obtain ⟨z1, z2, z3⟩ := z
                simp only [Key.kval] at CLx
                simp only at HC9
                clear hc9 hlz
                obtain ⟨⟨d0, d1, d2⟩, -⟩ := HC9.out w8 (Below.refl _ _)
                refine wp_region_noPanic ?_
                go_region_held_law (fun W => Below w8.heap.size w8 W ∧ (W.cell? ⟨b, off + j * 3, none⟩ = some (.int .i64 z1) ∧ W.cell? ⟨b, off + j * 3 + 1, none⟩ = some (.int .i64 z2) ∧ W.cell? ⟨b, off + j * 3 + 2, none⟩ = some (.int .u32 z3)) ∧ (W.cell? ⟨wr.heap.size, 0, none⟩ = some (.int .i64 p) ∧ W.cell? ⟨wr.heap.size, 1, none⟩ = some (.int .i64 q) ∧ W.cell? ⟨wr.heap.size, 2, none⟩ = some (.int .u32 s))) ((refine ⟨?_, HC9.out _ ?_⟩ <;> (first | assumption | exact (Below.refl _ _) | exact (Below.refl _ _).drew)))
                  ((go_at_call 9; (with_reducible refine (CLx.out _ ?_).mono ?_); (focus (first | assumption | exact (Below.refl _ _).drew | exact (‹Below w8.heap.size w8 _ ∧ _›).1)); rintro e w9 ⟨rfl, hB9⟩))
                all_goals
                  refine NoPanic.normal ?_
                  go_wp2_with fail
                  go_roundw
                  case rel => exact ⟨j + 1 + 1, by omega, by go_num, rfl, by rw [HRS.out], Lib.hid (HFB.out _ (‹Below w8.heap.size w8 _ ∧ _›).1).1, Lib.hid (HFB.out _ (‹Below w8.heap.size w8 _ ∧ _›).1).2⟩
                  case measure => simp [intOf]; omega
      · obtain rfl : k = y.length := by omega
        rw [List.take_of_length_le (Nat.le_refl _)] at *
        have CTx := Lib.hid (CTw.out wr hBr.out)
        have hrefl : ∀ v, Key.eqK v v = true := fun v => by unfold Key.eqK; simp
        generalize Key.twoK [] y = ft at *
        obtain ⟨fv, ff⟩ := ft
        obtain ⟨fa, fb, fc⟩ := fv
        simp only [Key.kval] at CTx
        simp only at hF
        have he := hrefl (fa, fb, fc)
        have hff : (ff == ff) = true := by simp
        generalize Key.risK y = rs at *
        have hrr : (rs == rs) = true := by simp
        have HBr := Lib.hid hBr.out
        clear CTw CL CI hrefl hBr HF0 HBf
        go_wp2_with fail
        refine (CTx.out).mono ?_; rintro e w5 ⟨rfl, hB5⟩
        have hF5 : Key.Fst (w5.alloc (.cells #[.int .i64 fa, .int .i64 fb, .int .u32 fc] 24)) wv.heap.size (fa, fb, fc) := (hF.out.below hB5 hF.out.lt).below (Key.box_below _ _) (Nat.lt_of_lt_of_le hF.out.lt hB5.size)
        obtain ⟨z0, z1, z2⟩ := hF5.cells
        have HB5 : Hid (Below wv.heap.size wv (w5.alloc (.cells #[.int .i64 fa, .int .i64 fb, .int .u32 fc] 24))) := Lib.hid (HBr.out.trans ((hB5.trans ((Key.box_below _ _).mono hB5.size)).mono HBr.out.size))
        have CRx := Lib.hid (CRi.out _ HB5.out)
        clear hF hF5 hB5
        go_wp2_with fail
        refine (CRx.out).mono ?_; rintro e w6 ⟨rfl, hB6⟩
        have HB6 : Hid (Below wv.heap.size wv w6) := Lib.hid (HB5.out.trans (hB6.mono HB5.out.size))
        have CWx := Lib.hid (CW.out _ HB6.out)
        clear hB6 z0 z1 z2
        go_wp2_with fail
        refine (CWx.out).mono ?_; rintro e w7 ⟨rfl, hB7⟩
        have HB7 : Hid (Below wv.heap.size wv w7) := Lib.hid (HB6.out.trans (hB7.mono HB6.out.size))
        clear hB7
        go_wp2_with fail
        go_ret
        exact ⟨rfl, HBc.out.trans (HB7.out.mono HBc.out.size)⟩

set_option maxRecDepth 100000 in
theorem lifted (os : Os) (started : os.Started) (H : Type) (enc : TypeId × Value → H) :
    ReturnsInHanded {} Tryd.checked os 6 .any (fun w args => (Rows.keyTwiceSpec.pre enc Tryd.prog Tryd.f6 [] false w args ∧ laidMetH Tryd.prog Key.laidL w) ∧ sizedMet enc Tryd.prog Tryd.f6 (OpenSpec.ofChange Rows.keyTwiceSpec) false w args) (Rows.keyTwiceSpec.post enc Tryd.prog Tryd.f6 false true false false) := by
  refine returnsInHanded_of_change_and (C := Tryd.checked) (X := fun w _ => laidMetH Tryd.prog Key.laidL w) (fun _ _ _ hh h => h.of_heap hh) own started (by kernel_rfl) Tryd.func6
    (ChangeSpec.witness_shaped (enc := enc) (C := Tryd.checked) (os := os) (X := fun w _ => laidMetH Tryd.prog Key.laidL w) false (World.doorLaid Tryd.prog 24 os) #[.slice none 0 0] 8 rfl (World.shaped_of_RefB (by kernel_rfl) (by kernel_rfl)) (by kernel_rfl) (by kernel_rfl) (by kernel_rfl) (Key.door_met os _)) ?_
  intro W base args ds gs before hval0 hW _ _ hL _
  have hval : ∀ (j : Nat) t v, Tryd.f6.params[j]? = some t → args[j]? = some v → Value.okWide Tryd.prog W .any base t v := hval0
  have hW' := hW
  obtain ⟨p, q, hA0, hV, rfl, hfz, hnd⟩ := hW
  have hA : DataW.TrodAll enc Tryd.prog W 0 (fun _ => true) true Tryd.f6.params.toList args.toList ds p := hA0
  rw [Tryd.params6] at hA hval
  obtain ⟨v0, vs0, d0, ds0, p0, q0, hargs, rfl, rfl, h0, r0⟩ := trodAll_cons hA
  obtain ⟨rfl, rfl, rfl⟩ := trodAll_nil r0
  obtain rfl : args = #[v0] := by cases args; simp_all
  obtain ⟨rfl, rfl⟩ := trodVars_none hV
  obtain ⟨a0, len0, cap0, rfl⟩ := okWide_slice Tryd.underlying34 (hval 0 34 v0 rfl rfl)
  have k0 := h0
  have lt0 : ∀ x ∈ p0, x.block < W.heap.size := by obtain ⟨m, hm⟩ := k0; exact DataW.trod_lt m _ _ _ hm
  obtain ⟨z0, w0⟩ : ∃ zs, Key.Keys W W.heap.size a0 len0 cap0 zs := by
    obtain ⟨fuel, hf⟩ := h0
    exact Key.open_keys rfl (by simpa [Value.cells] using hf)
  clear hA0 hval0
  have hT := Key.tabs_of_laid hL
  refine (walk a0 len0 cap0 z0 W w0 hT).mono fun e W' ⟨he, bel⟩ => ?_
  subst he
  exact ⟨_, rfl, _, _, _, [], _, [], hW', trodAll_mk1 (shut_bool Tryd.underlying4 _), (trodAll_cons_mk (Below.trod laidOut (by kernel_rfl) (of_decide_eq_true (by kernel_rfl)) k0 bel lt0) trodAll_mk0), rfl, bel.frame _, fun h => by cases h⟩

theorem over : Rows.keyTwiceRow.holds Tryd.pinned (OpenSpec.ofChange Rows.keyTwiceSpec) :=
  OpenClaim.holds_of_wide 6 Tryd.f6 rfl rfl rfl rfl rfl rfl rfl ⟨rfl, rfl, rfl, rfl, rfl⟩ rfl rfl rfl rfl rfl (by kernel_rfl) Tryd.func6 (by kernel_rfl)
    (of_decide_eq_true (by kernel_rfl)) (by unfold Func.isWrapper; first | (rw [if_pos (by decide +kernel)]; kernel_rfl) | (rw [if_neg (by decide +kernel)]; exact ⟨rfl, rfl⟩))
    (fun os started H enc _ => lifted os started H enc)

theorem func_is {f : FuncId} (h : Tryd.prog.funcNamed Rows.keyTwiceRow.func = some f) : f = 6 :=
  Option.some.inj (h.symm.trans (show Tryd.prog.funcNamed Rows.keyTwiceRow.func = some 6 by kernel_rfl))
theorem proved : Rows.KeyTwiceCardSaid :=
  Claim7.holds_tied_plain_at .later [] Rows.keyTwiceCard.laidKinds true Rows.keyTwiceCard.stood.harness false
    over (fun _ h => by cases h) (by kernel_rfl) (fun _ h => by cases h) keyTwice_row_tie rfl ⟨rfl, rfl⟩ (by kernel_rfl) rfl
    (fun f fn hf hfn => by
      obtain rfl := func_is hf
      obtain rfl : fn = Tryd.f6 := (Option.some.inj (Tryd.func6.symm.trans hfn)).symm
      exact ⟨by kernel_rfl, fun j t ht => by
        rw [Tryd.params6] at ht
        have hm : t ∈ [34] := by simpa using Array.mem_of_getElem? ht
        have hall : ([34].all fun u => !Tryd.prog.wantsStandIn u) = true := by kernel_rfl
        exact (show Tryd.prog.wantsStandIn t = false by simpa using List.all_eq_true.1 hall t hm)⟩)
    (by kernel_rfl)
#print axioms proved
end Go.Proofs.YtpfnjippdjhfgaaDoor.lawKeyTwice
