/- In the time that a packet is under way, however long each link takes and whatever is wrong in each tick, within the bounds, a clock goes on by the middle, or by the error more or less at most. -/
import Derived.Test.YtlmdandgjapmjaaRows
import Derived.WalkKit
import Derived.ProofKit
import Derived.OpenShut
import Derived.ShutString
import Derived.ChangeOld
import Derived.Below
import Derived.Test.YtlmdandgjapmjaaHopV
import Derived.Deep.Cut
import Derived.Deep.CutRange
import Derived.BigRegion
import Derived.BigQuiet
namespace Go.Proofs.Ytlmdandgjapmjaa.lawHopsTrue
open Go.ChangeShapes Go.WideShapes Go.ChangeAt Go.RowKit
open Go.ChangeMaps (open_string shut_string)
set_option linter.unusedVariables false

theorem own : ownKnob Try.prog.godebug = none := by kernel_rfl
theorem laidOut : laidOutB Try.prog = true := by kernel_rfl

/-! The walk: the Go text returns true and writes nothing that was there. -/
set_option linter.unusedSimpArgs false in
set_option maxRecDepth 100000 in
set_option maxHeartbeats 4000000 in
theorem walk (a0 : Hop.Wy) (w : World) (w0 : Hop.OkY w a0) :
    Calls Try.prog 6 #[Hop.wyval a0] w fun e w' => e = .returned (.bool true) ∧ Below w.heap.size w w' := by
  obtain ⟨w0', hw0⟩ : ∃ v, Hid (v = w.alloc (.cells #[.int .u8 a0.d0, .int .u8 a0.d1, .int .u8 a0.rho, .slice a0.la a0.ll a0.lc, .slice a0.wa a0.wl a0.wc] 49)) := ⟨_, Lib.hid rfl⟩
  obtain ⟨hB0, hX⟩ := Hop.way_box w w0' a0 hw0.out
  have HB0 := Lib.hid hB0
  have HX := Lib.hid hX
  obtain ⟨k0, k1⟩ := w0.d0
  obtain ⟨k2, k3⟩ := w0.d1
  obtain ⟨k4, k5⟩ := w0.rho
  obtain ⟨hl1, hl2⟩ := w0.links.len
  obtain ⟨hw1, hw2⟩ := w0.wrong.len
  unfold maxLen at hl2 hw2
  have HLA := Lib.hid (fun i (hi : i < a0.ll) => w0.links.at hi)
  have HWA := Lib.hid (fun i (hi : i < a0.wl) => w0.wrong.at hi)
  have C9 := Lib.hid (fun W => Hop.works19_any W)
  clear hB0 hX w0
  obtain ⟨d0, d1, rho, la, ll, lc, ls, wa, wl, wp, ws⟩ := a0
  unfold Hop.wyval
  simp only at *
  go_enter Try.func6, Try.ntmps6
  go_upto_region 1 with fail
  rw [← hw0.out]
  obtain ⟨c0, c1, c2, c3, c4⟩ := HX.out w0' (Below.refl _ _)
  go_quiet (fail)
  obtain ⟨x0, hx0⟩ : ∃ v, d0 % 9 = v := ⟨_, rfl⟩
  obtain ⟨y0, hy0⟩ : ∃ v, d1 % 9 = v := ⟨_, rfl⟩
  obtain ⟨r, hr⟩ : ∃ v, Hid (rho % 65 = v) := ⟨_, Lib.hid rfl⟩
  have hx1 : 0 ≤ x0 ∧ x0 ≤ 8 := by omega
  have hy1 : 0 ≤ y0 ∧ y0 ≤ 8 := by omega
  have hr0 : 0 ≤ r := by have := hr.out; omega
  have hr1 : r ≤ 64 := by have := hr.out; omega
  rw [hx0, hy0]
  obtain ⟨hx1, hx2⟩ := hx1
  obtain ⟨hy1, hy2⟩ := hy1
  clear hx0 hy0 k0 k1 k2 k3
  go_upto_if 31 with fail
  have HBQ : Hid (Below w0'.heap.size w0' (w0'.drewN nq)) := Lib.hid ((Below.refl _ _).trans ⟨rfl, rfl, rfl, Nat.le_refl _, fun _ _ => rfl⟩)
  go_cut [3, 4] from 29 (fun a b W => ∃ x y : Int, a = .int .i64 x ∧ b = .int .i64 y ∧ 0 ≤ x ∧ x ≤ y ∧ y ≤ 8 ∧ Hid (Below w0'.heap.size w0' W))
  case first =>
    by_cases hxy : y0 < x0
    · go_wp2_with fail
      go_meet
      case rel => exact ⟨y0, x0, rfl, rfl, by omega, by omega, by omega, HBQ⟩
    · have hxy' : x0 ≤ y0 := by omega
      clear hxy
      go_wp2_with fail
      go_meet
      case rel => exact ⟨x0, y0, rfl, rfl, by omega, by omega, by omega, HBQ⟩
  case rest =>
    obtain ⟨x, y, rfl, rfl, hx0, hxy, hy8, HBC⟩ := hcut
    clear HBQ hx1 hx2 hy1 hy2 c0 c1 c2 c3 c4
    obtain ⟨w1, rfl⟩ : ∃ z, z = wc := ⟨_, rfl⟩
    obtain ⟨-, -, c2, c3, c4⟩ := HX.out w1 HBC.out
    obtain ⟨H, hH⟩ : ∃ H : Nat, min (ll : Int) 20 = (H : Int) := ⟨min ll 20, by omega⟩
    have hH1 : H ≤ 20 := by omega
    have hH2 : H ≤ ll := by omega
    have HH := Lib.hid hH
    clear hH
    go_upto_region 4 with fail
    go_cut [5, 6] from 34 (fun a b W => a = .int .i64 r ∧ b = .int .i64 (H : Int) ∧ Hid (Below w0'.heap.size w0' W))
    case first =>
      go_region
      all_goals (
        go_wp2_with fail
        all_goals (
          go_meet
          exact ⟨congrArg _ hr.out, congrArg _ (by have := HH.out; omega), Lib.hid (by have := HBC.out; first | exact this | exact this.drew)⟩))
    case rest =>
      obtain ⟨rfl, rfl, HBD⟩ := hcut
      clear HBC c2 c3 c4 hr k4 k5 HH
      obtain ⟨w2, rfl⟩ : ∃ z, z = wc := ⟨_, rfl⟩
      go_wp2_with fail
      go_loopw [7, 9] (fun t i wr => ∃ (k : Nat) (T : Int), k ≤ H ∧ i = .int .i64 k ∧ t = .int .i64 T ∧ 0 ≤ T ∧ T ≤ 8 * (k : Int) ∧ Hid ((k : Int) * x ≤ T ∧ T ≤ (k : Int) * y) ∧ Hid (Below w0'.heap.size w0' wr)) (fun _ i _ => H - (intOf i).toNat)
      case atStart => exact ⟨0, 0, Nat.zero_le _, rfl, rfl, by omega, by omega, Lib.hid (by simp), HBD⟩
      case round =>
        clear HBD
        obtain ⟨k, T, hk, rfl, rfl, hT0, hT8, HT, HBr⟩ := hrel
        obtain ⟨-, -, -, c3, c4⟩ := HX.out wr HBr.out
        by_cases hlt : k < H
        · obtain ⟨b, off, rfl, hcl, hwf⟩ := HLA.out k (by omega)
          have hck := hcl wr (HB0.out.trans (HBr.out.mono HB0.out.size))
          obtain ⟨z0, z1⟩ := bounds_u8 hwf
          generalize ls.getD k 0 = z at *
          obtain ⟨r0, r1⟩ := Hop.tmod_one z (y - x) z0 (by omega)
          have HM := Lib.hid (Hop.link_more HT.out.1 HT.out.2 r0 r1)
          have hne : y - x + 1 ≠ 0 := by omega
          have hps : 0 < y - x + 1 := by omega
          obtain ⟨q, hq⟩ : ∃ q, z.tmod (y - x + 1) = q := ⟨_, rfl⟩
          rw [hq] at r0 r1 HM
          clear hcl hwf
          go_wp2_with fail
          go_roundw
          case rel => exact ⟨k + 1, T + (x + q), by omega, by go_num, rfl, by omega, by omega, HM, HBr⟩
          case measure => simp [intOf]; omega
        · obtain rfl : k = H := by omega
          obtain ⟨t, rfl⟩ := Int.eq_ofNat_of_zero_le hT0
          have ht : t ≤ 160 := by omega
          clear hlt hT8 hT0 HLA hl1 hl2 c3
          generalize wr = w3 at *
          go_wp2_with fail
          go_loopw [8, 10] (fun g i wr => ∃ (j : Nat) (G : Int), j ≤ t ∧ i = .int .i64 j ∧ g = .int .i64 G ∧ 0 ≤ G ∧ G ≤ 2000 * (j : Int) ∧ Hid (1024 * (j : Int) - r * j ≤ G ∧ G ≤ 1024 * (j : Int) + r * j) ∧ Hid (Below w0'.heap.size w0' wr)) (fun _ i _ => t - (intOf i).toNat)
          case atStart => exact ⟨0, 0, Nat.zero_le _, rfl, rfl, by omega, by omega, Lib.hid (by simp), HBr⟩
          case round =>
            clear HBr c4
            obtain ⟨j, G, hj, rfl, rfl, hG0, hG2, HG, HBr⟩ := hrel
            obtain ⟨-, -, -, -, c4⟩ := HX.out wr HBr.out
            by_cases hjt : j < t
            · by_cases hjw : j < wl
              · obtain ⟨b, off, rfl, hcl, hwf⟩ := HWA.out j hjw
                have hck := hcl wr (HB0.out.trans (HBr.out.mono HB0.out.size))
                obtain ⟨z0, z1⟩ := bounds_i8 hwf
                generalize ws.getD j 0 = z at *
                obtain ⟨r2, r3⟩ := Hop.tmod_two z r hr0
                have HM := Lib.hid (Hop.tick_more HG.out.1 HG.out.2 r2 r3)
                have hne : r + 1 ≠ 0 := by omega
                obtain ⟨q, hq⟩ : ∃ q, z.tmod (r + 1) = q := ⟨_, rfl⟩
                rw [hq] at r2 r3 HM
                clear hcl hwf
                go_wp2_with fail
                go_roundw
                case rel => exact ⟨j + 1, G + (1024 + q), by omega, by go_num, rfl, by omega, by omega, HM, HBr⟩
                case measure => simp [intOf]; omega
              · have HM := Lib.hid (Hop.tick_more (d := 0) HG.out.1 HG.out.2 (by omega) hr0)
                go_wp2_with fail
                go_roundw
                case rel => exact ⟨j + 1, G + 1024, by omega, by go_num, rfl, by omega, by omega, HM, HBr⟩
                case measure => simp [intOf]; omega
            · obtain rfl : j = t := by omega
              obtain ⟨f1, f2⟩ := Hop.way_true (h := (k : Int)) (a := x) (b := y) (r := r) (T := (j : Int)) (g := G) (by omega) hx0 hxy hr0 HT.out.1 HT.out.2 HG.out.1 HG.out.2
              obtain ⟨f3, f4⟩ := HT.out
              have hg : Hop.gdB (k : Int) x y = true := decide_eq_true ⟨by omega, by omega, hx0, hxy, by omega⟩
              have he : Hop.erB (k : Int) x y r = true := by unfold Hop.erB; rw [hg, decide_eq_true ⟨hr0, hr1⟩]; rfl
              have CM := Lib.hid (fun W => Hop.midH_any (k : Int) x y W)
              have CE := Lib.hid (fun W => Hop.errH_any (k : Int) x y r W)
              have CS := Lib.hid (fun W => Hop.spanH_any (k : Int) x y W)
              rw [he] at CE
              rw [hg] at CM CS
              obtain ⟨m, hm⟩ : ∃ m, Hop.midV (k : Int) x y = m := ⟨_, rfl⟩
              obtain ⟨v, hv⟩ : ∃ v, Hop.errV (k : Int) x y r = v := ⟨_, rfl⟩
              obtain ⟨lo, hlo⟩ : ∃ v, Hop.loV (k : Int) x y = v := ⟨_, rfl⟩
              obtain ⟨hi, hhi⟩ : ∃ v, Hop.hiV (k : Int) x y = v := ⟨_, rfl⟩
              rw [hm] at CM
              rw [hv] at CE
              rw [hlo, hhi] at CS
              have em : (k : Int) * (x + y) * 512 = m := by rw [← hm]; unfold Hop.midV; rw [if_pos hg]
              have ev : (k : Int) * ((y - x) * 512 + r * y) = v := by rw [← hv]; unfold Hop.errV; rw [if_pos he]
              have el : (k : Int) * x = lo := by rw [← hlo]; unfold Hop.loV; rw [if_pos hg]
              have eh : (k : Int) * y = hi := by rw [← hhi]; unfold Hop.hiV; rw [if_pos hg]
              rw [em, ev] at f1 f2
              rw [el] at f3
              rw [eh] at f4
              obtain ⟨b0, b1⟩ := Hop.mul_bd2 (show 0 ≤ (k : Int) by omega) (show (k : Int) ≤ 64 by omega) (show 0 ≤ x + y by omega) (show x + y ≤ 4032 by omega)
              have hmb : 0 ≤ m ∧ m ≤ 258048 * 512 := by rw [← em]; omega
              obtain ⟨hm0, hm1⟩ := hmb
              have t1 : decide (lo ≤ (j : Int)) = true := decide_eq_true f3
              have t2 : decide ((j : Int) ≤ hi) = true := decide_eq_true f4
              have t3 : decide (G - m ≤ v) = true := decide_eq_true f1
              have t4 : decide (m - G ≤ v) = true := decide_eq_true f2
              have HF := Lib.hid (HB0.out.trans (HBr.out.mono HB0.out.size))
              clear hg he hm hv hlo hhi em ev el eh b0 b1 HT HG hjt HBr HWA c4
              go_wp2_with fail
              refine (CM.out _).mono ?_; rintro e w' ⟨rfl, rfl⟩
              go_wp2_with fail
              refine (CE.out _).mono ?_; rintro e w' ⟨rfl, rfl⟩
              go_wp2_with fail
              refine (CS.out _).mono ?_; rintro e w' ⟨rfl, rfl⟩
              go_wp2_with fail
              refine (C9.out _).mono ?_; rintro e w' ⟨rfl, rfl⟩
              go_wp2_with fail
              go_ret
              exact ⟨rfl, HF.out⟩

set_option maxRecDepth 100000 in
theorem lifted (os : Os) (started : os.Started) (H : Type) (enc : TypeId × Value → H) :
    ReturnsInHanded {} Try.checked os 6 .any (Rows.hopsTrueSpec.pre6 enc Try.prog Try.f6 Rows.hopsTrueRow.domain false) (Rows.hopsTrueSpec.post enc Try.prog Try.f6 false true false false) := by
  refine returnsInHanded_of_change (C := Try.checked) own started (by kernel_rfl) Try.func6
    (ChangeSpec.witness6 (enc := enc) (C := Try.checked) false ⟨#[], #[.agg #[.int .u8 0, .int .u8 0, .int .u8 0, .slice none 0 0, .slice none 0 0]], []⟩ 8 (by kernel_rfl) (by kernel_rfl) (by kernel_rfl) (by kernel_rfl)) ?_
  intro W base args ds gs before hval0 hW hcnd _
  have hval : ∀ (j : Nat) t v, Try.f6.params[j]? = some t → args[j]? = some v → Value.okWide Try.prog W .any base t v := hval0
  have hW' := hW
  obtain ⟨p, q, hA0, hV, rfl, hfz, hnd⟩ := hW
  have hA : DataW.TrodAll enc Try.prog W 0 (fun _ => true) true Try.f6.params.toList args.toList ds p := hA0
  rw [Try.params6] at hA hval
  obtain ⟨v0, vs0, d0, ds0, p0, q0, hargs, rfl, rfl, h0, r0⟩ := trodAll_cons hA
  obtain ⟨rfl, rfl, rfl⟩ := trodAll_nil r0
  obtain rfl : args = #[v0] := by cases args; simp_all
  obtain ⟨rfl, rfl⟩ := trodVars_none hV
  have k0 := h0
  have lt0 : ∀ x ∈ p0, x.block < W.heap.size := by obtain ⟨m, hm⟩ := k0; exact DataW.trod_lt m _ _ _ hm
  obtain ⟨a0, rfl, w0⟩ := Hop.open_way (hval 0 49 v0 rfl rfl) h0
  clear hA0 hval0
  refine (walk a0 W w0).mono fun e W' ⟨he, bel⟩ => ?_
  subst he
  exact ⟨_, rfl, _, _, _, [], _, [], hW', trodAll_mk1 (shut_bool Try.underlying4 _), (trodAll_cons_mk (Below.trod laidOut (by kernel_rfl) (of_decide_eq_true (by kernel_rfl)) k0 bel lt0) trodAll_mk0), rfl, bel.frame _, fun h => by cases h⟩

theorem over : Rows.hopsTrueRow.holds Try.pinned (OpenSpec.ofChange Rows.hopsTrueSpec) :=
  OpenClaim.holds_of_wide 6 Try.f6 rfl rfl rfl rfl rfl rfl rfl ⟨rfl, rfl, rfl, rfl, rfl⟩ rfl rfl rfl rfl rfl (by kernel_rfl) Try.func6 (by kernel_rfl)
    (of_decide_eq_true (by kernel_rfl)) (by unfold Func.isWrapper; first | (rw [if_pos (by decide +kernel)]; kernel_rfl) | (rw [if_neg (by decide +kernel)]; exact ⟨rfl, rfl⟩))
    (fun os started H enc _ => lifted os started H enc)

theorem proved : Rows.HopsTrueSaid := over
#print axioms proved
end Go.Proofs.Ytlmdandgjapmjaa.lawHopsTrue
