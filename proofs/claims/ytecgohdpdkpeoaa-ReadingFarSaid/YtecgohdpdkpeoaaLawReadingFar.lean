/- What a packet tells of another clock is wrong by at most the error over so many links, however long each takes and however wrong that clock is in each tick, within the bounds. -/
import Derived.Test.YtecgohdpdkpeoaaRows
import Derived.WalkKit
import Derived.ProofKit
import Derived.OpenShut
import Derived.ShutString
import Derived.ChangeOld
import Derived.Below
import Derived.Test.YtecgohdpdkpeoaaRdgW
import Derived.Deep.Cut
import Derived.Deep.CutRange
import Derived.Deep.RegionWith
import Derived.BigRegion
import Derived.BigQuiet
namespace Go.Proofs.Ytecgohdpdkpeoaa.lawReadingFar
open Go.ChangeShapes Go.WideShapes Go.ChangeAt Go.RowKit
open Go.ChangeMaps (open_string shut_string)
set_option linter.unusedVariables false

theorem own : ownKnob Try.prog.godebug = none := by kernel_rfl
theorem laidOut : laidOutB Try.prog = true := by kernel_rfl

/-- What the walk is told of a slice of integers that came in. -/
def IsRow (k : IntKind) (w : World) (a : Option Addr) (len cap : Nat) (zs : List Int) : Prop :=
  (a = none ∧ len = 0 ∧ cap = 0 ∧ zs = []) ∨
  ∃ x, a = some x ∧ len ≤ cap ∧ cap ≤ maxLen ∧ zs.length = cap ∧ (∀ i, i < zs.length → w.cell? (x.add i) = some (.int k (zs.getD i 0))) ∧ ∀ n ∈ zs, (Lit.int k n).wf = true

/-! The walk: the Go text returns true and writes nothing that was there. -/
set_option linter.unusedSimpArgs false in
set_option maxRecDepth 100000 in
set_option maxHeartbeats 4000000 in
theorem walk (a0 : Rdg.Tr) (a1 : Option Addr) (len1 cap1 : Nat) (z1 : List Int) (a2 : Int) (w : World) (w0 : Rdg.OkTr w a0) (w1 : IsRow .u8 w a1 len1 cap1 z1) (w2 : (Lit.int .u32 a2).wf = true) :
    Calls Try.prog 7 #[Rdg.trval a0, .slice a1 len1 cap1, .int .u32 a2] w fun e w' => e = .returned (.bool true) ∧ Below w.heap.size w w' := by
  have hl1 := IntK.RowK.len w1
  have HLA := Lib.hid (fun i (hi : i < len1) => IntK.RowK.at w1 hi)
  obtain ⟨hl2, hl3⟩ := hl1
  unfold maxLen at hl3
  obtain ⟨t0, t1⟩ := bounds_u32 w2
  clear w1 w2
  obtain ⟨w0', hw0⟩ : ∃ v, Hid (v = w.alloc (.cells (Rdg.trcells a0) 34)) := ⟨_, Lib.hid rfl⟩
  obtain ⟨hB0, hX⟩ := Rdg.tr_box w w0' a0 hw0.out
  have HB0 := Lib.hid hB0
  have HX := Lib.hid hX
  obtain ⟨k0, k1⟩ := bounds_u8 w0.there
  obtain ⟨k2, k3⟩ := bounds_u8 w0.back
  obtain ⟨k4, k5⟩ := bounds_u8 w0.rho
  obtain ⟨k6, k7⟩ := bounds_u8 w0.slew
  obtain ⟨s0, s1⟩ := bounds_u32 w0.sent
  obtain ⟨v0, v1⟩ := bounds_u32 w0.val
  have hol := w0.own.len
  have htl := w0.oth.len
  unfold maxLen at hol htl
  have CB : Hid (∀ W, Calls Try.prog 15 #[Rdg.trval a0] W (Rdg.BdPost a0 W)) := Lib.hid (fun W => Rdg.bounds_any a0 W (bounds_u8 w0.dmin) (bounds_u8 w0.dmax) ⟨k4, k5⟩ ⟨k6, k7⟩)
  have HOA := Lib.hid (fun i (hi : i < a0.ownL) => w0.own.at hi)
  have HTA := Lib.hid (fun i (hi : i < a0.othL) => w0.oth.at hi)
  have HB1 : Hid (∀ W V, Below w.heap.size w W → Below W.heap.size W V → Below w.heap.size w V) := Lib.hid (fun W V h1 h2 => h1.trans (h2.mono h1.size))
  have C9 := Lib.hid (fun W => Rdg.works23_any W)
  clear hB0 hX w0
  unfold Rdg.trval Rdg.BdPost at *
  unfold Rdg.trcells at *
  obtain ⟨d0, d1, rho, slew, there, back, oa, ol, oc, os, ta, tl, tc, ts, sent, val⟩ := a0
  simp only at *
  go_enter Try.func7, Try.ntmps7
  go_upto_region 1 with fail
  rw [← hw0.out]
  obtain ⟨c0, c1, c2, c3, c4, c5, c6, c7, c8, c9⟩ := HX.out w0' (Below.refl _ _)
  go_wp2_with fail
  refine (CB.out _).mono ?_; rintro e w1 ⟨x, y, x0, xy, y8, rfl, hB⟩
  have HB := Lib.hid hB
  clear hB c0 c1 c2 c3 c4 c5 c6 c7 c8 c9 CB
  obtain ⟨r, hr⟩ : ∃ r, rho % 65 = r := ⟨_, rfl⟩
  have r0 : 0 ≤ r := by omega
  have r1 : r ≤ 64 := by omega
  obtain ⟨s, hs⟩ : ∃ s, slew + 1 = s := ⟨_, rfl⟩
  rw [hr, hs]
  clear hr hs k0 k1 k2 k3 k4 k5 k6 k7 s0 s1
  obtain ⟨H, hH⟩ : ∃ H : Nat, min (len1 : Int) 20 = (H : Int) := ⟨min len1 20, by omega⟩
  have hH1 : H ≤ 20 := by omega
  have hH2 : H ≤ len1 := by omega
  have HH := Lib.hid hH
  clear hH
  go_upto_region 2 with fail
  go_cut [11] from 26 to 28 (fun a W => a = .int .i64 (H : Int) ∧ Hid (Below w0'.heap.size w0' W))
  case first =>
    go_wp2_with fail
    all_goals (
      go_meet
      exact ⟨congrArg _ (by have := HH.out; omega), HB⟩)
  case rest =>
    obtain ⟨rfl, HBC⟩ := hcut
    clear HB HH
    obtain ⟨w2, rfl⟩ : ∃ z, z = wc := ⟨_, rfl⟩
    go_wp2_with fail
    go_loopw [12, 13] (fun t i wr => ∃ (k : Nat) (T : Int), k ≤ H ∧ i = .int .i64 k ∧ t = .int .i64 T ∧ 0 ≤ T ∧ T ≤ 8 * (k : Int) ∧ Hid ((k : Int) * x ≤ T ∧ T ≤ (k : Int) * y) ∧ Hid (Below w0'.heap.size w0' wr)) (fun _ i _ => H - (intOf i).toNat)
    case atStart => exact ⟨0, 0, Nat.zero_le _, rfl, rfl, by omega, by omega, Lib.hid (by simp), HBC⟩
    case round =>
      clear HBC
      obtain ⟨k, T, hk, rfl, rfl, hT0, hT8, HT, HBr⟩ := hrel
      by_cases hlt : k < H
      · obtain ⟨b, off, rfl, hcl, hwf⟩ := HLA.out k (by omega)
        have hck := hcl wr (HB1.out _ _ HB0.out HBr.out)
        obtain ⟨z0, z1'⟩ := bounds_u8 hwf
        generalize z1.getD k 0 = z at *
        obtain ⟨q0, q1⟩ := IntK.tmod_one z (y - x) z0 (by omega)
        have HM := Lib.hid (IntK.link_more HT.out.1 HT.out.2 q0 q1)
        have hne : y - x + 1 ≠ 0 := by omega
        have hps : 0 < y - x + 1 := by omega
        obtain ⟨q, hq⟩ : ∃ q, z.tmod (y - x + 1) = q := ⟨_, rfl⟩
        rw [hq] at q0 q1 HM
        clear hcl hwf
        go_wp2_with fail
        go_roundw
        case rel => exact ⟨k + 1, T + (x + q), by omega, by go_num, rfl, by omega, by omega, HM, HBr⟩
        case measure => simp [intOf]; omega
      · obtain rfl : k = H := by omega
        obtain ⟨n, rfl⟩ := Int.eq_ofNat_of_zero_le hT0
        have hn : n ≤ 160 := by omega
        clear hlt hT8 hT0 HLA hl2 hl3 hH2
        generalize wr = w3 at *
        have CW1 : Hid (∀ W, Below w0'.heap.size w0' W → Calls Try.prog 16 #[.slice ta tl tc, .int .i64 0, .int .i64 (n : Int), .int .i64 r] W fun e w' => e = .returned (.int .i64 (Rdg.gone tl ts 0 r n)) ∧ W = w') := Lib.hid (fun W hW => Rdg.went_any ta tl tc ts 0 n r W (by omega) (by omega) (by omega) r0 (by omega) (fun i hi => by
            obtain ⟨b, off, e, h1, h2⟩ := HTA.out i hi
            exact ⟨b, off, e, h1 W (HB1.out w0' W HB0.out hW), h2⟩))
        obtain ⟨G0, G1, G2, G3⟩ := Rdg.gone_bd tl ts 0 r0 (show r ≤ 400 by omega) n
        generalize Rdg.gone tl ts 0 r n = G at *
        have HY := Lib.hid (Hop.way_true (h := (k : Int)) (a := x) (b := y) (r := r) (T := (n : Int)) (g := G) (by omega) x0 xy r0 HT.out.1 HT.out.2 G2 G3)
        clear HOA HTA hol htl G2 G3 HT
        have c7 : ∀ z : Qui.Cls w3, z.V.cell? ⟨w.heap.size, 7, none⟩ = some (.slice ta tl tc) := fun z => (HX.out _ (HBr.out.trans (z.lies.mono HBr.out.size))).2.2.2.2.2.2.2.1
        have c9 : ∀ z : Qui.Cls w3, z.V.cell? ⟨w.heap.size, 9, none⟩ = some (.int .u32 val) := fun z => (HX.out _ (HBr.out.trans (z.lies.mono HBr.out.size))).2.2.2.2.2.2.2.2.2
        have HS := Lib.hid (fun z : Qui.Cls w3 => HBr.out.trans (z.lies.mono HBr.out.size))
        go_upto_region 8 with fail
        refine Qui.wp_region_quiet_below (by kernel_rfl) (by kernel_rfl) ?_
        repeat (go_big_quiet_step (first | (go_at_call 16; with_reducible exact Qui.cls_same (CW1.out _ (HS.out _)))))
        refine wpQuiet_nil ?_
        intro _ hw'
        obtain ⟨z, rfl⟩ := hw'
        have hV := Lib.hid z.lies
        generalize z.V = V at *
        clear z
        clear c7 c9
        have HB4 := Lib.hid (HBr.out.trans (hV.out.mono HBr.out.size))
        clear HBr HS hV
        generalize V = w4 at *
        obtain ⟨-, -, -, -, -, -, -, -, -, c9⟩ := HX.out w4 HB4.out
        have HF4 := Lib.hid (HB1.out _ _ HB0.out HB4.out)
        have hg : Hop.gdB (k : Int) x y = true := decide_eq_true ⟨by omega, by omega, x0, xy, by omega⟩
        have hd : Rdg.difB val (k : Int) x y a2 = true := by unfold Rdg.difB; rw [hg, show Rdg.tmB val = true from decide_eq_true (by omega), show Rdg.tmB a2 = true from decide_eq_true (by omega)]; rfl
        have he : Hop.erB (k : Int) x y r = true := by unfold Hop.erB; rw [hg, decide_eq_true ⟨r0, r1⟩]; rfl
        have CM := Lib.hid (fun W => Rdg.diff_any val (k : Int) x y a2 W)
        have CE := Lib.hid (fun W => Hop.errH_any (k : Int) x y r W)
        obtain ⟨m0, m1⟩ := Rdg.mid_bd hg
        have ed : Rdg.difV val (k : Int) x y a2 = val + Hop.midV (k : Int) x y - a2 := by unfold Rdg.difV; rw [hd]; rfl
        have em : (k : Int) * (x + y) * 512 = Hop.midV (k : Int) x y := by unfold Hop.midV; rw [if_pos hg]
        have ev : (k : Int) * ((y - x) * 512 + r * y) = Hop.errV (k : Int) x y r := by unfold Hop.errV; rw [if_pos he]
        rw [hd, ed] at CM
        rw [he] at CE
        rw [em, ev] at HY
        clear hd he ed em ev hg
        generalize Hop.midV (k : Int) x y = m at *
        generalize Hop.errV (k : Int) x y r = v at *
        have e1 : decide (val + m - a2 - (val + G - a2) ≤ v) = true := decide_eq_true (by have := HY.out; omega)
        have e2 : decide (val + G - a2 - (val + m - a2) ≤ v) = true := decide_eq_true (by have := HY.out; omega)
        clear HY
        go_wp2_with fail
        refine (CM.out _).mono ?_; rintro e w5 ⟨rfl, hB⟩
        have HF5 := Lib.hid (HB1.out _ _ HF4.out hB)
        clear hB c9
        go_wp2_with fail
        refine (CE.out _).mono ?_; rintro e w' ⟨rfl, rfl⟩
        go_wp2_with fail
        refine (C9.out _).mono ?_; rintro e w6 ⟨rfl, hB⟩
        have HF6 := Lib.hid (HB1.out _ _ HF5.out hB)
        clear hB
        go_wp2_with fail
        go_ret
        exact ⟨rfl, HF6.out⟩

set_option maxRecDepth 100000 in
theorem lifted (os : Os) (started : os.Started) (H : Type) (enc : TypeId × Value → H) :
    ReturnsInHanded {} Try.checked os 7 .any (Rows.readingFarSpec.pre6 enc Try.prog Try.f7 Rows.readingFarRow.domain false) (Rows.readingFarSpec.post enc Try.prog Try.f7 false true false false) := by
  refine returnsInHanded_of_change (C := Try.checked) own started (by kernel_rfl) Try.func7
    (ChangeSpec.witness6 (enc := enc) (C := Try.checked) false ⟨#[], #[.agg #[.int .u8 0, .int .u8 0, .int .u8 0, .int .u8 0, .int .u8 0, .int .u8 0, .slice none 0 0, .slice none 0 0, .int .u32 0, .int .u32 0], .slice none 0 0, .int .u32 0], []⟩ 8 (by kernel_rfl) (by kernel_rfl) (by kernel_rfl) (by kernel_rfl)) ?_
  intro W base args ds gs before hval0 hW hcnd _
  have hval : ∀ (j : Nat) t v, Try.f7.params[j]? = some t → args[j]? = some v → Value.okWide Try.prog W .any base t v := hval0
  have hW' := hW
  obtain ⟨p, q, hA0, hV, rfl, hfz, hnd⟩ := hW
  have hA : DataW.TrodAll enc Try.prog W 0 (fun _ => true) true Try.f7.params.toList args.toList ds p := hA0
  rw [Try.params7] at hA hval
  obtain ⟨v0, vs0, d0, ds0, p0, q0, hargs, rfl, rfl, h0, r0⟩ := trodAll_cons hA
  obtain ⟨v1, vs1, d1, ds1, p1, q1, rfl, rfl, rfl, h1, r1⟩ := trodAll_cons r0
  obtain ⟨v2, vs2, d2, ds2, p2, q2, rfl, rfl, rfl, h2, r2⟩ := trodAll_cons r1
  obtain ⟨rfl, rfl, rfl⟩ := trodAll_nil r2
  obtain rfl : args = #[v0, v1, v2] := by cases args; simp_all
  obtain ⟨rfl, rfl⟩ := trodVars_none hV
  have k0 := h0
  have lt0 : ∀ x ∈ p0, x.block < W.heap.size := by obtain ⟨m, hm⟩ := k0; exact DataW.trod_lt m _ _ _ hm
  obtain ⟨a0, rfl, w0⟩ := Rdg.open_tr (hval 0 34 v0 rfl rfl) h0
  obtain ⟨a1, len1, cap1, rfl⟩ := okWide_slice Try.underlying39 (hval 1 39 v1 rfl rfl)
  have k1 := h1
  have lt1 : ∀ x ∈ p1, x.block < W.heap.size := by obtain ⟨m, hm⟩ := k1; exact DataW.trod_lt m _ _ _ hm
  obtain ⟨z1, w1⟩ : ∃ zs, IsRow .u8 W a1 len1 cap1 zs := by
    obtain ⟨fuel, hf⟩ := h1
    rcases open_ints Try.underlying39 Try.underlying5 (by kernel_rfl) hf with ⟨hcs, _⟩ | ⟨x, l, c, zs, hcs, _, hl, hm, hz, _, hcell, hwz⟩
    · simp [Value.cells] at hcs
      obtain ⟨rfl, rfl, rfl⟩ := hcs
      exact ⟨[], .inl ⟨rfl, rfl, rfl, rfl⟩⟩
    · simp [Value.cells] at hcs
      obtain ⟨rfl, rfl, rfl⟩ := hcs
      exact ⟨zs, .inr ⟨_, rfl, hl, hm, by simpa using hz, hcell, hwz⟩⟩
  obtain ⟨a2, rfl, rfl, rfl, w2⟩ := open_int Try.underlying32 (hval 2 32 v2 rfl rfl) h2
  clear hA0 hval0
  refine (walk a0 a1 len1 cap1 z1 a2 W w0 w1 w2).mono fun e W' ⟨he, bel⟩ => ?_
  subst he
  exact ⟨_, rfl, _, _, _, [], _, [], hW', trodAll_mk1 (shut_bool Try.underlying4 _), (trodAll_cons_mk (Below.trod laidOut (by kernel_rfl) (of_decide_eq_true (by kernel_rfl)) k0 bel lt0) (trodAll_cons_mk (Below.trod laidOut (by kernel_rfl) (of_decide_eq_true (by kernel_rfl)) k1 bel lt1) (trodAll_cons_mk (shut_int Try.underlying32 w2) trodAll_mk0))), rfl, bel.frame _, fun h => by cases h⟩

theorem over : Rows.readingFarRow.holds Try.pinned (OpenSpec.ofChange Rows.readingFarSpec) :=
  OpenClaim.holds_of_wide 7 Try.f7 rfl rfl rfl rfl rfl rfl rfl ⟨rfl, rfl, rfl, rfl, rfl⟩ rfl rfl rfl rfl rfl (by kernel_rfl) Try.func7 (by kernel_rfl)
    (of_decide_eq_true (by kernel_rfl)) (by unfold Func.isWrapper; first | (rw [if_pos (by decide +kernel)]; kernel_rfl) | (rw [if_neg (by decide +kernel)]; exact ⟨rfl, rfl⟩))
    (fun os started H enc _ => lifted os started H enc)

theorem proved : Rows.ReadingFarSaid := over
#print axioms proved
end Go.Proofs.Ytecgohdpdkpeoaa.lawReadingFar
