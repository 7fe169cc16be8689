/- Behind a turn whose errors are within bounds any two clocks are apart by no more than twice both, whatever they told ahead. -/
import Derived.Test.YtkcjllkhmncfdaaDoorRows
import Derived.Test.YtkcjllkhmncfdaaDoorTie
import Derived.Test.YtkcjllkhmncfdaaDoorCards
import Derived.SevenTiedAt
import Derived.LaidMore
import Derived.Stop.Joined
import Derived.WalkKit
import Derived.ProofKit
import Derived.OpenShut
import Derived.ShutString
import Derived.ChangeOld
import Derived.Below
import Derived.Test.YtkcjllkhmncfdaaDoorMndE
import Derived.Deep.CutBlock
namespace Go.Proofs.YtkcjllkhmncfdaaDoor.lawMendNear
open Go.ChangeShapes Go.WideShapes Go.ChangeAt Go.RowKit
open Go.ChangeMaps (open_string shut_string)
set_option linter.unusedVariables false

theorem own : ownKnob Tryd.prog.godebug = none := by kernel_rfl
theorem laidOut : laidOutB Tryd.prog = true := by kernel_rfl

/-- What the walk is told of a slice of integers that came in. -/
def IsRow (k : IntKind) (w : World) (a : Option Addr) (len cap : Nat) (zs : List Int) : Prop :=
  (a = none ∧ len = 0 ∧ cap = 0 ∧ zs = []) ∨
  ∃ x, a = some x ∧ len ≤ cap ∧ cap ≤ maxLen ∧ zs.length = cap ∧ (∀ i, i < zs.length → w.cell? (x.add i) = some (.int k (zs.getD i 0))) ∧ ∀ n ∈ zs, (Lit.int k n).wf = true

/-! The walk: the Go text returns true and writes nothing that was there. -/
set_option linter.unusedSimpArgs false in
set_option maxRecDepth 100000 in
set_option maxHeartbeats 4000000 in
theorem walk (a0 : Option Addr) (len0 cap0 : Nat) (z0 : List Int) (a1 : Int) (a2 : Mnd.Wr) (w : World) (w0 : IsRow .i32 w a0 len0 cap0 z0) (w1 : (Lit.int .i64 a1).wf = true) (w2 : Mnd.OkWr w a2) (hT : Nodes.Tabs w) :
    Calls Tryd.prog 3 #[.slice a0 len0 cap0, .int .i64 a1, Mnd.wrval a2] w fun e w' => e = .returned (.bool true) ∧ Below w.heap.size w w' := by
  have HLA := Lib.hid (fun i (hi : i < len0) => IntK.RowK.at w0 hi)
  have HK := Lib.hid (fun W (hB : Below w.heap.size w W) => Mnd.OkWr.later w2 hB)
  have HT := Lib.hid hT
  obtain ⟨e0, e1⟩ := bounds_u16 w2.e
  obtain ⟨d0, d1⟩ := bounds_u16 w2.d
  obtain ⟨m, hm1, hm2, hm3⟩ : ∃ m, m ≤ len0 ∧ m ≤ 8 ∧ (m = len0 ∨ m = 8) := ⟨min len0 8, by omega, by omega, by omega⟩
  obtain ⟨w0', hw0⟩ : ∃ w0', Hid (w0' = w.alloc (.cells (Mnd.wrcells a2) 26)) := ⟨_, Lib.hid rfl⟩
  obtain ⟨hB0, hbox⟩ := Mnd.wr_box w w0' a2 hw0.out
  have HB0 := Lib.hid hB0
  have HBX := Lib.hid hbox
  clear w0 w1 w2 hT hB0 hbox
  unfold Mnd.wrval Mnd.wrcells at *
  go_enter Tryd.func3, Tryd.ntmps3
  go_upto_region 1 with fail
  rw [← hw0.out]
  go_upto_block 0 with fail
  go_cut [7, 8] from 13 to 30 (fun v _ W => ∃ (ad : Option Addr) (cap : Nat), v = .slice ad m cap ∧ Hid (∃ A : List Int, I64s.Sl W ad cap A ∧ A.length = m ∧ ∀ x ∈ A, -2147483648 ≤ x ∧ x ≤ 2147483647) ∧ Hid (Below w0'.heap.size w0' W))
  case first =>
    go_wp2_with fail
    go_loopw [8, 7] (fun iv v W => ∃ (k : Nat) (A : List Int), k ≤ m ∧ iv = .int .i64 k ∧ Hid (I64s.OwnL W w0'.heap.size v A) ∧ A.length = k ∧ Hid (∀ x ∈ A, -2147483648 ≤ x ∧ x ≤ 2147483647) ∧ Hid (Below w0'.heap.size w0' W)) (fun iv _ _ => m - (intOf iv).toNat)
    case atStart => exact ⟨0, [], Nat.zero_le _, rfl, Lib.hid (I64s.OwnL.nil _ _), rfl, Lib.hid (fun x hx => by cases hx), Lib.hid (Below.refl _ _)⟩
    case round =>
      obtain ⟨k, A, hk, rfl, HO, hAl, HA, HB⟩ := hrel
      generalize wr = W1 at *
      have q6 : (0 : Int) ≤ (k : Int) := by omega
      by_cases hkm : k < m
      · obtain ⟨b, off, had, hc, hwf⟩ := HLA.out k (by omega)
        have c1 := hc W1 (HB0.out.trans (HB.out.mono HB0.out.size))
        obtain ⟨z0', z1'⟩ := bounds_i32 hwf
        have d3 : decide ((k : Int) < (len0 : Int)) = true := decide_eq_true (by omega)
        have d4 : decide ((k : Int) < 8) = true := decide_eq_true (by omega)
        have q5 : k < len0 := by omega
        generalize z0.getD k 0 = z at *
        have hown := HO.out
        have hlen : A.length < 1099511627776 := by omega
        have hsz := HB.out.size
        have HA2 : Hid (∀ x ∈ A ++ [z], -2147483648 ≤ x ∧ x ≤ 2147483647) := Lib.hid (fun x hx => by
          rcases List.mem_append.1 hx with hx | hx
          · exact HA.out x hx
          · rw [List.mem_singleton.1 hx]; exact ⟨z0', z1'⟩)
        have y1 : IntKind.i64.wrap z = z := Mnd.wrap_id (by omega) (by omega)
        subst had
        clear hc hwf HLA HK HT HBX HO HA
        go_wp2_with (at_builtin; refine I64s.app_one rfl _ _ rfl w0'.heap.size _ _ rfl hown z rfl hlen hsz ?_; intro v' w4 hown' hB4 _ _)
        have HO4 := Lib.hid hown'
        have HB4 := Lib.hid (HB.out.trans hB4)
        clear hown' hB4
        go_roundw
        case rel => exact ⟨k + 1, A ++ [z], by omega, by go_num, HO4, by rw [List.length_append]; simp only [List.length_singleton]; omega, HA2, HB4⟩
        case measure => simp [intOf]; omega
      · obtain rfl : k = m := by omega
        obtain ⟨ad, cap, rfl, -⟩ := Own.shape HO.out
        have HE : Hid (∃ A : List Int, I64s.Sl W1 ad cap A ∧ A.length = k ∧ ∀ x ∈ A, -2147483648 ≤ x ∧ x ≤ 2147483647) := Lib.hid ⟨A, HO.out.sl, hAl, HA.out⟩
        rw [hAl]
        clear HLA HK HT HBX HO HA
        rcases (show ¬ (k < len0) ∨ (k < len0 ∧ ¬ (k < 8)) by omega) with hx | ⟨hx, hx8⟩
        · have d3 : decide ((k : Int) < (len0 : Int)) = false := decide_eq_false (by omega)
          go_wp2_with fail
          go_meet
          case rel => exact ⟨ad, cap, rfl, HE, HB⟩
        · have d3 : decide ((k : Int) < (len0 : Int)) = true := decide_eq_true (by omega)
          have d4 : decide ((k : Int) < 8) = false := decide_eq_false (by omega)
          go_wp2_with fail
          go_meet
          case rel => exact ⟨ad, cap, rfl, HE, HB⟩
  case rest =>
    obtain ⟨ad, cap, rfl, HE, HB⟩ := hcut
    generalize wc = W1 at *
    obtain ⟨A, hsl, hAl, hA⟩ := HE.out
    have HS := Lib.hid hsl
    have HA := Lib.hid hA
    have HBW := Lib.hid (HB0.out.trans (HB.out.mono HB0.out.size))
    have HX : Hid (∀ W, Below W1.heap.size W1 W → Below w.heap.size w W ∧ I64s.Sl W ad cap A ∧ Mnd.OkWr W a2 ∧ Nodes.Tabs W ∧ W.cell? ⟨w.heap.size, 0, none⟩ = some (.int .u16 a2.e) ∧ W.cell? ⟨w.heap.size, 1, none⟩ = some (.int .u16 a2.d) ∧ W.cell? ⟨w.heap.size, 2, none⟩ = some (.slice a2.er a2.erL a2.erC) ∧ W.cell? ⟨w.heap.size, 3, none⟩ = some (.slice a2.dr a2.drL a2.drC)) := Lib.hid (fun W hW => by
      have h1 := HBW.out.trans (hW.mono HBW.out.size)
      obtain ⟨c0, c1, c2, c3⟩ := HBX.out W (HB.out.trans (hW.mono HB.out.size))
      exact ⟨h1, hsl.below hW, HK.out W h1, HT.out.below h1, c0, c1, c2, c3⟩)
    clear HLA HK HT HE HB HB0 HBX hsl hA hw0 hm1 hm3 HBW HS
    go_upto_if 33 with fail
    go_cut [9] from 31 to 33 (fun s W => ∃ S : Nat, s = .int .u64 (S : Int) ∧ Hid (S = 255 ∨ S = 85) ∧ Hid (W = W1))
    case first =>
      clear HX HA
      by_cases h3 : a1.tmod 3 = 0
      · have t3 : (a1.tmod 3 == 0) = true := by rw [h3]; rfl
        go_wp2_with fail
        go_meet
        case rel => exact ⟨85, rfl, Lib.hid (.inr rfl), Lib.hid (by trivial)⟩
      · have t3 : (a1.tmod 3 == 0) = false := beq_eq_false_iff_ne.2 h3
        go_wp2_with fail
        go_meet
        case rel => exact ⟨255, rfl, Lib.hid (.inl rfl), Lib.hid (by trivial)⟩
    case rest =>
      obtain ⟨S, rfl, HS, HW⟩ := hcut
      have hW := HW.out
      rw [hW]
      clear HW hW
      obtain ⟨-, -, hok, hT1, c0, c1, c2, c3⟩ := HX.out W1 (Below.refl _ _)
      have hS64 : S < 18446744073709551616 := by have := HS.out; omega
      have C1 := Lib.hid (Mnd.turn_any a2 S hS64 W1 hok)
      unfold Mnd.TurnPost Mnd.wrval Mnd.wrcells at C1
      clear hok hT1
      go_wp2_with fail
      refine (C1.out).mono ?_; rintro e w2 ⟨ea, ec, rs, da, dc, ds, rfl, hll, hsl, hE, hD, hB2⟩
      obtain ⟨-, hA2, -, hT2, -, -, -, -⟩ := HX.out w2 hB2
      have hAo : (Mnd.oneL A S (rs.map Mnd.Rw.zs) ds a1).length = m := by rw [Mnd.oneL_len, hAl]
      have C2 := Lib.hid (Mnd.one_any ad cap A S ea ec rs da dc ds a1 w2 hA2 hll hsl hS64 (by omega) hT2)
      have HN := Lib.hid (Mnd.near_end (c := A) (S := S) (rs := rs) (ds := ds) (f := a1) HS.out (by omega) ⟨e0, e1⟩ ⟨d0, d1⟩ hE hD)
      unfold I64s.ListPost at C2
      rw [hAo, hAl] at C2
      rw [hAl] at HN
      have HB2 := Lib.hid hB2
      clear hll hsl hE hD hB2 hA2 hT2 C1 c0 c1 c2 c3 HS
      generalize Mnd.oneL A S (rs.map Mnd.Rw.zs) ds a1 = Z at *
      go_wp2_with fail
      refine (C2.out).mono ?_; rintro e w3 ⟨ad3, cap3, rfl, hown3, hB3⟩
      have HB3 := Lib.hid (HB2.out.trans (hB3.mono HB2.out.size))
      obtain ⟨-, -, -, hT3, -, -, -, -⟩ := HX.out w3 HB3.out
      have C3 := Lib.hid (Mnd.spread_any ad3 cap3 Z 255 w3 hown3.sl (by omega) (by omega) hT3)
      rw [hAo] at C3
      obtain ⟨hv, hb⟩ := HN.out
      clear hown3 hB3 hT3 C2 HB2 HN HA hAl
      generalize Mnd.sprV Z (Mnd.whoL 255 m) = v at *
      generalize Mnd.sprB (Mnd.whoL 255 m) = bb at *
      clear hAo
      have y1 : IntKind.i64.wrap a2.e = a2.e := Mnd.wrap_id (by omega) (by omega)
      have y2 : IntKind.i64.wrap a2.d = a2.d := Mnd.wrap_id (by omega) (by omega)
      have dv : decide (v ≤ 2 * a2.e + 2 * a2.d) = true := decide_eq_true hv
      go_wp2_with fail
      refine (C3.out).mono ?_; rintro e w4 ⟨rfl, hB4⟩
      have HB4 := Lib.hid (HB3.out.trans (hB4.mono HB3.out.size))
      obtain ⟨hBw, -, -, hT4, k0, k1, -, -⟩ := HX.out w4 HB4.out
      have C4 := Lib.hid (Mnd.works27_any w4 hT4)
      have HBw := Lib.hid hBw
      clear hB4 hBw hT4 C3 HB3 HX HB4
      obtain ⟨E, D, era, erL, erC, erR, dra, drL, drC, drS⟩ := a2
      simp only at *
      rcases (show m = 0 ∨ 0 < m by omega) with hm0 | hm0
      all_goals (
        first
          | (subst hm0
             have hbb : bb = false := by rw [hb]; rfl)
          | (have hbb : bb = true := by rw [hb]; exact decide_eq_true hm0
             have hmi : (0 : Int) < (m : Int) := by omega)
        subst hbb
        clear hb
        go_wp2_with fail
        refine (C4.out).mono ?_; rintro e w5 ⟨rfl, hB5⟩
        have HB5 := Lib.hid (HBw.out.trans (hB5.mono HBw.out.size))
        clear hB5
        go_wp2_with fail
        go_ret
        exact ⟨rfl, HB5.out⟩)

set_option maxRecDepth 100000 in
theorem lifted (os : Os) (started : os.Started) (H : Type) (enc : TypeId × Value → H) :
    ReturnsInHanded {} Tryd.checked os 3 .any (fun w args => (Rows.mendNearSpec.pre enc Tryd.prog Tryd.f3 [] false w args ∧ laidMetH Tryd.prog Mnd.laidL w) ∧ sizedMet enc Tryd.prog Tryd.f3 (OpenSpec.ofChange Rows.mendNearSpec) false w args) (Rows.mendNearSpec.post enc Tryd.prog Tryd.f3 false true false false) := by
  refine returnsInHanded_of_change_and (C := Tryd.checked) (X := fun w _ => laidMetH Tryd.prog Mnd.laidL w) (fun _ _ _ hh h => h.of_heap hh) own started (by kernel_rfl) Tryd.func3
    (ChangeSpec.witness_shaped (enc := enc) (C := Tryd.checked) (os := os) (X := fun w _ => laidMetH Tryd.prog Mnd.laidL w) false (World.doorLaid Tryd.prog 14 os) #[.slice none 0 0, .int .i64 0, .agg #[.int .u16 0, .int .u16 0, .slice none 0 0, .slice none 0 0]] 8 rfl (World.shaped_of_RefB (by kernel_rfl) (by kernel_rfl)) (by kernel_rfl) (by kernel_rfl) (by kernel_rfl) (Mnd.door_met os _)) ?_
  intro W base args ds gs before hval0 hW _ _ hL _
  have hval : ∀ (j : Nat) t v, Tryd.f3.params[j]? = some t → args[j]? = some v → Value.okWide Tryd.prog W .any base t v := hval0
  have hW' := hW
  obtain ⟨p, q, hA0, hV, rfl, hfz, hnd⟩ := hW
  have hA : DataW.TrodAll enc Tryd.prog W 0 (fun _ => true) true Tryd.f3.params.toList args.toList ds p := hA0
  rw [Tryd.params3] at hA hval
  obtain ⟨v0, vs0, d0, ds0, p0, q0, hargs, rfl, rfl, h0, r0⟩ := trodAll_cons hA
  obtain ⟨v1, vs1, d1, ds1, p1, q1, rfl, rfl, rfl, h1, r1⟩ := trodAll_cons r0
  obtain ⟨v2, vs2, d2, ds2, p2, q2, rfl, rfl, rfl, h2, r2⟩ := trodAll_cons r1
  obtain ⟨rfl, rfl, rfl⟩ := trodAll_nil r2
  obtain rfl : args = #[v0, v1, v2] := by cases args; simp_all
  obtain ⟨rfl, rfl⟩ := trodVars_none hV
  obtain ⟨a0, len0, cap0, rfl⟩ := okWide_slice Tryd.underlying22 (hval 0 22 v0 rfl rfl)
  have k0 := h0
  have lt0 : ∀ x ∈ p0, x.block < W.heap.size := by obtain ⟨m, hm⟩ := k0; exact DataW.trod_lt m _ _ _ hm
  obtain ⟨z0, w0⟩ : ∃ zs, IsRow .i32 W a0 len0 cap0 zs := by
    obtain ⟨fuel, hf⟩ := h0
    rcases open_ints Tryd.underlying22 Tryd.underlying21 (by kernel_rfl) hf with ⟨hcs, _⟩ | ⟨x, l, c, zs, hcs, _, hl, hm, hz, _, hcell, hwz⟩
    · simp [Value.cells] at hcs
      obtain ⟨rfl, rfl, rfl⟩ := hcs
      exact ⟨[], .inl ⟨rfl, rfl, rfl, rfl⟩⟩
    · simp [Value.cells] at hcs
      obtain ⟨rfl, rfl, rfl⟩ := hcs
      exact ⟨zs, .inr ⟨_, rfl, hl, hm, by simpa using hz, hcell, hwz⟩⟩
  obtain ⟨a1, rfl, rfl, rfl, w1⟩ := open_int Tryd.underlying3 (hval 1 3 v1 rfl rfl) h1
  have k2 := h2
  have lt2 : ∀ x ∈ p2, x.block < W.heap.size := by obtain ⟨m, hm⟩ := k2; exact DataW.trod_lt m _ _ _ hm
  obtain ⟨a2, rfl, w2⟩ := Mnd.open_wr (hval 2 26 v2 rfl rfl) h2
  clear hA0 hval0
  have hT := Mnd.tabs_of_laid hL
  refine (walk a0 len0 cap0 z0 a1 a2 W w0 w1 w2 hT).mono fun e W' ⟨he, bel⟩ => ?_
  subst he
  exact ⟨_, rfl, _, _, _, [], _, [], hW', trodAll_mk1 (shut_bool Tryd.underlying4 _), (trodAll_cons_mk (Below.trod laidOut (by kernel_rfl) (of_decide_eq_true (by kernel_rfl)) k0 bel lt0) (trodAll_cons_mk (shut_int Tryd.underlying3 w1) (trodAll_cons_mk (Below.trod laidOut (by kernel_rfl) (of_decide_eq_true (by kernel_rfl)) k2 bel lt2) trodAll_mk0))), rfl, bel.frame _, fun h => by cases h⟩

theorem over : Rows.mendNearRow.holds Tryd.pinned (OpenSpec.ofChange Rows.mendNearSpec) :=
  OpenClaim.holds_of_wide 3 Tryd.f3 rfl rfl rfl rfl rfl rfl rfl ⟨rfl, rfl, rfl, rfl, rfl⟩ rfl rfl rfl rfl rfl (by kernel_rfl) Tryd.func3 (by kernel_rfl)
    (of_decide_eq_true (by kernel_rfl)) (by unfold Func.isWrapper; first | (rw [if_pos (by decide +kernel)]; kernel_rfl) | (rw [if_neg (by decide +kernel)]; exact ⟨rfl, rfl⟩))
    (fun os started H enc _ => lifted os started H enc)

theorem func_is {f : FuncId} (h : Tryd.prog.funcNamed Rows.mendNearRow.func = some f) : f = 3 :=
  Option.some.inj (h.symm.trans (show Tryd.prog.funcNamed Rows.mendNearRow.func = some 3 by kernel_rfl))
theorem proved : Rows.MendNearCardSaid :=
  Claim7.holds_tied_plain_at .later [] Rows.mendNearCard.laidKinds true Rows.mendNearCard.stood.harness false
    over (fun _ h => by cases h) (by kernel_rfl) (fun _ h => by cases h) mendNear_row_tie rfl ⟨rfl, rfl⟩ (by kernel_rfl) rfl
    (fun f fn hf hfn => by
      obtain rfl := func_is hf
      obtain rfl : fn = Tryd.f3 := (Option.some.inj (Tryd.func3.symm.trans hfn)).symm
      exact ⟨by kernel_rfl, fun j t ht => by
        rw [Tryd.params3] at ht
        have hm : t ∈ [22, 3, 26] := by simpa using Array.mem_of_getElem? ht
        have hall : ([22, 3, 26].all fun u => !Tryd.prog.wantsStandIn u) = true := by kernel_rfl
        exact (show Tryd.prog.wantsStandIn t = false by simpa using List.all_eq_true.1 hall t hm)⟩)
    (by kernel_rfl)
#print axioms proved
end Go.Proofs.YtkcjllkhmncfdaaDoor.lawMendNear
