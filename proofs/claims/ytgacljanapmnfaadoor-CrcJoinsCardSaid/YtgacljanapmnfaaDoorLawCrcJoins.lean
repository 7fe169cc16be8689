/- The sum of any two parts is told by the sums of both and the length of the second one. -/
import Derived.Test.YtgacljanapmnfaaDoorRows
import Derived.Test.YtgacljanapmnfaaDoorTie
import Derived.Test.YtgacljanapmnfaaDoorCards
import Derived.SevenTiedAt
import Derived.LaidMore
import Derived.Stop.Joined
import Derived.WalkKit
import Derived.ProofKit
import Derived.OpenShut
import Derived.ShutString
import Derived.ChangeOld
import Derived.Below
import Derived.Test.YtgacljanapmnfaaDoorCrcJ
namespace Go.Proofs.YtgacljanapmnfaaDoor.lawCrcJoins
open Go.ChangeShapes Go.WideShapes Go.ChangeAt Go.RowKit
open Go.ChangeMaps (open_string shut_string)
set_option linter.unusedVariables false

theorem own : ownKnob Tryd.prog.godebug = none := by kernel_rfl
theorem laidOut : laidOutB Tryd.prog = true := by kernel_rfl

/-- What the walk is told of a slice of integers that came in. -/
def IsRow (k : IntKind) (w : World) (a : Option Addr) (len cap : Nat) (zs : List Int) : Prop :=
  (a = none ∧ len = 0 ∧ cap = 0 ∧ zs = []) ∨
  ∃ x, a = some x ∧ len ≤ cap ∧ cap ≤ maxLen ∧ zs.length = cap ∧ (∀ i, i < zs.length → w.cell? (x.add i) = some (.int k (zs.getD i 0))) ∧ ∀ n ∈ zs, (Lit.int k n).wf = true

/-! The walk: the Go text returns true and writes nothing that was there. -/
set_option maxRecDepth 100000 in
set_option maxHeartbeats 1000000 in
theorem walk (a0 : Option Addr) (len0 cap0 : Nat) (z0 : List Int) (a1 : Option Addr) (len1 cap1 : Nat) (z1 : List Int) (a2 : Int) (w : World) (w0 : IsRow .u8 w a0 len0 cap0 z0) (w1 : IsRow .u8 w a1 len1 cap1 z1) (w2 : (Lit.int .i64 a2).wf = true) (hT : CrcJ.Tabs w) :
    Calls Tryd.prog 6 #[.slice a0 len0 cap0, .slice a1 len1 cap1, .int .i64 a2] w fun e w' => e = .returned (.bool true) ∧ Below w.heap.size w w' := by
  obtain ⟨i0, hi, hz0, hz1, hz2⟩ := info_parts Byt.infoByte
  obtain ⟨l2, u2⟩ := bounds_i64 w2
  obtain ⟨x0, HX0, HXL0, hlc0, hcm0, HXN0, hxs0⟩ := Byt.rd_of_row w0
  have hl0 := HXL0.out
  have CC0 : Hid (∀ W, Below w.heap.size w W → Calls Tryd.prog 9 #[.slice a0 len0 cap0] W (Byt.BytesPost (x0.take 300) W)) := Lib.hid (fun W hB => Crc.cut_any a0 len0 cap0 x0 W hl0 hlc0 hcm0 (HX0.out.below hB) HXN0.out hxs0)
  have hk0 : (x0.take 300).length ≤ 300 := by rw [List.length_take]; omega
  clear w0 HX0 HXL0 HXN0 hxs0 hl0
  generalize x0.take 300 = y0 at *
  obtain ⟨x1, HX1, HXL1, hlc1, hcm1, HXN1, hxs1⟩ := Byt.rd_of_row w1
  have hl1 := HXL1.out
  have CC1 : Hid (∀ W, Below w.heap.size w W → Calls Tryd.prog 9 #[.slice a1 len1 cap1] W (Byt.BytesPost (x1.take 300) W)) := Lib.hid (fun W hB => Crc.cut_any a1 len1 cap1 x1 W hl1 hlc1 hcm1 (HX1.out.below hB) HXN1.out hxs1)
  have hk1 : (x1.take 300).length ≤ 300 := by rw [List.length_take]; omega
  clear w1 HX1 HXL1 HXN1 hxs1 hl1
  generalize x1.take 300 = y1 at *
  obtain ⟨z, hz⟩ : ∃ z, Hid ((if 0 < a2 then -a2 else a2) = z) := ⟨_, Lib.hid rfl⟩
  have hz0' : z ≤ 0 := by rw [← hz.out]; split <;> omega
  have hzl : -9223372036854775808 ≤ z := by rw [← hz.out]; split <;> omega
  go_enter Tryd.func6, Tryd.ntmps6
  go_wp2_with fail
  refine (CC0.out _ (Below.refl _ _)).mono ?_; rintro e w1 ⟨ad, cap, rfl, hown, hB1⟩
  have R1 := Lib.hid hown.rd.1
  have C0 := Lib.hid (fun W hW => Crc.cut_own ad cap y0 w1 w.heap.size hown hk0 W hW)
  clear hown
  go_wp2_with fail
  refine (CC1.out _ hB1).mono ?_; rintro e w2 ⟨bd, bcap, rfl, hown, hB2⟩
  have R2 := Lib.hid hown.rd.1
  have R1 := Lib.hid (R1.out.below hB2)
  obtain ⟨hp1, hp2, hp3, -⟩ := hown.pos
  unfold maxLen at hp2
  have HN2 := Lib.hid hp3
  have hB12 := hB1.trans (hB2.mono hB1.size)
  have T2 := Lib.hid (hT.below hB12)
  have S0 := Lib.hid (fun W hW => Crc.rsum_any ad y0.length cap y0 W rfl (by omega) (R1.out.below hW))
  have S1 := Lib.hid (Crc.rsum_any bd y1.length bcap y1 w2 rfl (by omega) R2.out)
  have J0 := Lib.hid (Crc.join_any (Crc.sumB y0) (Crc.sumB y1) (y1.length : Nat) (Crc.sumB_lt _) (Crc.sumB_lt _) (by omega) w2 T2.out.2)
  rw [Crc.join_sums] at J0
  clear hown hp3
  have key : ∀ (v : Value) (i1 : Int), True := fun _ _ => trivial
  by_cases hpos : 0 < a2
  all_goals
    have HZ := Lib.hid hz.out
    first | rw [if_pos hpos] at HZ | rw [if_neg hpos] at HZ
    go_wp2_with fail
    refine (S0.out _ (Below.refl _ _)).mono ?_; rintro e w' ⟨rfl, rfl⟩
    go_wp2_with fail
    refine (S1.out).mono ?_; rintro e w' ⟨rfl, rfl⟩
    go_wp2_with fail
    refine (J0.out).mono ?_; rintro e w3 ⟨rfl, hB3⟩
    have hB23 := hB3
    go_wp2_with fail
    refine (C0.out _ (hB2.trans (hB3.mono hB2.size))).mono ?_; rintro e w4 ⟨cd, ccap, rfl, hown, hB4⟩
    have hB24 := hB3.trans (hB4.mono hB3.size)
    have R23 := Lib.hid (R2.out.below hB24)
    have c1 : Hid (bd = none → y1.length = 0 ∧ bcap = 0) := Lib.hid (fun h => ⟨by have := HN2.out h; omega, HN2.out h⟩)
    have c2 := Lib.hid (Byt.RdB.cells R23.out)
    have hs4 := hB4.size
    unfold Byt.OwnB at hown
    go_wp2_with (at_builtin; refine Own.wpList_append2_any _ rfl _ _ 22 rfl w3.heap.size 5 i0 (.int .u8 0) 1 1 Tryd.underlying22 hi hz0 hz1 hz2 rfl (by decide) _ _ _ rfl hown bd y1.length bcap (Byt.bvs y1) rfl (by rw [Byt.bvs_len, Nat.mul_one]) c1.out c2.out (Byt.bvs_oneCell _) (by unfold maxLen; omega) (by omega) (by omega) ?_; intro v' w5 hown' hgrow _)
    have hB45 : Below w3.heap.size w4 w5 := (Below.refl _ w4).grown hgrow hs4 (fun j ej => (World.ownsRow.lt hown j ej).1)
    have hB25 : Below w2.heap.size w2 w5 := hB3.trans ((hB4.trans hB45).mono hB3.size)
    have HO : Hid (Byt.OwnB w5 w3.heap.size v' (y0 ++ y1)) := Lib.hid (by unfold Byt.OwnB; rw [List.length_append, Byt.bvs_append]; exact hown')
    obtain ⟨dd, dcap, rfl, _⟩ := Own.shape hown'
    have hln : (y0 ++ y1).length = y0.length + y1.length := List.length_append ..
    have S2 := Lib.hid (fun c => Crc.rsum_any dd (y0.length + y1.length) c (y0 ++ y1) w5 hln (by omega) HO.out.rd.1)
    have hx0 := Crc.sumB_lt y0
    have J1 := Lib.hid (Crc.join_any (Crc.sumB y0) 0 z hx0 (by omega) (by omega) w5 (T2.out.2.below hB25))
    rw [Crc.join_none _ _ hz0'] at J1
    rw [← HZ.out] at J1
    have hB15 := hB12.trans (hB25.mono hB12.size)
    have HB := Lib.hid hB15
    have HT5 := Lib.hid (T2.out.1.below hB25)
    clear hown hown' hgrow hln hx0
    go_wp2_with fail
    refine (S2.out _).mono ?_; rintro e w' ⟨rfl, rfl⟩
    go_wp2_with fail
    refine (S0.out _ hB25).mono ?_; rintro e w' ⟨rfl, rfl⟩
    go_wp2_with fail
    refine (J1.out).mono ?_; rintro e w6 ⟨rfl, hB6⟩
    have hB26 := hB25.trans (hB6.mono hB25.size)
    go_wp2_with fail
    refine (S0.out _ hB26).mono ?_; rintro e w' ⟨rfl, rfl⟩
    have CW := Lib.hid (Crc.works_any _ (T2.out.1.below hB26))
    go_wp2_with fail
    refine (CW.out).mono ?_; rintro e w7 ⟨rfl, hB7⟩
    have hB17 := hB12.trans ((hB26.trans (hB7.mono hB26.size)).mono hB12.size)
    go_wp2_with fail
    go_ret
    exact ⟨rfl, hB17⟩

set_option maxRecDepth 100000 in
theorem lifted (os : Os) (started : os.Started) (H : Type) (enc : TypeId × Value → H) :
    ReturnsInHanded {} Tryd.checked os 6 .any (fun w args => (Rows.crcJoinsSpec.pre enc Tryd.prog Tryd.f6 [] false w args ∧ laidMetH Tryd.prog CrcJ.laidL w) ∧ sizedMet enc Tryd.prog Tryd.f6 (OpenSpec.ofChange Rows.crcJoinsSpec) false w args) (Rows.crcJoinsSpec.post enc Tryd.prog Tryd.f6 false true false false) := by
  refine returnsInHanded_of_change_and (C := Tryd.checked) (X := fun w _ => laidMetH Tryd.prog CrcJ.laidL w) (fun _ _ _ hh h => h.of_heap hh) own started (by kernel_rfl) Tryd.func6
    (ChangeSpec.witness_shaped (enc := enc) (C := Tryd.checked) (os := os) (X := fun w _ => laidMetH Tryd.prog CrcJ.laidL w) false (World.doorLaid Tryd.prog 33 os) #[.slice none 0 0, .slice none 0 0, .int .i64 0] 8 rfl (World.shaped_of_RefB (by kernel_rfl) (by kernel_rfl)) (by kernel_rfl) (by kernel_rfl) (by kernel_rfl) (CrcJ.door_met os _)) ?_
  intro W base args ds gs before hval0 hW _ _ hL _
  have hval : ∀ (j : Nat) t v, Tryd.f6.params[j]? = some t → args[j]? = some v → Value.okWide Tryd.prog W .any base t v := hval0
  have hW' := hW
  obtain ⟨p, q, hA0, hV, rfl, hfz, hnd⟩ := hW
  have hA : DataW.TrodAll enc Tryd.prog W 0 (fun _ => true) true Tryd.f6.params.toList args.toList ds p := hA0
  rw [Tryd.params6] at hA hval
  obtain ⟨v0, vs0, d0, ds0, p0, q0, hargs, rfl, rfl, h0, r0⟩ := trodAll_cons hA
  obtain ⟨v1, vs1, d1, ds1, p1, q1, rfl, rfl, rfl, h1, r1⟩ := trodAll_cons r0
  obtain ⟨v2, vs2, d2, ds2, p2, q2, rfl, rfl, rfl, h2, r2⟩ := trodAll_cons r1
  obtain ⟨rfl, rfl, rfl⟩ := trodAll_nil r2
  obtain rfl : args = #[v0, v1, v2] := by cases args; simp_all
  obtain ⟨rfl, rfl⟩ := trodVars_none hV
  obtain ⟨a0, len0, cap0, rfl⟩ := okWide_slice Tryd.underlying22 (hval 0 22 v0 rfl rfl)
  have k0 := h0
  have lt0 : ∀ x ∈ p0, x.block < W.heap.size := by obtain ⟨m, hm⟩ := k0; exact DataW.trod_lt m _ _ _ hm
  obtain ⟨z0, w0⟩ : ∃ zs, IsRow .u8 W a0 len0 cap0 zs := by
    obtain ⟨fuel, hf⟩ := h0
    rcases open_ints Tryd.underlying22 Tryd.underlying5 (by kernel_rfl) hf with ⟨hcs, _⟩ | ⟨x, l, c, zs, hcs, _, hl, hm, hz, _, hcell, hwz⟩
    · simp [Value.cells] at hcs
      obtain ⟨rfl, rfl, rfl⟩ := hcs
      exact ⟨[], .inl ⟨rfl, rfl, rfl, rfl⟩⟩
    · simp [Value.cells] at hcs
      obtain ⟨rfl, rfl, rfl⟩ := hcs
      exact ⟨zs, .inr ⟨_, rfl, hl, hm, by simpa using hz, hcell, hwz⟩⟩
  obtain ⟨a1, len1, cap1, rfl⟩ := okWide_slice Tryd.underlying22 (hval 1 22 v1 rfl rfl)
  have k1 := h1
  have lt1 : ∀ x ∈ p1, x.block < W.heap.size := by obtain ⟨m, hm⟩ := k1; exact DataW.trod_lt m _ _ _ hm
  obtain ⟨z1, w1⟩ : ∃ zs, IsRow .u8 W a1 len1 cap1 zs := by
    obtain ⟨fuel, hf⟩ := h1
    rcases open_ints Tryd.underlying22 Tryd.underlying5 (by kernel_rfl) hf with ⟨hcs, _⟩ | ⟨x, l, c, zs, hcs, _, hl, hm, hz, _, hcell, hwz⟩
    · simp [Value.cells] at hcs
      obtain ⟨rfl, rfl, rfl⟩ := hcs
      exact ⟨[], .inl ⟨rfl, rfl, rfl, rfl⟩⟩
    · simp [Value.cells] at hcs
      obtain ⟨rfl, rfl, rfl⟩ := hcs
      exact ⟨zs, .inr ⟨_, rfl, hl, hm, by simpa using hz, hcell, hwz⟩⟩
  obtain ⟨a2, rfl, rfl, rfl, w2⟩ := open_int Tryd.underlying3 (hval 2 3 v2 rfl rfl) h2
  clear hA0 hval0
  have hT := CrcJ.tabs_of_laid hL
  refine (walk a0 len0 cap0 z0 a1 len1 cap1 z1 a2 W w0 w1 w2 hT).mono fun e W' ⟨he, bel⟩ => ?_
  subst he
  exact ⟨_, rfl, _, _, _, [], _, [], hW', trodAll_mk1 (shut_bool Tryd.underlying4 _), (trodAll_cons_mk (Below.trod laidOut (by kernel_rfl) (of_decide_eq_true (by kernel_rfl)) k0 bel lt0) (trodAll_cons_mk (Below.trod laidOut (by kernel_rfl) (of_decide_eq_true (by kernel_rfl)) k1 bel lt1) (trodAll_cons_mk (shut_int Tryd.underlying3 w2) trodAll_mk0))), rfl, bel.frame _, fun h => by cases h⟩

theorem over : Rows.crcJoinsRow.holds Tryd.pinned (OpenSpec.ofChange Rows.crcJoinsSpec) :=
  OpenClaim.holds_of_wide 6 Tryd.f6 rfl rfl rfl rfl rfl rfl rfl ⟨rfl, rfl, rfl, rfl, rfl⟩ rfl rfl rfl rfl rfl (by kernel_rfl) Tryd.func6 (by kernel_rfl)
    (of_decide_eq_true (by kernel_rfl)) (by unfold Func.isWrapper; first | (rw [if_pos (by decide +kernel)]; kernel_rfl) | (rw [if_neg (by decide +kernel)]; exact ⟨rfl, rfl⟩))
    (fun os started H enc _ => lifted os started H enc)

theorem func_is {f : FuncId} (h : Tryd.prog.funcNamed Rows.crcJoinsRow.func = some f) : f = 6 :=
  Option.some.inj (h.symm.trans (show Tryd.prog.funcNamed Rows.crcJoinsRow.func = some 6 by kernel_rfl))
theorem proved : Rows.CrcJoinsCardSaid :=
  Claim7.holds_tied_plain_at .later [] Rows.crcJoinsCard.laidKinds true Rows.crcJoinsCard.stood.harness false
    over (fun _ h => by cases h) (by kernel_rfl) (fun _ h => by cases h) crcJoins_row_tie rfl ⟨rfl, rfl⟩ (by kernel_rfl) rfl
    (fun f fn hf hfn => by
      obtain rfl := func_is hf
      obtain rfl : fn = Tryd.f6 := (Option.some.inj (Tryd.func6.symm.trans hfn)).symm
      exact ⟨by kernel_rfl, fun j t ht => by
        rw [Tryd.params6] at ht
        have hm : t ∈ [22, 22, 3] := by simpa using Array.mem_of_getElem? ht
        have hall : ([22, 22, 3].all fun u => !Tryd.prog.wantsStandIn u) = true := by kernel_rfl
        exact (show Tryd.prog.wantsStandIn t = false by simpa using List.all_eq_true.1 hall t hm)⟩)
    (by kernel_rfl)
#print axioms proved
end Go.Proofs.YtgacljanapmnfaaDoor.lawCrcJoins
