/- The sum of any two parts is that of both together, and more of the first one's. -/
import Derived.Test.YtgacljanapmnfaaDoorRows
import Derived.Test.YtgacljanapmnfaaDoorTie
import Derived.Test.YtgacljanapmnfaaDoorCards
import Derived.SevenTiedAt
import Derived.LaidMore
import Derived.Stop.Joined
import Derived.WalkKit
import Derived.ProofKit
import Derived.OpenShut
import Derived.ShutString
import Derived.ChangeOld
import Derived.Below
import Derived.Test.YtgacljanapmnfaaDoorCrcC
namespace Go.Proofs.YtgacljanapmnfaaDoor.lawCrcParts
open Go.ChangeShapes Go.WideShapes Go.ChangeAt Go.RowKit
open Go.ChangeMaps (open_string shut_string)
set_option linter.unusedVariables false

theorem own : ownKnob Tryd.prog.godebug = none := by kernel_rfl
theorem laidOut : laidOutB Tryd.prog = true := by kernel_rfl

/-- What the walk is told of a slice of integers that came in. -/
def IsRow (k : IntKind) (w : World) (a : Option Addr) (len cap : Nat) (zs : List Int) : Prop :=
  (a = none ∧ len = 0 ∧ cap = 0 ∧ zs = []) ∨
  ∃ x, a = some x ∧ len ≤ cap ∧ cap ≤ maxLen ∧ zs.length = cap ∧ (∀ i, i < zs.length → w.cell? (x.add i) = some (.int k (zs.getD i 0))) ∧ ∀ n ∈ zs, (Lit.int k n).wf = true

/-! The walk: the Go text returns true and writes nothing that was there. -/
set_option maxRecDepth 100000 in
set_option maxHeartbeats 1000000 in
theorem walk (a0 : Option Addr) (len0 cap0 : Nat) (z0 : List Int) (a1 : Option Addr) (len1 cap1 : Nat) (z1 : List Int) (w : World) (w0 : IsRow .u8 w a0 len0 cap0 z0) (w1 : IsRow .u8 w a1 len1 cap1 z1) (hT : Crc.Tabs w) :
    Calls Tryd.prog 4 #[.slice a0 len0 cap0, .slice a1 len1 cap1] w fun e w' => e = .returned (.bool true) ∧ Below w.heap.size w w' := by
  obtain ⟨i0, hi, hz0, hz1, hz2⟩ := info_parts Byt.infoByte
  obtain ⟨x0, HX0, HXL0, hlc0, hcm0, HXN0, hxs0⟩ := Byt.rd_of_row w0
  have hl0 := HXL0.out
  have CC0 : Hid (∀ W, Below w.heap.size w W → Calls Tryd.prog 9 #[.slice a0 len0 cap0] W (Byt.BytesPost (x0.take 300) W)) := Lib.hid (fun W hB => Crc.cut_any a0 len0 cap0 x0 W hl0 hlc0 hcm0 (HX0.out.below hB) HXN0.out hxs0)
  have hk0 : (x0.take 300).length ≤ 300 := by rw [List.length_take]; omega
  clear w0 HX0 HXL0 HXN0 hxs0 hl0
  generalize x0.take 300 = y0 at *
  obtain ⟨x1, HX1, HXL1, hlc1, hcm1, HXN1, hxs1⟩ := Byt.rd_of_row w1
  have hl1 := HXL1.out
  have CC1 : Hid (∀ W, Below w.heap.size w W → Calls Tryd.prog 9 #[.slice a1 len1 cap1] W (Byt.BytesPost (x1.take 300) W)) := Lib.hid (fun W hB => Crc.cut_any a1 len1 cap1 x1 W hl1 hlc1 hcm1 (HX1.out.below hB) HXN1.out hxs1)
  have hk1 : (x1.take 300).length ≤ 300 := by rw [List.length_take]; omega
  clear w1 HX1 HXL1 HXN1 hxs1 hl1
  generalize x1.take 300 = y1 at *
  go_enter Tryd.func4, Tryd.ntmps4
  go_wp2_with fail
  refine (CC0.out _ (Below.refl _ _)).mono ?_; rintro e w1 ⟨ad, cap, rfl, hown, hB1⟩
  have R1 := Lib.hid hown.rd.1
  have C0 := Lib.hid (fun W hW => Crc.cut_own ad cap y0 w1 w.heap.size hown hk0 W hW)
  clear hown
  go_wp2_with fail
  refine (CC1.out _ hB1).mono ?_; rintro e w2 ⟨bd, bcap, rfl, hown, hB2⟩
  have R2 := Lib.hid hown.rd.1
  have R1 := Lib.hid (R1.out.below hB2)
  obtain ⟨hp1, hp2, hp3, -⟩ := hown.pos
  unfold maxLen at hp2
  have HN2 := Lib.hid hp3
  have hB12 := hB1.trans (hB2.mono hB1.size)
  clear hown hp3
  go_wp2_with fail
  refine (C0.out _ hB2).mono ?_; rintro e w3 ⟨cd, ccap, rfl, hown, hB3⟩
  have R23 := Lib.hid (R2.out.below hB3)
  have hB13 := hB12.trans (hB3.mono hB12.size)
  have c1 : Hid (bd = none → y1.length = 0 ∧ bcap = 0) := Lib.hid (fun h => ⟨by have := HN2.out h; omega, HN2.out h⟩)
  have c2 := Lib.hid (Byt.RdB.cells R23.out)
  have hs3 := hB3.size
  unfold Byt.OwnB at hown
  go_wp2_with (at_builtin; refine Own.wpList_append2_any _ rfl _ _ 22 rfl w2.heap.size 5 i0 (.int .u8 0) 1 1 Tryd.underlying22 hi hz0 hz1 hz2 rfl (by decide) _ _ _ rfl hown bd y1.length bcap (Byt.bvs y1) rfl (by rw [Byt.bvs_len, Nat.mul_one]) c1.out c2.out (Byt.bvs_oneCell _) (by unfold maxLen; omega) (by omega) (by omega) ?_; intro v' w4 hown' hgrow _)
  have hB34 : Below w2.heap.size w3 w4 := (Below.refl _ w3).grown hgrow hs3 (fun j ej => (World.ownsRow.lt hown j ej).1)
  have hB24 : Below w2.heap.size w2 w4 := hB3.trans hB34
  have hB14 := hB12.trans (hB24.mono hB12.size)
  have HO : Hid (Byt.OwnB w4 w2.heap.size v' (y0 ++ y1)) := Lib.hid (by unfold Byt.OwnB; rw [List.length_append, Byt.bvs_append]; exact hown')
  obtain ⟨dd, dcap, rfl, _⟩ := Own.shape hown'
  have hln : y0.length + y1.length = (y0 ++ y1).length := (List.length_append ..).symm
  have R1 := R1.out.below hB24
  have R2 := R2.out.below hB24
  have R3 := HO.out.rd.1
  have T4 := hT.below hB14
  have D1 := Lib.hid (fun c => Crc.sum_two ad bd y0.length cap y1.length bcap y0 y1 w4 rfl (by omega) R1 rfl (by omega) R2 T4 c _ rfl)
  have hB5 := hB14.alloc hB14.size (.cells #[.slice ad y0.length cap, .slice bd y1.length bcap] 22)
  obtain ⟨w5, h5⟩ : ∃ w5, Hid (w4.alloc (.cells #[.slice ad y0.length cap, .slice bd y1.length bcap] 22) = w5) := ⟨_, Lib.hid rfl⟩
  have h45 : Below w4.heap.size w4 w5 := by rw [← h5.out]; exact (Below.refl _ _).alloc (Nat.le_refl _) _
  rw [h5.out] at hB5
  have D2 := Lib.hid (fun c => Crc.rsum_any dd (y0.length + y1.length) c (y0 ++ y1) w5 hln.symm (by omega) (R3.below h45))
  have D3 := Lib.hid (fun c => Crc.sum_one ad y0.length cap y0 w5 rfl (by omega) (R1.below h45) (T4.below h45) c _ rfl)
  have hB6 := hB5.alloc hB5.size (.cells #[.slice ad y0.length cap] 22)
  obtain ⟨w6, h6⟩ : ∃ w6, Hid (w5.alloc (.cells #[.slice ad y0.length cap] 22) = w6) := ⟨_, Lib.hid rfl⟩
  have h46 : Below w4.heap.size w4 w6 := by rw [← h6.out]; exact h45.trans ((Below.refl _ _).alloc h45.size _)
  rw [h6.out] at hB6
  have D4 := Lib.hid (Crc.more_any (Crc.sumB y0) (Crc.sumB_lt _) bd y1.length bcap y1 w6 rfl (by omega) (R2.below h46) (T4.below h46))
  rw [Crc.more_sum] at D4
  have D5 := Lib.hid (fun c => Crc.rsum_any dd (y0.length + y1.length) c (y0 ++ y1) w6 hln.symm (by omega) (R3.below h46))
  have D6 := Lib.hid (fun k c => Crc.sum_one dd (y0.length + y1.length) k (y0 ++ y1) w6 hln.symm (by omega) (R3.below h46) (T4.below h46) c _ rfl)
  have hB7 := hB6.alloc hB6.size (.cells #[.slice dd (y0.length + y1.length) dcap] 22)
  obtain ⟨w7, h7⟩ : ∃ w7, Hid (w6.alloc (.cells #[.slice dd (y0.length + y1.length) dcap] 22) = w7) := ⟨_, Lib.hid rfl⟩
  have h47 : Below w4.heap.size w4 w7 := by rw [← h7.out]; exact h46.trans ((Below.refl _ _).alloc h46.size _)
  rw [h7.out] at hB7
  have D7 := Lib.hid (fun c => Crc.rsum_any dd (y0.length + y1.length) c (y0 ++ y1) w7 hln.symm (by omega) (R3.below h47))
  have D8 := Lib.hid (Crc.works_any w7 (T4.below h47))
  clear R1 R2 R3 T4 hown hown' hgrow hln
  go_wp2_with fail
  refine (D1.out _).mono ?_; rintro e w' ⟨rfl, rfl⟩
  rw [h5.out]
  go_wp2_with fail
  refine (D2.out _).mono ?_; rintro e w' ⟨rfl, rfl⟩
  go_wp2_with fail
  refine (D3.out _).mono ?_; rintro e w' ⟨rfl, rfl⟩
  rw [h6.out]
  go_wp2_with fail
  refine (D4.out).mono ?_; rintro e w' ⟨rfl, rfl⟩
  go_wp2_with fail
  refine (D5.out _).mono ?_; rintro e w' ⟨rfl, rfl⟩
  go_wp2_with fail
  refine (D6.out _ _).mono ?_; rintro e w' ⟨rfl, rfl⟩
  rw [h7.out]
  go_wp2_with fail
  refine (D7.out _).mono ?_; rintro e w' ⟨rfl, rfl⟩
  go_wp2_with fail
  refine (D8.out).mono ?_; rintro e w8 ⟨rfl, hB8⟩
  go_wp2_with fail
  go_ret
  exact ⟨rfl, hB7.trans (hB8.mono hB7.size)⟩

set_option maxRecDepth 100000 in
theorem lifted (os : Os) (started : os.Started) (H : Type) (enc : TypeId × Value → H) :
    ReturnsInHanded {} Tryd.checked os 4 .any (fun w args => (Rows.crcPartsSpec.pre enc Tryd.prog Tryd.f4 [] false w args ∧ laidMetH Tryd.prog Crc.laidL w) ∧ sizedMet enc Tryd.prog Tryd.f4 (OpenSpec.ofChange Rows.crcPartsSpec) false w args) (Rows.crcPartsSpec.post enc Tryd.prog Tryd.f4 false true false false) := by
  refine returnsInHanded_of_change_and (C := Tryd.checked) (X := fun w _ => laidMetH Tryd.prog Crc.laidL w) (fun _ _ _ hh h => h.of_heap hh) own started (by kernel_rfl) Tryd.func4
    (ChangeSpec.witness_shaped (enc := enc) (C := Tryd.checked) (os := os) (X := fun w _ => laidMetH Tryd.prog Crc.laidL w) false (World.doorLaid Tryd.prog 33 os) #[.slice none 0 0, .slice none 0 0] 8 rfl (World.shaped_of_RefB (by kernel_rfl) (by kernel_rfl)) (by kernel_rfl) (by kernel_rfl) (by kernel_rfl) (Crc.door_met os _)) ?_
  intro W base args ds gs before hval0 hW _ _ hL _
  have hval : ∀ (j : Nat) t v, Tryd.f4.params[j]? = some t → args[j]? = some v → Value.okWide Tryd.prog W .any base t v := hval0
  have hW' := hW
  obtain ⟨p, q, hA0, hV, rfl, hfz, hnd⟩ := hW
  have hA : DataW.TrodAll enc Tryd.prog W 0 (fun _ => true) true Tryd.f4.params.toList args.toList ds p := hA0
  rw [Tryd.params4] at hA hval
  obtain ⟨v0, vs0, d0, ds0, p0, q0, hargs, rfl, rfl, h0, r0⟩ := trodAll_cons hA
  obtain ⟨v1, vs1, d1, ds1, p1, q1, rfl, rfl, rfl, h1, r1⟩ := trodAll_cons r0
  obtain ⟨rfl, rfl, rfl⟩ := trodAll_nil r1
  obtain rfl : args = #[v0, v1] := by cases args; simp_all
  obtain ⟨rfl, rfl⟩ := trodVars_none hV
  obtain ⟨a0, len0, cap0, rfl⟩ := okWide_slice Tryd.underlying22 (hval 0 22 v0 rfl rfl)
  have k0 := h0
  have lt0 : ∀ x ∈ p0, x.block < W.heap.size := by obtain ⟨m, hm⟩ := k0; exact DataW.trod_lt m _ _ _ hm
  obtain ⟨z0, w0⟩ : ∃ zs, IsRow .u8 W a0 len0 cap0 zs := by
    obtain ⟨fuel, hf⟩ := h0
    rcases open_ints Tryd.underlying22 Tryd.underlying5 (by kernel_rfl) hf with ⟨hcs, _⟩ | ⟨x, l, c, zs, hcs, _, hl, hm, hz, _, hcell, hwz⟩
    · simp [Value.cells] at hcs
      obtain ⟨rfl, rfl, rfl⟩ := hcs
      exact ⟨[], .inl ⟨rfl, rfl, rfl, rfl⟩⟩
    · simp [Value.cells] at hcs
      obtain ⟨rfl, rfl, rfl⟩ := hcs
      exact ⟨zs, .inr ⟨_, rfl, hl, hm, by simpa using hz, hcell, hwz⟩⟩
  obtain ⟨a1, len1, cap1, rfl⟩ := okWide_slice Tryd.underlying22 (hval 1 22 v1 rfl rfl)
  have k1 := h1
  have lt1 : ∀ x ∈ p1, x.block < W.heap.size := by obtain ⟨m, hm⟩ := k1; exact DataW.trod_lt m _ _ _ hm
  obtain ⟨z1, w1⟩ : ∃ zs, IsRow .u8 W a1 len1 cap1 zs := by
    obtain ⟨fuel, hf⟩ := h1
    rcases open_ints Tryd.underlying22 Tryd.underlying5 (by kernel_rfl) hf with ⟨hcs, _⟩ | ⟨x, l, c, zs, hcs, _, hl, hm, hz, _, hcell, hwz⟩
    · simp [Value.cells] at hcs
      obtain ⟨rfl, rfl, rfl⟩ := hcs
      exact ⟨[], .inl ⟨rfl, rfl, rfl, rfl⟩⟩
    · simp [Value.cells] at hcs
      obtain ⟨rfl, rfl, rfl⟩ := hcs
      exact ⟨zs, .inr ⟨_, rfl, hl, hm, by simpa using hz, hcell, hwz⟩⟩
  clear hA0 hval0
  have hT := Crc.tabs_of_laid hL
  refine (walk a0 len0 cap0 z0 a1 len1 cap1 z1 W w0 w1 hT).mono fun e W' ⟨he, bel⟩ => ?_
  subst he
  exact ⟨_, rfl, _, _, _, [], _, [], hW', trodAll_mk1 (shut_bool Tryd.underlying4 _), (trodAll_cons_mk (Below.trod laidOut (by kernel_rfl) (of_decide_eq_true (by kernel_rfl)) k0 bel lt0) (trodAll_cons_mk (Below.trod laidOut (by kernel_rfl) (of_decide_eq_true (by kernel_rfl)) k1 bel lt1) trodAll_mk0)), rfl, bel.frame _, fun h => by cases h⟩

theorem over : Rows.crcPartsRow.holds Tryd.pinned (OpenSpec.ofChange Rows.crcPartsSpec) :=
  OpenClaim.holds_of_wide 4 Tryd.f4 rfl rfl rfl rfl rfl rfl rfl ⟨rfl, rfl, rfl, rfl, rfl⟩ rfl rfl rfl rfl rfl (by kernel_rfl) Tryd.func4 (by kernel_rfl)
    (of_decide_eq_true (by kernel_rfl)) (by unfold Func.isWrapper; first | (rw [if_pos (by decide +kernel)]; kernel_rfl) | (rw [if_neg (by decide +kernel)]; exact ⟨rfl, rfl⟩))
    (fun os started H enc _ => lifted os started H enc)

theorem func_is {f : FuncId} (h : Tryd.prog.funcNamed Rows.crcPartsRow.func = some f) : f = 4 :=
  Option.some.inj (h.symm.trans (show Tryd.prog.funcNamed Rows.crcPartsRow.func = some 4 by kernel_rfl))
theorem proved : Rows.CrcPartsCardSaid :=
  Claim7.holds_tied_plain_at .later [] Rows.crcPartsCard.laidKinds true Rows.crcPartsCard.stood.harness false
    over (fun _ h => by cases h) (by kernel_rfl) (fun _ h => by cases h) crcParts_row_tie rfl ⟨rfl, rfl⟩ (by kernel_rfl) rfl
    (fun f fn hf hfn => by
      obtain rfl := func_is hf
      obtain rfl : fn = Tryd.f4 := (Option.some.inj (Tryd.func4.symm.trans hfn)).symm
      exact ⟨by kernel_rfl, fun j t ht => by
        rw [Tryd.params4] at ht
        have hm : t ∈ [22, 22] := by simpa using Array.mem_of_getElem? ht
        have hall : ([22, 22].all fun u => !Tryd.prog.wantsStandIn u) = true := by kernel_rfl
        exact (show Tryd.prog.wantsStandIn t = false by simpa using List.all_eq_true.1 hall t hm)⟩)
    (by kernel_rfl)
#print axioms proved
end Go.Proofs.YtgacljanapmnfaaDoor.lawCrcParts
