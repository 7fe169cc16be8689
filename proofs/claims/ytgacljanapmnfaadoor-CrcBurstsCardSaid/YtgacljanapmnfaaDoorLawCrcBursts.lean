/- Of any sealed bytes, of which bits that lie within 32 are turned, one at least, the rest is not good. -/
import Derived.Test.YtgacljanapmnfaaDoorRows
import Derived.Test.YtgacljanapmnfaaDoorTie
import Derived.Test.YtgacljanapmnfaaDoorCards
import Derived.SevenTiedAt
import Derived.LaidMore
import Derived.Stop.Joined
import Derived.WalkKit
import Derived.ProofKit
import Derived.OpenShut
import Derived.ShutString
import Derived.ChangeOld
import Derived.Below
import Derived.Test.YtgacljanapmnfaaDoorCrcE
import Derived.Test.YtgacljanapmnfaaDoorCrcF
import Derived.Deep.RegionHeld3
import Derived.Deep.RegionHeldLaw
namespace Go.Proofs.YtgacljanapmnfaaDoor.lawCrcBursts
open Go.ChangeShapes Go.WideShapes Go.ChangeAt Go.RowKit
open Go.ChangeMaps (open_string shut_string)
set_option linter.unusedVariables false

theorem own : ownKnob Tryd.prog.godebug = none := by kernel_rfl
theorem laidOut : laidOutB Tryd.prog = true := by kernel_rfl

/-- What the walk is told of a slice of integers that came in. -/
def IsRow (k : IntKind) (w : World) (a : Option Addr) (len cap : Nat) (zs : List Int) : Prop :=
  (a = none ∧ len = 0 ∧ cap = 0 ∧ zs = []) ∨
  ∃ x, a = some x ∧ len ≤ cap ∧ cap ≤ maxLen ∧ zs.length = cap ∧ (∀ i, i < zs.length → w.cell? (x.add i) = some (.int k (zs.getD i 0))) ∧ ∀ n ∈ zs, (Lit.int k n).wf = true

/-! The walk: the Go text returns true and writes nothing that was there. -/
set_option maxRecDepth 100000 in
set_option maxHeartbeats 1000000 in
theorem walk (a0 : Option Addr) (len0 cap0 : Nat) (z0 : List Int) (a1 : Int) (a2 : Int) (w : World) (w0 : IsRow .u8 w a0 len0 cap0 z0) (w1 : (Lit.int .u16 a1).wf = true) (w2 : (Lit.int .u32 a2).wf = true) (hT : Crc.Tabs w) :
    Calls Tryd.prog 8 #[.slice a0 len0 cap0, .int .u16 a1, .int .u32 a2] w fun e w' => e = .returned (.bool true) ∧ Below w.heap.size w w' := by
  obtain ⟨l1, u1⟩ := bounds_u16 w1
  obtain ⟨p, rfl⟩ := Int.eq_ofNat_of_zero_le l1
  have hp : p < 65536 := by omega
  obtain ⟨l2, u2⟩ := bounds_u32 w2
  obtain ⟨m, rfl⟩ := Int.eq_ofNat_of_zero_le l2
  have hm : m < 4294967296 := by omega
  obtain ⟨x0, HX0, HXL0, hlc0, hcm0, HXN0, hxs0⟩ := Byt.rd_of_row w0
  have hl0 := HXL0.out
  have CC0 : Hid (∀ W, Below w.heap.size w W → Calls Tryd.prog 9 #[.slice a0 len0 cap0] W (Byt.BytesPost (x0.take 300) W)) := Lib.hid (fun W hB => Crc.cut_any a0 len0 cap0 x0 W hl0 hlc0 hcm0 (HX0.out.below hB) HXN0.out hxs0)
  have hk0 : (x0.take 300).length ≤ 300 := by rw [List.length_take]; omega
  clear w0 HX0 HXL0 HXN0 hxs0 hl0
  generalize x0.take 300 = y0 at *
  go_enter Tryd.func8, Tryd.ntmps8
  go_wp2_with fail
  refine (CC0.out _ (Below.refl _ _)).mono ?_; rintro e w1 ⟨ad, cap, rfl, hown, hB1⟩
  obtain ⟨p1, p2, p3, -⟩ := hown.pos
  unfold maxLen at p2
  have C1 := Lib.hid (Crc.seal_any ad y0.length cap y0 w1 rfl (by omega) hown.rd.1 p3 p1 (hT.below hB1))
  have HG := Lib.hid (Crc.good_seal y0)
  have hn := Crc.seal_len y0
  obtain ⟨n, hN⟩ : ∃ n, Hid ((Crc.sealB y0).length = n) := ⟨_, Lib.hid rfl⟩
  rw [hN.out] at hn
  have hn4 : 4 ≤ n := by omega
  have hn304 : n ≤ 304 := by omega
  clear hn hown p1 p2 p3
  generalize Crc.sealB y0 = z at *
  go_wp2_with fail
  refine (C1.out).mono ?_; rintro e w2 ⟨bd, bcap, rfl, hown, hB2⟩
  obtain ⟨q1, q2, -, q4⟩ := hown.pos
  rw [hN.out] at q1
  unfold maxLen at q2
  obtain ⟨g, rfl, _, _⟩ := q4 (by omega)
  have hq := Nat.mod_lt p (show 0 < 8 * n by omega)
  have C2 := Lib.hid (Crc.turn_any g 0 n bcap z (p % (8 * n)) m w2 hN.out (by omega) (by omega) (by omega) hm q1 hown.rd.1)
  have e1 : ((p % (8 * n) : Nat) : Int) = (p : Int) % (8 * (n : Int)) := by simp
  rw [e1] at C2
  have HB := Lib.hid (Crc.burst_turned z (p % (8 * n)) m HG.out)
  have HTL := Lib.hid ((Crc.turnB_len z (p % (8 * n)) m 32).trans hN.out)
  generalize Crc.turnB z (p % (8 * n)) m 32 = t at *
  have hB12 := hB1.trans (hB2.mono hB1.size)
  have O2 := Lib.hid hown
  rw [hN.out]
  have h8 : (1 : Int) ≤ 8 * (n : Int) := by omega
  clear hown q4 e1 hq
  go_wp2_with fail
  refine (C2.out).mono ?_; rintro e w3 ⟨cd, ccap, rfl, hown, hB3⟩
  have hB13 := hB12.trans (hB3.mono hB12.size)
  have HS : Hid (∀ W, Below w3.heap.size w3 W → Below w3.heap.size w3 W ∧ (convert 22 9 (.slice cd n ccap)).run Tryd.prog W = .ok (.string (Byt.strB t)) W ∧ (convert 22 9 (.slice (some ⟨g, 0, none⟩) n bcap)).run Tryd.prog W = .ok (.string (Byt.strB z)) W) :=
    Lib.hid (fun W hW => ⟨hW, by have := Byt.OwnB.str hown hW; rwa [HTL.out] at this, by have := Byt.OwnB.str O2.out (hB3.trans (hW.mono hB3.size)); rwa [hN.out] at this⟩)
  have CG : Hid (∀ W, Below w3.heap.size w3 W → Calls Tryd.prog 18 #[.slice cd n ccap] W fun e w' => e = .returned (.bool ((Byt.strB t).toList == (Byt.strB z).toList)) ∧ Below w3.heap.size w3 w') :=
    Lib.hid (fun W hW => by
      have h1 := Crc.good_own cd ccap t W w2.heap.size (hown.below hW) (hT.below (hB13.trans (hW.mono hB13.size)))
      rw [HTL.out] at h1
      exact h1.mono fun e w' h => ⟨by rw [h.1, Crc.str_eq, HB.out]; congr 2; rw [decide_eq_decide]; exact Byt.strB_inj.symm, hW.trans (h.2.mono hW.size)⟩)
  have C6 : Hid (∀ W, Below w3.heap.size w3 W → Calls Tryd.prog 12 #[] W fun e w' => e = .returned (.bool true) ∧ Below w3.heap.size w3 w') := Lib.hid (fun W hW => (Crc.works_any W (hT.below (hB13.trans (hW.mono hB13.size)))).mono fun e w' h => ⟨h.1, hW.trans (h.2.mono hW.size)⟩)
  rw [HTL.out]
  have HB13 := Lib.hid hB13
  clear hown hB1 hB2 hB3 hT hB12 hB13 CC0 hk0
  go_wp2_with fail
  refine wp_region_noPanic ?_
  go_region_held_law (fun W => Below w3.heap.size w3 W ∧ (convert 22 9 (.slice cd n ccap)).run Tryd.prog W = .ok (.string (Byt.strB t)) W ∧ (convert 22 9 (.slice (some ⟨g, 0, none⟩) n bcap)).run Tryd.prog W = .ok (.string (Byt.strB z)) W) ((apply HS.out; first | assumption | exact (Below.refl _ _).drew))
    (first
      | (go_at_call 18; (with_reducible refine (CG.out _ ?_).mono ?_); (focus (first | assumption | exact (Below.refl _ _).drew)); rintro e w5 ⟨rfl, hB5⟩)
      | (go_at_call 12; (with_reducible refine (C6.out _ ?_).mono ?_); (focus assumption); rintro e w8 ⟨rfl, hB8⟩))
  all_goals
    refine NoPanic.normal ?_
    go_wp2_with fail
    go_ret
    exact ⟨rfl, HB13.out.trans ((by assumption : Below w3.heap.size w3 _).mono HB13.out.size)⟩

set_option maxRecDepth 100000 in
theorem lifted (os : Os) (started : os.Started) (H : Type) (enc : TypeId × Value → H) :
    ReturnsInHanded {} Tryd.checked os 8 .any (fun w args => (Rows.crcBurstsSpec.pre enc Tryd.prog Tryd.f8 [] false w args ∧ laidMetH Tryd.prog Crc.laidL w) ∧ sizedMet enc Tryd.prog Tryd.f8 (OpenSpec.ofChange Rows.crcBurstsSpec) false w args) (Rows.crcBurstsSpec.post enc Tryd.prog Tryd.f8 false true false false) := by
  refine returnsInHanded_of_change_and (C := Tryd.checked) (X := fun w _ => laidMetH Tryd.prog Crc.laidL w) (fun _ _ _ hh h => h.of_heap hh) own started (by kernel_rfl) Tryd.func8
    (ChangeSpec.witness_shaped (enc := enc) (C := Tryd.checked) (os := os) (X := fun w _ => laidMetH Tryd.prog Crc.laidL w) false (World.doorLaid Tryd.prog 33 os) #[.slice none 0 0, .int .u16 0, .int .u32 0] 8 rfl (World.shaped_of_RefB (by kernel_rfl) (by kernel_rfl)) (by kernel_rfl) (by kernel_rfl) (by kernel_rfl) (Crc.door_met os _)) ?_
  intro W base args ds gs before hval0 hW _ _ hL _
  have hval : ∀ (j : Nat) t v, Tryd.f8.params[j]? = some t → args[j]? = some v → Value.okWide Tryd.prog W .any base t v := hval0
  have hW' := hW
  obtain ⟨p, q, hA0, hV, rfl, hfz, hnd⟩ := hW
  have hA : DataW.TrodAll enc Tryd.prog W 0 (fun _ => true) true Tryd.f8.params.toList args.toList ds p := hA0
  rw [Tryd.params8] at hA hval
  obtain ⟨v0, vs0, d0, ds0, p0, q0, hargs, rfl, rfl, h0, r0⟩ := trodAll_cons hA
  obtain ⟨v1, vs1, d1, ds1, p1, q1, rfl, rfl, rfl, h1, r1⟩ := trodAll_cons r0
  obtain ⟨v2, vs2, d2, ds2, p2, q2, rfl, rfl, rfl, h2, r2⟩ := trodAll_cons r1
  obtain ⟨rfl, rfl, rfl⟩ := trodAll_nil r2
  obtain rfl : args = #[v0, v1, v2] := by cases args; simp_all
  obtain ⟨rfl, rfl⟩ := trodVars_none hV
  obtain ⟨a0, len0, cap0, rfl⟩ := okWide_slice Tryd.underlying22 (hval 0 22 v0 rfl rfl)
  have k0 := h0
  have lt0 : ∀ x ∈ p0, x.block < W.heap.size := by obtain ⟨m, hm⟩ := k0; exact DataW.trod_lt m _ _ _ hm
  obtain ⟨z0, w0⟩ : ∃ zs, IsRow .u8 W a0 len0 cap0 zs := by
    obtain ⟨fuel, hf⟩ := h0
    rcases open_ints Tryd.underlying22 Tryd.underlying5 (by kernel_rfl) hf with ⟨hcs, _⟩ | ⟨x, l, c, zs, hcs, _, hl, hm, hz, _, hcell, hwz⟩
    · simp [Value.cells] at hcs
      obtain ⟨rfl, rfl, rfl⟩ := hcs
      exact ⟨[], .inl ⟨rfl, rfl, rfl, rfl⟩⟩
    · simp [Value.cells] at hcs
      obtain ⟨rfl, rfl, rfl⟩ := hcs
      exact ⟨zs, .inr ⟨_, rfl, hl, hm, by simpa using hz, hcell, hwz⟩⟩
  obtain ⟨a1, rfl, rfl, rfl, w1⟩ := open_int Tryd.underlying34 (hval 1 34 v1 rfl rfl) h1
  obtain ⟨a2, rfl, rfl, rfl, w2⟩ := open_int Tryd.underlying24 (hval 2 24 v2 rfl rfl) h2
  clear hA0 hval0
  have hT := Crc.tabs_of_laid hL
  refine (walk a0 len0 cap0 z0 a1 a2 W w0 w1 w2 hT).mono fun e W' ⟨he, bel⟩ => ?_
  subst he
  exact ⟨_, rfl, _, _, _, [], _, [], hW', trodAll_mk1 (shut_bool Tryd.underlying4 _), (trodAll_cons_mk (Below.trod laidOut (by kernel_rfl) (of_decide_eq_true (by kernel_rfl)) k0 bel lt0) (trodAll_cons_mk (shut_int Tryd.underlying34 w1) (trodAll_cons_mk (shut_int Tryd.underlying24 w2) trodAll_mk0))), rfl, bel.frame _, fun h => by cases h⟩

theorem over : Rows.crcBurstsRow.holds Tryd.pinned (OpenSpec.ofChange Rows.crcBurstsSpec) :=
  OpenClaim.holds_of_wide 8 Tryd.f8 rfl rfl rfl rfl rfl rfl rfl ⟨rfl, rfl, rfl, rfl, rfl⟩ rfl rfl rfl rfl rfl (by kernel_rfl) Tryd.func8 (by kernel_rfl)
    (of_decide_eq_true (by kernel_rfl)) (by unfold Func.isWrapper; first | (rw [if_pos (by decide +kernel)]; kernel_rfl) | (rw [if_neg (by decide +kernel)]; exact ⟨rfl, rfl⟩))
    (fun os started H enc _ => lifted os started H enc)

theorem func_is {f : FuncId} (h : Tryd.prog.funcNamed Rows.crcBurstsRow.func = some f) : f = 8 :=
  Option.some.inj (h.symm.trans (show Tryd.prog.funcNamed Rows.crcBurstsRow.func = some 8 by kernel_rfl))
theorem proved : Rows.CrcBurstsCardSaid :=
  Claim7.holds_tied_plain_at .later [] Rows.crcBurstsCard.laidKinds true Rows.crcBurstsCard.stood.harness false
    over (fun _ h => by cases h) (by kernel_rfl) (fun _ h => by cases h) crcBursts_row_tie rfl ⟨rfl, rfl⟩ (by kernel_rfl) rfl
    (fun f fn hf hfn => by
      obtain rfl := func_is hf
      obtain rfl : fn = Tryd.f8 := (Option.some.inj (Tryd.func8.symm.trans hfn)).symm
      exact ⟨by kernel_rfl, fun j t ht => by
        rw [Tryd.params8] at ht
        have hm : t ∈ [22, 34, 24] := by simpa using Array.mem_of_getElem? ht
        have hall : ([22, 34, 24].all fun u => !Tryd.prog.wantsStandIn u) = true := by kernel_rfl
        exact (show Tryd.prog.wantsStandIn t = false by simpa using List.all_eq_true.1 hall t hm)⟩)
    (by kernel_rfl)
#print axioms proved
end Go.Proofs.YtgacljanapmnfaaDoor.lawCrcBursts
