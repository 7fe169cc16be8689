/- Any bytes are a frame, or it is told what is wrong first, as the document says. -/
import Derived.Test.YtanfnhgaooafeaaDoorRows
import Derived.Test.YtanfnhgaooafeaaDoorTie
import Derived.Test.YtanfnhgaooafeaaDoorCards
import Derived.SevenTiedAt
import Derived.LaidMore
import Derived.Stop.Joined
import Derived.WalkKit
import Derived.ProofKit
import Derived.OpenShut
import Derived.ShutString
import Derived.ChangeOld
import Derived.Below
import Derived.Test.YtanfnhgaooafeaaDoorSeaK
import Derived.Test.YtanfnhgaooafeaaDoorSeaF
import Derived.Test.YtanfnhgaooafeaaDoorHedX
import Derived.Deep.RegionHeldLaw
namespace Go.Proofs.YtanfnhgaooafeaaDoor.lawSealDecodes
open Go.ChangeShapes Go.WideShapes Go.ChangeAt Go.RowKit
open Go.ChangeMaps (open_string shut_string)
set_option linter.unusedVariables false

theorem own : ownKnob Tryd.prog.godebug = none := by kernel_rfl
theorem laidOut : laidOutB Tryd.prog = true := by kernel_rfl

/-- What the walk is told of a slice of integers that came in. -/
def IsRow (k : IntKind) (w : World) (a : Option Addr) (len cap : Nat) (zs : List Int) : Prop :=
  (a = none ∧ len = 0 ∧ cap = 0 ∧ zs = []) ∨
  ∃ x, a = some x ∧ len ≤ cap ∧ cap ≤ maxLen ∧ zs.length = cap ∧ (∀ i, i < zs.length → w.cell? (x.add i) = some (.int k (zs.getD i 0))) ∧ ∀ n ∈ zs, (Lit.int k n).wf = true

/-! The walk: the Go text returns true and writes nothing that was there. -/
set_option linter.unusedSimpArgs false in
set_option maxRecDepth 100000 in
set_option maxHeartbeats 4000000 in
theorem walk (a0 : Option Addr) (len0 cap0 : Nat) (z0 : List Int) (w : World) (w0 : IsRow .u8 w a0 len0 cap0 z0) (hT : Crc.Tabs w) :
    Calls Tryd.prog 3 #[.slice a0 len0 cap0] w fun e w' => e = .returned (.bool true) ∧ Below w.heap.size w w' := by
  obtain ⟨x0, HX0, HXL0, hlc0, hcm0, HXN0, hxs0⟩ := Byt.rd_of_row w0
  have hl0 := HXL0.out
  have HOz : Hid (Byt.OwnB (w.alloc (.cells #[] 5)) w.heap.size (.slice (some ⟨w.heap.size, 0, none⟩) 0 0) []) := Lib.hid (Buf.own_zero w)
  have hBa : Below w.heap.size w (w.alloc (.cells #[] 5)) := (Below.refl _ _).alloc (Nat.le_refl _) _
  have HBa := Lib.hid hBa
  have HRD := Lib.hid ((HX0.out.below hBa).take 1200)
  have HE : Hid ((min (len0 : Int) 1200).toNat = (x0.take 1200).length) := Lib.hid (by rw [List.length_take, hl0]; omega)
  have HY : Hid ((x0.take 1200).length ≤ 1200) := Lib.hid (by rw [List.length_take]; omega)
  have hin : (len0 : Int) ≤ (cap0 : Int) ∧ (cap0 : Int) ≤ 9223372036854775807 := by omega
  obtain ⟨hin1, hin2⟩ := hin
  clear w0 HX0 HXL0 hxs0 hl0 hBa
  generalize x0.take 1200 = y0 at *
  go_enter Tryd.func3, Tryd.ntmps3
  go_upto_region 2 with (at_builtin; refine Hed.app_step rfl _ _ rfl w.heap.size (some ⟨w.heap.size, 0, none⟩) 0 0 [] rfl HOz.out a0 _ cap0 y0 rfl HE.out HRD.out HXN0.out (by have := HY.out; simp; omega) HBa.out.size ?_; intro l1 ad1 cap1 w1 hl1 ho1 hb1 _)
  have hl1e : l1 = y0 := by rw [hl1.out, List.nil_append]
  subst hl1e
  have HB1 := Lib.hid (HBa.out.trans hb1)
  clear hb1 hl1 HE HRD HOz HBa HXN0
  obtain ⟨p1, p2, p3, -⟩ := ho1.pos
  unfold maxLen at p2
  have C1 := Lib.hid (Sea.decode_any ad1 l1.length cap1 l1 w1 rfl p1 (by omega) ho1.rd.1 p3 (hT.below HB1.out))
  have C2 : Hid (∀ W, Below w1.heap.size w1 W → Calls Tryd.prog 8 #[.slice ad1 l1.length cap1] W (Sea.RDecP (Sea.deP l1) (Sea.deE l1) W)) := Lib.hid (fun W hW => Sea.rdecode_any ad1 l1.length cap1 w1.heap.size l1 W ⟨rfl, ho1.rd.1.below hW, Buf.own_lies ho1, p1, by omega⟩ hW.size)
  have CW : Hid (∀ W, Below w.heap.size w W → Calls Tryd.prog 10 #[] W fun e w' => e = .returned (.bool true) ∧ Below W.heap.size W w') := Lib.hid (fun W hW => Sea.sworks_any W (hT.below hW))
  clear ho1 p1 p2 p3 hT
  generalize Sea.deP l1 = D at *
  generalize Sea.deE l1 = en at *
  go_wp2_with fail
  refine (C1.out).mono ?_; rintro e w2 ⟨ad2, cap2, rfl, HB2, HD2, -⟩
  go_upto_region 3 with (refine Sea.store_pk rfl _ _ rfl w2.heap.size (Pkt.memP D ad2 cap2) rfl rfl #[.int .i64 0, .int .i64 0, .int .i64 0, .int .u32 0, .int .i64 0, .int .i64 0, .int .i64 0, .int .i64 0, .int .i64 0, .int .i64 0, .int .i64 0, .slice none 0 0] (heap_alloc_last w2 _) rfl ?_)
  obtain ⟨W3, hW3⟩ : ∃ W3, Hid (W3 = (w2.alloc (.cells #[.int .i64 0, .int .i64 0, .int .i64 0, .int .u32 0, .int .i64 0, .int .i64 0, .int .i64 0, .int .i64 0, .int .i64 0, .int .i64 0, .int .i64 0, .slice none 0 0] 27)).setRow w2.heap.size (Hed.Pk.cells (Pkt.memP D ad2 cap2))) := ⟨_, Lib.hid rfl⟩
  rw [← hW3.out]
  have HBW3 : Hid (Below w2.heap.size w2 W3) := Lib.hid (by rw [hW3.out]; exact below_setRow ((Below.refl _ _).alloc (Nat.le_refl _) _) (Nat.le_refl _) _)
  have HQW3 : Hid (Buf.Blk W3 w2.heap.size 27 (Hed.Pk.cells (Pkt.memP D ad2 cap2))) := Lib.hid (by rw [hW3.out]; exact Hed.Blk.row (Buf.Blk.new w2 27 #[.int .i64 0, .int .i64 0, .int .i64 0, .int .u32 0, .int .i64 0, .int .i64 0, .int .i64 0, .int .i64 0, .int .i64 0, .int .i64 0, .int .i64 0, .slice none 0 0]) _ rfl)
  clear hW3
  have HB13 := Lib.hid (HB2.out.trans (HBW3.out.mono HB2.out.size))
  have HB3 := Lib.hid (HB1.out.trans (HB13.out.mono HB1.out.size))
  have HD3 := Lib.hid (HD2.out.below HBW3.out)
  have C2W := Lib.hid (C2.out W3 HB13.out)
  clear C1 C2 HB2 HD2 HBW3
  go_wp2_with fail
  refine (C2W.out).mono ?_; rintro e w4 ⟨ad4, cap4, rfl, HB4, HD4⟩
  go_upto_region 4 with (refine Sea.store_pk rfl _ _ rfl w4.heap.size (Pkt.memP D ad4 cap4) rfl rfl #[.int .i64 0, .int .i64 0, .int .i64 0, .int .u32 0, .int .i64 0, .int .i64 0, .int .i64 0, .int .i64 0, .int .i64 0, .int .i64 0, .int .i64 0, .slice none 0 0] (heap_alloc_last w4 _) rfl ?_)
  obtain ⟨W5, hW5⟩ : ∃ W5, Hid (W5 = (w4.alloc (.cells #[.int .i64 0, .int .i64 0, .int .i64 0, .int .u32 0, .int .i64 0, .int .i64 0, .int .i64 0, .int .i64 0, .int .i64 0, .int .i64 0, .int .i64 0, .slice none 0 0] 27)).setRow w4.heap.size (Hed.Pk.cells (Pkt.memP D ad4 cap4))) := ⟨_, Lib.hid rfl⟩
  rw [← hW5.out]
  have HBW5 : Hid (Below w4.heap.size w4 W5) := Lib.hid (by rw [hW5.out]; exact below_setRow ((Below.refl _ _).alloc (Nat.le_refl _) _) (Nat.le_refl _) _)
  have HQW5 : Hid (Buf.Blk W5 w4.heap.size 27 (Hed.Pk.cells (Pkt.memP D ad4 cap4))) := Lib.hid (by rw [hW5.out]; exact Hed.Blk.row (Buf.Blk.new w4 27 #[.int .i64 0, .int .i64 0, .int .i64 0, .int .u32 0, .int .i64 0, .int .i64 0, .int .i64 0, .int .i64 0, .int .i64 0, .int .i64 0, .int .i64 0, .slice none 0 0]) _ rfl)
  clear hW5
  have HB35 := Lib.hid (HB4.out.trans (HBW5.out.mono HB4.out.size))
  have HB5 := Lib.hid (HB3.out.trans (HB35.out.mono HB3.out.size))
  have HQ25 := Lib.hid (HQW3.out.below HB35.out)
  have HD25 : Hid (Byt.RdB W5 (Pkt.memP D ad2 cap2).ad (Pkt.memP D ad2 cap2).body) := Lib.hid (HD3.out.below HB35.out)
  have HD45 : Hid (Byt.RdB W5 (Pkt.memP D ad4 cap4).ad (Pkt.memP D ad4 cap4).body) := Lib.hid (HD4.out.below HBW5.out)
  clear C2W HB4 HD4 HBW5 HQW3 HD3 HB3 HB35
  have CS5 := Lib.hid (Hed.rsame_any (Pkt.memP D ad2 cap2) (Pkt.memP D ad4 cap4) W5 HD25.out HD45.out)
  have hsame : Hed.eqP (Pkt.memP D ad2 cap2) (Pkt.memP D ad4 cap4) = true := (Pkt.eqP_iff _ _).2 ⟨rfl, rfl, rfl, rfl, rfl, rfl, rfl, rfl, rfl, rfl⟩
  rw [hsame] at CS5
  clear hsame
  go_wp2_with (first
    | (refine Sea.load_pk rfl _ rfl w2.heap.size rfl (Pkt.memP D ad2 cap2) HQ25.out ?_)
    | (refine Sea.load_pk rfl _ rfl w4.heap.size rfl (Pkt.memP D ad4 cap4) HQW5.out ?_)
    | (go_at_call 9; refine (CS5.out).mono ?_; rintro e w6 ⟨rfl, hB6⟩; have HB6 := Lib.hid (HB5.out.trans (hB6.mono HB5.out.size)))
    | (go_at_call 10; refine (CW.out w6 HB6.out).mono ?_; rintro e w7 ⟨rfl, hB7⟩))
  go_ret
  exact ⟨rfl, HB6.out.trans (hB7.mono HB6.out.size)⟩

set_option maxRecDepth 100000 in
theorem lifted (os : Os) (started : os.Started) (H : Type) (enc : TypeId × Value → H) :
    ReturnsInHanded {} Tryd.checked os 3 .any (fun w args => (Rows.sealDecodesSpec.pre enc Tryd.prog Tryd.f3 [] false w args ∧ laidMetH Tryd.prog Crc.laidL w) ∧ sizedMet enc Tryd.prog Tryd.f3 (OpenSpec.ofChange Rows.sealDecodesSpec) false w args) (Rows.sealDecodesSpec.post enc Tryd.prog Tryd.f3 false true false false) := by
  refine returnsInHanded_of_change_and (C := Tryd.checked) (X := fun w _ => laidMetH Tryd.prog Crc.laidL w) (fun _ _ _ hh h => h.of_heap hh) own started (by kernel_rfl) Tryd.func3
    (ChangeSpec.witness_shaped (enc := enc) (C := Tryd.checked) (os := os) (X := fun w _ => laidMetH Tryd.prog Crc.laidL w) false (World.doorLaid Tryd.prog 33 os) #[.slice none 0 0] 8 rfl (World.shaped_of_RefB (by kernel_rfl) (by kernel_rfl)) (by kernel_rfl) (by kernel_rfl) (by kernel_rfl) (Crc.door_met os _)) ?_
  intro W base args ds gs before hval0 hW _ _ hL _
  have hval : ∀ (j : Nat) t v, Tryd.f3.params[j]? = some t → args[j]? = some v → Value.okWide Tryd.prog W .any base t v := hval0
  have hW' := hW
  obtain ⟨p, q, hA0, hV, rfl, hfz, hnd⟩ := hW
  have hA : DataW.TrodAll enc Tryd.prog W 0 (fun _ => true) true Tryd.f3.params.toList args.toList ds p := hA0
  rw [Tryd.params3] at hA hval
  obtain ⟨v0, vs0, d0, ds0, p0, q0, hargs, rfl, rfl, h0, r0⟩ := trodAll_cons hA
  obtain ⟨rfl, rfl, rfl⟩ := trodAll_nil r0
  obtain rfl : args = #[v0] := by cases args; simp_all
  obtain ⟨rfl, rfl⟩ := trodVars_none hV
  obtain ⟨a0, len0, cap0, rfl⟩ := okWide_slice Tryd.underlying22 (hval 0 22 v0 rfl rfl)
  have k0 := h0
  have lt0 : ∀ x ∈ p0, x.block < W.heap.size := by obtain ⟨m, hm⟩ := k0; exact DataW.trod_lt m _ _ _ hm
  obtain ⟨z0, w0⟩ : ∃ zs, IsRow .u8 W a0 len0 cap0 zs := by
    obtain ⟨fuel, hf⟩ := h0
    rcases open_ints Tryd.underlying22 Tryd.underlying5 (by kernel_rfl) hf with ⟨hcs, _⟩ | ⟨x, l, c, zs, hcs, _, hl, hm, hz, _, hcell, hwz⟩
    · simp [Value.cells] at hcs
      obtain ⟨rfl, rfl, rfl⟩ := hcs
      exact ⟨[], .inl ⟨rfl, rfl, rfl, rfl⟩⟩
    · simp [Value.cells] at hcs
      obtain ⟨rfl, rfl, rfl⟩ := hcs
      exact ⟨zs, .inr ⟨_, rfl, hl, hm, by simpa using hz, hcell, hwz⟩⟩
  clear hA0 hval0
  have hT := Crc.tabs_of_laid hL
  refine (walk a0 len0 cap0 z0 W w0 hT).mono fun e W' ⟨he, bel⟩ => ?_
  subst he
  exact ⟨_, rfl, _, _, _, [], _, [], hW', trodAll_mk1 (shut_bool Tryd.underlying4 _), (trodAll_cons_mk (Below.trod laidOut (by kernel_rfl) (of_decide_eq_true (by kernel_rfl)) k0 bel lt0) trodAll_mk0), rfl, bel.frame _, fun h => by cases h⟩

theorem over : Rows.sealDecodesRow.holds Tryd.pinned (OpenSpec.ofChange Rows.sealDecodesSpec) :=
  OpenClaim.holds_of_wide 3 Tryd.f3 rfl rfl rfl rfl rfl rfl rfl ⟨rfl, rfl, rfl, rfl, rfl⟩ rfl rfl rfl rfl rfl (by kernel_rfl) Tryd.func3 (by kernel_rfl)
    (of_decide_eq_true (by kernel_rfl)) (by unfold Func.isWrapper; first | (rw [if_pos (by decide +kernel)]; kernel_rfl) | (rw [if_neg (by decide +kernel)]; exact ⟨rfl, rfl⟩))
    (fun os started H enc _ => lifted os started H enc)

theorem func_is {f : FuncId} (h : Tryd.prog.funcNamed Rows.sealDecodesRow.func = some f) : f = 3 :=
  Option.some.inj (h.symm.trans (show Tryd.prog.funcNamed Rows.sealDecodesRow.func = some 3 by kernel_rfl))
theorem proved : Rows.SealDecodesCardSaid :=
  Claim7.holds_tied_plain_at .later [] Rows.sealDecodesCard.laidKinds true Rows.sealDecodesCard.stood.harness false
    over (fun _ h => by cases h) (by kernel_rfl) (fun _ h => by cases h) sealDecodes_row_tie rfl ⟨rfl, rfl⟩ (by kernel_rfl) rfl
    (fun f fn hf hfn => by
      obtain rfl := func_is hf
      obtain rfl : fn = Tryd.f3 := (Option.some.inj (Tryd.func3.symm.trans hfn)).symm
      exact ⟨by kernel_rfl, fun j t ht => by
        rw [Tryd.params3] at ht
        have hm : t ∈ [22] := by simpa using Array.mem_of_getElem? ht
        have hall : ([22].all fun u => !Tryd.prog.wantsStandIn u) = true := by kernel_rfl
        exact (show Tryd.prog.wantsStandIn t = false by simpa using List.all_eq_true.1 hall t hm)⟩)
    (by kernel_rfl)
#print axioms proved
end Go.Proofs.YtanfnhgaooafeaaDoor.lawSealDecodes
