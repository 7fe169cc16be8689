/- What was decoded, of any bytes under their own sum, is good, and has just that frame. -/
import Derived.Test.YtanfnhgaooafeaaDoorRows
import Derived.Test.YtanfnhgaooafeaaDoorTie
import Derived.Test.YtanfnhgaooafeaaDoorCards
import Derived.SevenTiedAt
import Derived.LaidMore
import Derived.Stop.Joined
import Derived.WalkKit
import Derived.ProofKit
import Derived.OpenShut
import Derived.ShutString
import Derived.ChangeOld
import Derived.Below
import Derived.Test.YtanfnhgaooafeaaDoorSeaK
import Derived.Test.YtanfnhgaooafeaaDoorSeaF
import Derived.Test.YtanfnhgaooafeaaDoorHedX
import Derived.Deep.RegionHeldLaw
import Derived.Test.YtanfnhgaooafeaaDoorSeaL
namespace Go.Proofs.YtanfnhgaooafeaaDoor.lawSealOnce
open Go.ChangeShapes Go.WideShapes Go.ChangeAt Go.RowKit
open Go.ChangeMaps (open_string shut_string)
set_option linter.unusedVariables false

theorem own : ownKnob Tryd.prog.godebug = none := by kernel_rfl
theorem laidOut : laidOutB Tryd.prog = true := by kernel_rfl

/-- What the walk is told of a slice of integers that came in. -/
def IsRow (k : IntKind) (w : World) (a : Option Addr) (len cap : Nat) (zs : List Int) : Prop :=
  (a = none ∧ len = 0 ∧ cap = 0 ∧ zs = []) ∨
  ∃ x, a = some x ∧ len ≤ cap ∧ cap ≤ maxLen ∧ zs.length = cap ∧ (∀ i, i < zs.length → w.cell? (x.add i) = some (.int k (zs.getD i 0))) ∧ ∀ n ∈ zs, (Lit.int k n).wf = true

/-! The walk: the Go text returns true and writes nothing that was there. -/
set_option linter.unusedSimpArgs false in
set_option maxRecDepth 100000 in
set_option maxHeartbeats 4000000 in
theorem walk (a0 : Option Addr) (len0 cap0 : Nat) (z0 : List Int) (w : World) (w0 : IsRow .u8 w a0 len0 cap0 z0) (hT : Crc.Tabs w) :
    Calls Tryd.prog 5 #[.slice a0 len0 cap0] w fun e w' => e = .returned (.bool true) ∧ Below w.heap.size w w' := by
  obtain ⟨x0, HX0, HXL0, hlc0, hcm0, HXN0, hxs0⟩ := Byt.rd_of_row w0
  have hl0 := HXL0.out
  obtain ⟨n0, hn0⟩ : ∃ n0, min len0 300 = n0 := ⟨_, rfl⟩
  have hin : (len0 : Int) ≤ (cap0 : Int) ∧ (cap0 : Int) ≤ 9223372036854775807 ∧ n0 ≤ cap0 ∧ n0 ≤ 300 := by omega
  obtain ⟨hin1, hin2, hin3, hin4⟩ := hin
  have hmin : (min (len0 : Int) 300) = (n0 : Int) := by omega
  have hlt : (x0.take 300).length = n0 := by rw [List.length_take, hl0]; omega
  have C0 : Hid (Calls Tryd.prog 11 #[.slice a0 n0 cap0] w (Byt.BytesPost (Crc.sealB (x0.take 300)) w)) := Lib.hid (Crc.rseal_any a0 n0 cap0 (x0.take 300) w hlt (by omega) (HX0.out.take 300) HXN0.out hin3)
  have HGB := Lib.hid (Crc.good_seal (x0.take 300))
  have HY : Hid ((Crc.sealB (x0.take 300)).length = n0 + 4) := Lib.hid (by rw [Crc.seal_len, hlt])
  clear w0 HX0 HXL0 hxs0 hl0 HXN0 hn0 hlt
  generalize Crc.sealB (x0.take 300) = l1 at *
  go_enter Tryd.func5, Tryd.ntmps5
  go_wp2_with fail
  refine (C0.out).mono ?_; rintro e w1 ⟨ad1, cap1, rfl, ho1, hb1⟩
  have HB1 := Lib.hid hb1
  clear hb1 C0
  obtain ⟨p1, p2, p3, -⟩ := ho1.pos
  unfold maxLen at p2
  have C1 := Lib.hid (Sea.decode_any ad1 l1.length cap1 l1 w1 rfl p1 (by omega) ho1.rd.1 p3 (hT.below HB1.out))
  have CW : Hid (∀ W, Below w.heap.size w W → Calls Tryd.prog 10 #[] W fun e w' => e = .returned (.bool true) ∧ Below W.heap.size W w') := Lib.hid (fun W hW => Sea.sworks_any W (hT.below hW))
  have HBK := Lib.hid (Sea.de_back l1)
  have HO1 := Lib.hid ho1
  have HT := Lib.hid hT
  clear ho1 p1 p2 p3 hT
  generalize Sea.deP l1 = D at *
  generalize Sea.deE l1 = en at *
  go_wp2_with fail
  refine (C1.out).mono ?_; rintro e w2 ⟨ad2, cap2, rfl, HB2, HD2, HN2⟩
  go_upto_region 3 with (refine Sea.store_pk rfl _ _ rfl w2.heap.size (Pkt.memP D ad2 cap2) rfl rfl #[.int .i64 0, .int .i64 0, .int .i64 0, .int .u32 0, .int .i64 0, .int .i64 0, .int .i64 0, .int .i64 0, .int .i64 0, .int .i64 0, .int .i64 0, .slice none 0 0] (heap_alloc_last w2 _) rfl ?_)
  obtain ⟨W3, hW3⟩ : ∃ W3, Hid (W3 = (w2.alloc (.cells #[.int .i64 0, .int .i64 0, .int .i64 0, .int .u32 0, .int .i64 0, .int .i64 0, .int .i64 0, .int .i64 0, .int .i64 0, .int .i64 0, .int .i64 0, .slice none 0 0] 27)).setRow w2.heap.size (Hed.Pk.cells (Pkt.memP D ad2 cap2))) := ⟨_, Lib.hid rfl⟩
  rw [← hW3.out]
  have HBW3 : Hid (Below w2.heap.size w2 W3) := Lib.hid (by rw [hW3.out]; exact below_setRow ((Below.refl _ _).alloc (Nat.le_refl _) _) (Nat.le_refl _) _)
  have HQW3 : Hid (Buf.Blk W3 w2.heap.size 27 (Hed.Pk.cells (Pkt.memP D ad2 cap2))) := Lib.hid (by rw [hW3.out]; exact Hed.Blk.row (Buf.Blk.new w2 27 #[.int .i64 0, .int .i64 0, .int .i64 0, .int .u32 0, .int .i64 0, .int .i64 0, .int .i64 0, .int .i64 0, .int .i64 0, .int .i64 0, .int .i64 0, .slice none 0 0]) _ rfl)
  clear hW3
  have HB13 := Lib.hid (HB2.out.trans (HBW3.out.mono HB2.out.size))
  have HB3 := Lib.hid (HB1.out.trans (HB13.out.mono HB1.out.size))
  have HD3 : Hid (Byt.RdB W3 (Pkt.memP D ad2 cap2).ad (Pkt.memP D ad2 cap2).body) := Lib.hid (HD2.out.below HBW3.out)
  clear C1 HB2 HD2 HBW3
  by_cases hen : en = 0
  · subst hen
    obtain ⟨hg, hs⟩ := HBK.out rfl ad2 cap2
    have CE : Hid (Calls Tryd.prog 12 #[Hed.pval (Pkt.memP D ad2 cap2)] W3 fun e w' => ∃ ad cap, e = .returned (.tuple #[.slice ad l1.length cap, .int .i64 0]) ∧ Hid (Byt.OwnB w' W3.heap.size (.slice ad l1.length cap) l1) ∧ Hid (Below W3.heap.size W3 w')) := Lib.hid (by
      have := Sea.encode_ok (Pkt.memP D ad2 cap2) W3 hg HD3.out HN2.out (HT.out.below HB3.out)
      unfold Sea.EncPost at this
      rwa [hs] at this)
    have CG : Hid (∀ W, Below W3.heap.size W3 W → Calls Tryd.prog 13 #[Hed.pval (Pkt.memP D ad2 cap2)] W fun e w' => e = .returned (.bool true) ∧ Below W.heap.size W w') := Lib.hid (fun W hW => by
      have := Sea.sgood_any (Pkt.memP D ad2 cap2) W (HD3.out.below hW)
      rwa [hg] at this)
    clear HBK hg hs HN2
    go_wp2_with (refine Sea.load_pk rfl _ rfl w2.heap.size rfl (Pkt.memP D ad2 cap2) HQW3.out ?_)
    refine (CE.out).mono ?_; rintro e w4 ⟨ad4, cap4, rfl, HO4, HB4⟩
    have HQ4 := Lib.hid (HQW3.out.below HB4.out)
    have CG4 := Lib.hid (CG.out w4 HB4.out)
    have HB14 := Lib.hid (HB13.out.trans (HB4.out.mono HB13.out.size))
    have HBw4 := Lib.hid (HB3.out.trans (HB4.out.mono HB3.out.size))
    obtain ⟨sb, hsb⟩ : ∃ sb, Hid (Byt.strB l1 = sb) := ⟨_, Lib.hid rfl⟩
    have HS : Hid (∀ W, Below w4.heap.size w4 W → (convert 22 9 (.slice ad4 l1.length cap4)).run Tryd.prog W = .ok (.string sb) W ∧ (convert 22 9 (.slice ad1 l1.length cap1)).run Tryd.prog W = .ok (.string sb) W) := Lib.hid (fun W hW => by
      rw [← hsb.out]
      exact ⟨HO4.out.str hW, HO1.out.str (HB14.out.trans (hW.mono HB14.out.size))⟩)
    have hnn : (sb == sb) = true := by rw [beq_toListBytes]; simp
    clear CE CG HO4 HO1 HB4 HB14 HB13 HQW3 hsb
    go_wp2_with (first
      | (refine Sea.load_pk rfl _ rfl w2.heap.size rfl (Pkt.memP D ad2 cap2) HQ4.out ?_)
      | (go_at_call 13; refine (CG4.out).mono ?_; rintro e w5 ⟨rfl, hB5⟩; obtain ⟨v1, v2⟩ := HS.out w5 hB5; have HB5 := Lib.hid (HBw4.out.trans (hB5.mono HBw4.out.size)))
      | (go_at_call 10; refine (CW.out w5 HB5.out).mono ?_; rintro e w6 ⟨rfl, hB6⟩))
    go_ret
    exact ⟨rfl, HB5.out.trans (hB6.mono HB5.out.size)⟩
  · have HN : ((en : Int) == 0) = false := by simp; omega
    clear HBK HN2 HO1 HD3 HQW3 HB13
    go_wp2_with (go_at_call 10; refine (CW.out W3 HB3.out).mono ?_; rintro e w6 ⟨rfl, hB6⟩)
    go_ret
    exact ⟨rfl, HB3.out.trans (hB6.mono HB3.out.size)⟩

set_option maxRecDepth 100000 in
theorem lifted (os : Os) (started : os.Started) (H : Type) (enc : TypeId × Value → H) :
    ReturnsInHanded {} Tryd.checked os 5 .any (fun w args => (Rows.sealOnceSpec.pre enc Tryd.prog Tryd.f5 [] false w args ∧ laidMetH Tryd.prog Crc.laidL w) ∧ sizedMet enc Tryd.prog Tryd.f5 (OpenSpec.ofChange Rows.sealOnceSpec) false w args) (Rows.sealOnceSpec.post enc Tryd.prog Tryd.f5 false true false false) := by
  refine returnsInHanded_of_change_and (C := Tryd.checked) (X := fun w _ => laidMetH Tryd.prog Crc.laidL w) (fun _ _ _ hh h => h.of_heap hh) own started (by kernel_rfl) Tryd.func5
    (ChangeSpec.witness_shaped (enc := enc) (C := Tryd.checked) (os := os) (X := fun w _ => laidMetH Tryd.prog Crc.laidL w) false (World.doorLaid Tryd.prog 33 os) #[.slice none 0 0] 8 rfl (World.shaped_of_RefB (by kernel_rfl) (by kernel_rfl)) (by kernel_rfl) (by kernel_rfl) (by kernel_rfl) (Crc.door_met os _)) ?_
  intro W base args ds gs before hval0 hW _ _ hL _
  have hval : ∀ (j : Nat) t v, Tryd.f5.params[j]? = some t → args[j]? = some v → Value.okWide Tryd.prog W .any base t v := hval0
  have hW' := hW
  obtain ⟨p, q, hA0, hV, rfl, hfz, hnd⟩ := hW
  have hA : DataW.TrodAll enc Tryd.prog W 0 (fun _ => true) true Tryd.f5.params.toList args.toList ds p := hA0
  rw [Tryd.params5] at hA hval
  obtain ⟨v0, vs0, d0, ds0, p0, q0, hargs, rfl, rfl, h0, r0⟩ := trodAll_cons hA
  obtain ⟨rfl, rfl, rfl⟩ := trodAll_nil r0
  obtain rfl : args = #[v0] := by cases args; simp_all
  obtain ⟨rfl, rfl⟩ := trodVars_none hV
  obtain ⟨a0, len0, cap0, rfl⟩ := okWide_slice Tryd.underlying22 (hval 0 22 v0 rfl rfl)
  have k0 := h0
  have lt0 : ∀ x ∈ p0, x.block < W.heap.size := by obtain ⟨m, hm⟩ := k0; exact DataW.trod_lt m _ _ _ hm
  obtain ⟨z0, w0⟩ : ∃ zs, IsRow .u8 W a0 len0 cap0 zs := by
    obtain ⟨fuel, hf⟩ := h0
    rcases open_ints Tryd.underlying22 Tryd.underlying5 (by kernel_rfl) hf with ⟨hcs, _⟩ | ⟨x, l, c, zs, hcs, _, hl, hm, hz, _, hcell, hwz⟩
    · simp [Value.cells] at hcs
      obtain ⟨rfl, rfl, rfl⟩ := hcs
      exact ⟨[], .inl ⟨rfl, rfl, rfl, rfl⟩⟩
    · simp [Value.cells] at hcs
      obtain ⟨rfl, rfl, rfl⟩ := hcs
      exact ⟨zs, .inr ⟨_, rfl, hl, hm, by simpa using hz, hcell, hwz⟩⟩
  clear hA0 hval0
  have hT := Crc.tabs_of_laid hL
  refine (walk a0 len0 cap0 z0 W w0 hT).mono fun e W' ⟨he, bel⟩ => ?_
  subst he
  exact ⟨_, rfl, _, _, _, [], _, [], hW', trodAll_mk1 (shut_bool Tryd.underlying4 _), (trodAll_cons_mk (Below.trod laidOut (by kernel_rfl) (of_decide_eq_true (by kernel_rfl)) k0 bel lt0) trodAll_mk0), rfl, bel.frame _, fun h => by cases h⟩

theorem over : Rows.sealOnceRow.holds Tryd.pinned (OpenSpec.ofChange Rows.sealOnceSpec) :=
  OpenClaim.holds_of_wide 5 Tryd.f5 rfl rfl rfl rfl rfl rfl rfl ⟨rfl, rfl, rfl, rfl, rfl⟩ rfl rfl rfl rfl rfl (by kernel_rfl) Tryd.func5 (by kernel_rfl)
    (of_decide_eq_true (by kernel_rfl)) (by unfold Func.isWrapper; first | (rw [if_pos (by decide +kernel)]; kernel_rfl) | (rw [if_neg (by decide +kernel)]; exact ⟨rfl, rfl⟩))
    (fun os started H enc _ => lifted os started H enc)

theorem func_is {f : FuncId} (h : Tryd.prog.funcNamed Rows.sealOnceRow.func = some f) : f = 5 :=
  Option.some.inj (h.symm.trans (show Tryd.prog.funcNamed Rows.sealOnceRow.func = some 5 by kernel_rfl))
theorem proved : Rows.SealOnceCardSaid :=
  Claim7.holds_tied_plain_at .later [] Rows.sealOnceCard.laidKinds true Rows.sealOnceCard.stood.harness false
    over (fun _ h => by cases h) (by kernel_rfl) (fun _ h => by cases h) sealOnce_row_tie rfl ⟨rfl, rfl⟩ (by kernel_rfl) rfl
    (fun f fn hf hfn => by
      obtain rfl := func_is hf
      obtain rfl : fn = Tryd.f5 := (Option.some.inj (Tryd.func5.symm.trans hfn)).symm
      exact ⟨by kernel_rfl, fun j t ht => by
        rw [Tryd.params5] at ht
        have hm : t ∈ [22] := by simpa using Array.mem_of_getElem? ht
        have hall : ([22].all fun u => !Tryd.prog.wantsStandIn u) = true := by kernel_rfl
        exact (show Tryd.prog.wantsStandIn t = false by simpa using List.all_eq_true.1 hall t hm)⟩)
    (by kernel_rfl)
#print axioms proved
end Go.Proofs.YtanfnhgaooafeaaDoor.lawSealOnce
