/- The frame of any packet, of which bits are turned that lie within 32, one at least, is refused by its sum. -/
import Derived.Test.YtanfnhgaooafeaaDoorRows
import Derived.Test.YtanfnhgaooafeaaDoorTie
import Derived.Test.YtanfnhgaooafeaaDoorCards
import Derived.SevenTiedAt
import Derived.LaidMore
import Derived.Stop.Joined
import Derived.WalkKit
import Derived.ProofKit
import Derived.OpenShut
import Derived.ShutString
import Derived.ChangeOld
import Derived.Below
import Derived.Test.YtanfnhgaooafeaaDoorSeaK
import Derived.Test.YtanfnhgaooafeaaDoorSeaF
import Derived.Test.YtanfnhgaooafeaaDoorHedX
import Derived.Deep.RegionHeldLaw
import Derived.Test.YtanfnhgaooafeaaDoorSeaL
import Derived.Test.YtanfnhgaooafeaaDoorSeaG
import Derived.Test.YtanfnhgaooafeaaDoorCrcX
import Derived.Test.YtanfnhgaooafeaaDoorPulN
namespace Go.Proofs.YtanfnhgaooafeaaDoor.lawSealBursts
open Go.ChangeShapes Go.WideShapes Go.ChangeAt Go.RowKit
open Go.ChangeMaps (open_string shut_string)
set_option linter.unusedVariables false

theorem own : ownKnob Tryd.prog.godebug = none := by kernel_rfl
theorem laidOut : laidOutB Tryd.prog = true := by kernel_rfl

/-! The walk: the Go text returns true and writes nothing that was there. -/
set_option linter.unusedSimpArgs false in
set_option maxRecDepth 100000 in
set_option maxHeartbeats 4000000 in
theorem walk (a0 : Hed.Pk) (a1 : Int) (a2 : Int) (w : World) (w0 : Pul.Okx w a0) (w1 : (Lit.int .u16 a1).wf = true) (w2 : (Lit.int .u32 a2).wf = true) (hT : Crc.Tabs w) :
    Calls Tryd.prog 6 #[Hed.pval a0, .int .u16 a1, .int .u32 a2] w fun e w' => e = .returned (.bool true) ∧ Below w.heap.size w w' := by
  obtain ⟨l1, u1⟩ := bounds_u16 w1
  obtain ⟨p, rfl⟩ := Int.eq_ofNat_of_zero_le l1
  have hp : p < 65536 := by omega
  obtain ⟨l2, u2⟩ := bounds_u32 w2
  obtain ⟨m, rfl⟩ := Int.eq_ofNat_of_zero_le l2
  have hm : m < 4294967296 := by omega
  clear w1 w2 l1 l2 u1 u2
  have CW : Hid (∀ W, Below w.heap.size w W → Calls Tryd.prog 10 #[] W fun e w' => e = .returned (.bool true) ∧ Below W.heap.size W w') := Lib.hid (fun W hW => Sea.sworks_any W (hT.below hW))
  have HT := Lib.hid hT
  clear hT
  have hk := w0.ok.key
  have hs := w0.stamp
  have hv := w0.value
  obtain ⟨wb, hwb⟩ : ∃ wb, Hid (wb = w.alloc (.cells (Hed.Pk.cells a0) 27)) := ⟨_, Lib.hid rfl⟩
  have HX := Lib.hid (Hed.one_box w wb _ _ hwb.out)
  have CCut : Hid (Calls Tryd.prog 14 #[Hed.pval a0] wb fun e w' => ∃ q, e = .returned (Hed.pval q) ∧ Hid (Byt.RdB w' q.ad q.body) ∧ Hid (q.ad = none → q.cap = 0) ∧ Hid (Below wb.heap.size wb w') ∧ Hid (q.key = a0.key ∧ q.stamp = a0.stamp ∧ q.value = a0.value)) := Lib.hid ((Sea.scut_any a0 wb (w0.ok.rd.below HX.out.1) w0.ok.nil w0.ok.le w0.ok.max).mono fun e w' h => by
    obtain ⟨ad', cap', rfl, h1, h2⟩ := h
    exact ⟨Dat.bodP a0 ad' cap' (a0.body.take 1030), rfl, Lib.hid h1.rd.1, Lib.hid h1.pos.2.2.1, Lib.hid h2, Lib.hid ⟨rfl, rfl, rfl⟩⟩)
  have HKSV := Lib.hid (And.intro hk (And.intro hs hv))
  clear w0 hk hs hv
  unfold Hed.pval
  go_enter Tryd.func6, Tryd.ntmps6
  go_upto_region 1 with fail
  rw [← hwb.out]
  go_wp2_with (refine Sea.load_pk rfl _ rfl w.heap.size rfl a0 HX.out.2 ?_)
  refine (CCut.out).mono ?_; rintro e w2 ⟨q, rfl, HD2, HN2, HB2, HF2⟩
  have HX2 := Lib.hid (HX.out.2.below HB2.out)
  go_upto_region 2 with (refine Sea.store_pk rfl _ _ rfl w.heap.size q rfl rfl _ HX2.out rfl ?_)
  have HB3 : Hid (Below w.heap.size w (w2.setRow w.heap.size (Hed.Pk.cells q))) := Lib.hid (below_setRow (HX.out.1.trans (HB2.out.mono HX.out.1.size)) (Nat.le_refl _) _)
  have HQ3 : Hid (Buf.Blk (w2.setRow w.heap.size (Hed.Pk.cells q)) w.heap.size 27 (Hed.Pk.cells q)) := Lib.hid (Hed.Blk.row HX2.out _ rfl)
  have HD3 : Hid (Byt.RdB (w2.setRow w.heap.size (Hed.Pk.cells q)) q.ad q.body) := Lib.hid (Sea.rd_setRow HD2.out HX2.out)
  obtain ⟨hf1, hf2, hf3⟩ := HF2.out
  have hksv := HKSV.out
  rw [← hf1, ← hf2, ← hf3] at hksv
  obtain ⟨hk, hs, hv⟩ := hksv
  generalize w2.setRow w.heap.size (Hed.Pk.cells q) = W3 at *
  clear CCut HX HX2 HB2 HD2 HF2 HKSV hf1 hf2 hf3
  obtain ⟨gb, hgb⟩ : ∃ gb, Sea.seaG q = gb := ⟨_, rfl⟩
  cases gb with
  | false =>
    have CE := Lib.hid (Sea.encode_no q W3 HD3.out hgb)
    have CR : Hid (∀ W, Below W3.heap.size W3 W → Calls Tryd.prog 15 #[Hed.pval q] W fun e w' => e = .returned (.bool false) ∧ Below W.heap.size W w') := Lib.hid (fun W hW => by
      have := Sea.rsgood_any q W (HD3.out.below hW)
      rwa [hgb] at this)
    unfold Sea.NoPost at CE
    clear hgb HD3 HN2 hk hs hv
    go_wp2_with (refine Sea.load_pk rfl _ rfl w.heap.size rfl q HQ3.out ?_)
    refine (CE.out).mono ?_; rintro e w4 ⟨rfl, hB4⟩
    have HQ4 := Lib.hid (HQ3.out.below hB4)
    have CR4 := Lib.hid (CR.out w4 hB4)
    have HB4 := Lib.hid (HB3.out.trans (hB4.mono HB3.out.size))
    clear CE CR hB4 HQ3
    go_wp2_with (first
      | (refine Sea.load_pk rfl _ rfl w.heap.size rfl q HQ4.out ?_)
      | (go_at_call 15; refine (CR4.out).mono ?_; rintro e w5 ⟨rfl, hB5⟩; have HB5 := Lib.hid (HB4.out.trans (hB5.mono HB4.out.size)))
      | (go_at_call 10; refine (CW.out w5 HB5.out).mono ?_; rintro e w6 ⟨rfl, hB6⟩))
    go_ret
    exact ⟨rfl, HB5.out.trans (hB6.mono HB5.out.size)⟩
  | true =>
    obtain ⟨hl1, hl2⟩ := Sea.inB_len hgb
    obtain ⟨hd1, -⟩ := Sea.de_got q hgb hk hs hv
    have CE : Hid (Calls Tryd.prog 12 #[Hed.pval q] W3 (Sea.EncPost q W3)) := Lib.hid (Sea.encode_ok q W3 hgb HD3.out (fun _ => HN2.out) (HT.out.below HB3.out))
    have HG := Lib.hid (Crc.good_seal (Sea.inB q))
    obtain ⟨n, hN⟩ : ∃ n, Hid ((Crc.sealB (Sea.inB q)).length = n) := ⟨_, Lib.hid rfl⟩
    have hn5 : 5 ≤ n ∧ n ≤ 1100 := by
      have := Crc.seal_len (Sea.inB q)
      rw [hN.out] at this
      omega
    obtain ⟨hn5, hn11⟩ := hn5
    have HDE := Lib.hid hd1
    unfold Sea.EncPost at CE
    clear hgb HD3 HN2 hk hs hv hl1 hl2 hd1
    generalize Crc.sealB (Sea.inB q) = z at *
    rw [hN.out] at CE
    go_wp2_with (refine Sea.load_pk rfl _ rfl w.heap.size rfl q HQ3.out ?_)
    refine (CE.out).mono ?_; rintro e w4 ⟨ad4, cap4, rfl, HO4, HB34⟩
    have HB4 := Lib.hid (HB3.out.trans (HB34.out.mono HB3.out.size))
    have ho4 := HO4.out
    rw [← hN.out] at ho4
    obtain ⟨q1, q2, -, q4⟩ := ho4.pos
    rw [hN.out] at q1
    unfold maxLen at q2
    obtain ⟨g, rfl, _, _⟩ := q4 (by omega)
    have hq := Nat.mod_lt p (show 0 < 8 * n by omega)
    have C2 := Lib.hid (Crc.turn_any g 0 n cap4 z (p % (8 * n)) m w4 hN.out (by omega) (by omega) (by omega) hm q1 ho4.rd.1)
    have e1 : ((p % (8 * n) : Nat) : Int) = (p : Int) % (8 * (n : Int)) := by simp
    rw [e1] at C2
    have HBT := Lib.hid (Crc.burst_turned z (p % (8 * n)) m HG.out)
    have HTL := Lib.hid ((Crc.turnB_len z (p % (8 * n)) m 32).trans hN.out)
    generalize Crc.turnB z (p % (8 * n)) m 32 = t at *
    have HOz := Lib.hid ho4
    have h8 : (1 : Int) ≤ 8 * (n : Int) := by omega
    have h85 : ¬ ((n : Int) < 5) := by omega
    clear ho4 q4 e1 hq HO4 CE HQ3 HB3 HB34
    go_wp2_with fail
    refine (C2.out).mono ?_; rintro e w5 ⟨cd, ccap, rfl, ho5, hB5⟩
    have HB45 := Lib.hid hB5
    have HB5 := Lib.hid (HB4.out.trans (hB5.mono HB4.out.size))
    obtain ⟨r1, r2, r3, -⟩ := ho5.pos
    rw [HTL.out] at r1
    unfold maxLen at r2
    have C3 := Lib.hid (Sea.decode_any cd n ccap t w5 HTL.out r1 (by omega) ho5.rd.1 r3 (HT.out.below HB5.out))
    have HO5 := Lib.hid ho5
    rw [HTL.out]
    clear ho5 hB5 r1 r2 r3 C2
    go_wp2_with fail
    refine (C3.out).mono ?_; rintro e w6 ⟨ad6, cap6, rfl, HB6, HD6, -⟩
    obtain ⟨D, hD⟩ : ∃ D, Hid (Sea.deP t = D) := ⟨_, Lib.hid rfl⟩
    rw [hD.out] at HD6 ⊢
    obtain ⟨en, hen⟩ : ∃ en, Hid (Sea.deE t = en) := ⟨_, Lib.hid rfl⟩
    rw [hen.out]
    go_upto_region 9 with (refine Sea.store_pk rfl _ _ rfl w6.heap.size (Pkt.memP D ad6 cap6) rfl rfl #[.int .i64 0, .int .i64 0, .int .i64 0, .int .u32 0, .int .i64 0, .int .i64 0, .int .i64 0, .int .i64 0, .int .i64 0, .int .i64 0, .int .i64 0, .slice none 0 0] (heap_alloc_last w6 _) rfl ?_)
    obtain ⟨W7, hW7⟩ : ∃ W7, Hid (W7 = (w6.alloc (.cells #[.int .i64 0, .int .i64 0, .int .i64 0, .int .u32 0, .int .i64 0, .int .i64 0, .int .i64 0, .int .i64 0, .int .i64 0, .int .i64 0, .int .i64 0, .slice none 0 0] 27)).setRow w6.heap.size (Hed.Pk.cells (Pkt.memP D ad6 cap6))) := ⟨_, Lib.hid rfl⟩
    rw [← hW7.out]
    have HBW7 : Hid (Below w6.heap.size w6 W7) := Lib.hid (by rw [hW7.out]; exact below_setRow ((Below.refl _ _).alloc (Nat.le_refl _) _) (Nat.le_refl _) _)
    have HQW7 : Hid (Buf.Blk W7 w6.heap.size 27 (Hed.Pk.cells (Pkt.memP D ad6 cap6))) := Lib.hid (by rw [hW7.out]; exact Hed.Blk.row (Buf.Blk.new w6 27 #[.int .i64 0, .int .i64 0, .int .i64 0, .int .u32 0, .int .i64 0, .int .i64 0, .int .i64 0, .int .i64 0, .int .i64 0, .int .i64 0, .int .i64 0, .slice none 0 0]) _ rfl)
    clear hW7
    have HB57 := Lib.hid (HB6.out.trans (HBW7.out.mono HB6.out.size))
    have HB7 := Lib.hid (HB5.out.trans (HB57.out.mono HB5.out.size))
    have HD7 : Hid (Byt.RdB W7 (Pkt.memP D ad6 cap6).ad (Pkt.memP D ad6 cap6).body) := Lib.hid (HD6.out.below HBW7.out)
    have v1 : (convert 22 9 (.slice (some ⟨g, 0, none⟩) n cap4)).run Tryd.prog W7 = .ok (.string (Byt.strB z)) W7 := by
      have := HOz.out.str (HB45.out.trans (HB57.out.mono HB45.out.size))
      rwa [hN.out] at this
    have v2 : (convert 22 9 (.slice cd n ccap)).run Tryd.prog W7 = .ok (.string (Byt.strB t)) W7 := by
      have := HO5.out.str HB57.out
      rwa [HTL.out] at this
    clear C3 HB6 HD6 HBW7 HB57 HB45 HO5 HOz
    by_cases ht : t = z
    · subst ht
      have e0 : en = 0 := by rw [← hen.out]; exact HDE.out
      subst e0
      have hnn : (Byt.strB t == Byt.strB t) = true := by rw [beq_toListBytes]; simp
      generalize Byt.strB t = st at *
      go_wp2_with (go_at_call 10; refine (CW.out W7 HB7.out).mono ?_; rintro e w8 ⟨rfl, hB8⟩)
      go_ret
      exact ⟨rfl, HB7.out.trans (hB8.mono HB7.out.size)⟩
    · have hbad : Crc.goodB t = false := by rw [HBT.out]; exact decide_eq_false ht
      obtain ⟨d1, d2⟩ := Sea.de_bent t (by rw [HTL.out]; exact hn5) (by rw [HTL.out]; exact hn11) hbad
      have e6 : ((en : Nat) : Int) = 6 := by rw [← hen.out, d1]; rfl
      have eD : D = Hed.zero := by rw [← hD.out]; exact d2
      subst eD
      rw [e6]
      have hnn : (Byt.strB z == Byt.strB t) = false := by rw [Pkt.str_eq]; exact decide_eq_false (fun h => ht h.symm)
      have hnn2 : ((Byt.strB z).toList == (Byt.strB t).toList) = false := by rw [Crc.str_eq]; exact decide_eq_false (fun h => ht (Byt.strB_inj.1 h).symm)
      generalize Byt.strB t = st at *
      generalize Byt.strB z = sz at *
      have CS7 := Lib.hid (Hed.rsame_any (Pkt.memP Hed.zero ad6 cap6) Hed.zero W7 HD7.out (.inl rfl))
      have hsame : Hed.eqP (Pkt.memP Hed.zero ad6 cap6) Hed.zero = true := (Pkt.eqP_iff _ _).2 ⟨rfl, rfl, rfl, rfl, rfl, rfl, rfl, rfl, rfl, rfl⟩
      rw [hsame] at CS7
      clear hsame
      go_wp2_with (first
        | (refine Sea.load_pk rfl _ rfl w6.heap.size rfl (Pkt.memP Hed.zero ad6 cap6) HQW7.out ?_)
        | (go_at_call 9; refine (CS7.out).mono ?_; rintro e w8 ⟨rfl, hB8⟩; have HB8 := Lib.hid (HB7.out.trans (hB8.mono HB7.out.size)))
        | (go_at_call 10; refine (CW.out w8 HB8.out).mono ?_; rintro e w9 ⟨rfl, hB9⟩))
      go_ret
      exact ⟨rfl, HB8.out.trans (hB9.mono HB8.out.size)⟩

set_option maxRecDepth 100000 in
theorem lifted (os : Os) (started : os.Started) (H : Type) (enc : TypeId × Value → H) :
    ReturnsInHanded {} Tryd.checked os 6 .any (fun w args => (Rows.sealBurstsSpec.pre enc Tryd.prog Tryd.f6 [] false w args ∧ laidMetH Tryd.prog Crc.laidL w) ∧ sizedMet enc Tryd.prog Tryd.f6 (OpenSpec.ofChange Rows.sealBurstsSpec) false w args) (Rows.sealBurstsSpec.post enc Tryd.prog Tryd.f6 false true false false) := by
  refine returnsInHanded_of_change_and (C := Tryd.checked) (X := fun w _ => laidMetH Tryd.prog Crc.laidL w) (fun _ _ _ hh h => h.of_heap hh) own started (by kernel_rfl) Tryd.func6
    (ChangeSpec.witness_shaped (enc := enc) (C := Tryd.checked) (os := os) (X := fun w _ => laidMetH Tryd.prog Crc.laidL w) false (World.doorLaid Tryd.prog 33 os) #[.agg #[.int .i64 0, .int .i64 0, .int .i64 0, .int .u32 0, .int .i64 0, .int .i64 0, .int .i64 0, .int .i64 0, .int .i64 0, .int .i64 0, .int .i64 0, .slice none 0 0], .int .u16 0, .int .u32 0] 8 rfl (World.shaped_of_RefB (by kernel_rfl) (by kernel_rfl)) (by kernel_rfl) (by kernel_rfl) (by kernel_rfl) (Crc.door_met os _)) ?_
  intro W base args ds gs before hval0 hW _ _ hL _
  have hval : ∀ (j : Nat) t v, Tryd.f6.params[j]? = some t → args[j]? = some v → Value.okWide Tryd.prog W .any base t v := hval0
  have hW' := hW
  obtain ⟨p, q, hA0, hV, rfl, hfz, hnd⟩ := hW
  have hA : DataW.TrodAll enc Tryd.prog W 0 (fun _ => true) true Tryd.f6.params.toList args.toList ds p := hA0
  rw [Tryd.params6] at hA hval
  obtain ⟨v0, vs0, d0, ds0, p0, q0, hargs, rfl, rfl, h0, r0⟩ := trodAll_cons hA
  obtain ⟨v1, vs1, d1, ds1, p1, q1, rfl, rfl, rfl, h1, r1⟩ := trodAll_cons r0
  obtain ⟨v2, vs2, d2, ds2, p2, q2, rfl, rfl, rfl, h2, r2⟩ := trodAll_cons r1
  obtain ⟨rfl, rfl, rfl⟩ := trodAll_nil r2
  obtain rfl : args = #[v0, v1, v2] := by cases args; simp_all
  obtain ⟨rfl, rfl⟩ := trodVars_none hV
  have k0 := h0
  have lt0 : ∀ x ∈ p0, x.block < W.heap.size := by obtain ⟨m, hm⟩ := k0; exact DataW.trod_lt m _ _ _ hm
  obtain ⟨a0, rfl, w0⟩ := Pul.open_pkx (hval 0 27 v0 rfl rfl) h0
  obtain ⟨a1, rfl, rfl, rfl, w1⟩ := open_int Tryd.underlying40 (hval 1 40 v1 rfl rfl) h1
  obtain ⟨a2, rfl, rfl, rfl, w2⟩ := open_int Tryd.underlying23 (hval 2 23 v2 rfl rfl) h2
  clear hA0 hval0
  have hT := Crc.tabs_of_laid hL
  refine (walk a0 a1 a2 W w0 w1 w2 hT).mono fun e W' ⟨he, bel⟩ => ?_
  subst he
  exact ⟨_, rfl, _, _, _, [], _, [], hW', trodAll_mk1 (shut_bool Tryd.underlying4 _), (trodAll_cons_mk (Below.trod laidOut (by kernel_rfl) (of_decide_eq_true (by kernel_rfl)) k0 bel lt0) (trodAll_cons_mk (shut_int Tryd.underlying40 w1) (trodAll_cons_mk (shut_int Tryd.underlying23 w2) trodAll_mk0))), rfl, bel.frame _, fun h => by cases h⟩

theorem over : Rows.sealBurstsRow.holds Tryd.pinned (OpenSpec.ofChange Rows.sealBurstsSpec) :=
  OpenClaim.holds_of_wide 6 Tryd.f6 rfl rfl rfl rfl rfl rfl rfl ⟨rfl, rfl, rfl, rfl, rfl⟩ rfl rfl rfl rfl rfl (by kernel_rfl) Tryd.func6 (by kernel_rfl)
    (of_decide_eq_true (by kernel_rfl)) (by unfold Func.isWrapper; first | (rw [if_pos (by decide +kernel)]; kernel_rfl) | (rw [if_neg (by decide +kernel)]; exact ⟨rfl, rfl⟩))
    (fun os started H enc _ => lifted os started H enc)

theorem func_is {f : FuncId} (h : Tryd.prog.funcNamed Rows.sealBurstsRow.func = some f) : f = 6 :=
  Option.some.inj (h.symm.trans (show Tryd.prog.funcNamed Rows.sealBurstsRow.func = some 6 by kernel_rfl))
theorem proved : Rows.SealBurstsCardSaid :=
  Claim7.holds_tied_plain_at .later [] Rows.sealBurstsCard.laidKinds true Rows.sealBurstsCard.stood.harness false
    over (fun _ h => by cases h) (by kernel_rfl) (fun _ h => by cases h) sealBursts_row_tie rfl ⟨rfl, rfl⟩ (by kernel_rfl) rfl
    (fun f fn hf hfn => by
      obtain rfl := func_is hf
      obtain rfl : fn = Tryd.f6 := (Option.some.inj (Tryd.func6.symm.trans hfn)).symm
      exact ⟨by kernel_rfl, fun j t ht => by
        rw [Tryd.params6] at ht
        have hm : t ∈ [27, 40, 23] := by simpa using Array.mem_of_getElem? ht
        have hall : ([27, 40, 23].all fun u => !Tryd.prog.wantsStandIn u) = true := by kernel_rfl
        exact (show Tryd.prog.wantsStandIn t = false by simpa using List.all_eq_true.1 hall t hm)⟩)
    (by kernel_rfl)
#print axioms proved
end Go.Proofs.YtanfnhgaooafeaaDoor.lawSealBursts
