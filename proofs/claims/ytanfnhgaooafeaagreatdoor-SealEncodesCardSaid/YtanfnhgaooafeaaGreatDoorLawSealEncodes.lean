/- Any packet has the frame that the document says, or none; and it is decoded from it. -/
import Derived.Test.YtanfnhgaooafeaaGreatDoorRows
import Derived.Test.YtanfnhgaooafeaaGreatDoorTie
import Derived.Test.YtanfnhgaooafeaaGreatDoorCards
import Derived.SevenTiedAt
import Derived.LaidMore
import Derived.Stop.Joined
import Derived.WalkKit
import Derived.ProofKit
import Derived.OpenShut
import Derived.ShutString
import Derived.ChangeOld
import Derived.Below
import Derived.Test.YtanfnhgaooafeaaGreatDoorSeaK
import Derived.Test.YtanfnhgaooafeaaGreatDoorSeaH
import Derived.Test.YtanfnhgaooafeaaGreatDoorSeaL
import Derived.Test.YtanfnhgaooafeaaGreatDoorSeaG
import Derived.Test.YtanfnhgaooafeaaGreatDoorHedX
import Derived.Test.YtanfnhgaooafeaaGreatDoorCrcX
import Derived.Test.YtanfnhgaooafeaaGreatDoorPulN
import Derived.Test.YtanfnhgaooafeaaGreatDoorSeaD
import Derived.Deep.RegionHeldLaw
import Derived.Deep.MidRow
namespace Go.Proofs.YtanfnhgaooafeaaGreatDoor.lawSealEncodes
open Go.ChangeShapes Go.WideShapes Go.ChangeAt Go.RowKit
open Go.ChangeMaps (open_string shut_string)
set_option linter.unusedVariables false

theorem own : ownKnob Tryz.prog.godebug = none := by kernel_rfl
theorem laidOut : laidOutB Tryz.prog = true := by kernel_rfl

/-! The walk: the Go text returns true and writes nothing that was there. -/
set_option linter.unusedSimpArgs false in
set_option maxRecDepth 100000 in
set_option maxHeartbeats 4000000 in
theorem walk (a0 : Hed.Pk) (w : World) (w0 : Pul.Okx w a0) (hT : Crc.Tabs w) :
    Calls Tryz.prog 3 #[Hed.pval a0] w fun e w' => e = .returned (.bool true) ∧ Below w.heap.size w w' := by
  have CW : Hid (∀ W, Below w.heap.size w W → Calls Tryz.prog 9 #[] W fun e w' => e = .returned (.bool true) ∧ Below W.heap.size W w') := Lib.hid (fun W hW => Sea.sworks_any W (hT.below hW))
  have HT := Lib.hid hT
  clear hT
  have hk := w0.ok.key
  have hs := w0.stamp
  have hv := w0.value
  obtain ⟨wb, hwb⟩ : ∃ wb, Hid (wb = w.alloc (.cells (Hed.Pk.cells a0) 27)) := ⟨_, Lib.hid rfl⟩
  have HX := Lib.hid (Hed.one_box w wb _ _ hwb.out)
  have CCut : Hid (Calls Tryz.prog 4 #[Hed.pval a0] wb fun e w' => ∃ q, e = .returned (Hed.pval q) ∧ Hid (Byt.RdB w' q.ad q.body) ∧ Hid (q.ad = none → q.cap = 0) ∧ Hid (Below wb.heap.size wb w') ∧ Hid (q.key = a0.key ∧ q.stamp = a0.stamp ∧ q.value = a0.value)) := Lib.hid ((Sea.scut_any a0 wb (w0.ok.rd.below HX.out.1) w0.ok.nil w0.ok.le w0.ok.max).mono fun e w' h => by
    obtain ⟨ad', cap', rfl, h1, h2⟩ := h
    exact ⟨Dat.bodP a0 ad' cap' (a0.body.take 1030), rfl, Lib.hid h1.rd.1, Lib.hid h1.pos.2.2.1, Lib.hid h2, Lib.hid ⟨rfl, rfl, rfl⟩⟩)
  have HKSV := Lib.hid (And.intro hk (And.intro hs hv))
  clear w0 hk hs hv
  unfold Hed.pval
  go_enter Tryz.func3, Tryz.ntmps3
  go_upto_region 1 with fail
  rw [← hwb.out]
  go_wp2_with (refine Sea.load_pk rfl _ rfl w.heap.size rfl a0 HX.out.2 ?_)
  refine (CCut.out).mono ?_; rintro e w2 ⟨q, rfl, HD2, HN2, HB2, HF2⟩
  have HX2 := Lib.hid (HX.out.2.below HB2.out)
  go_upto_region 2 with (refine Sea.store_pk rfl _ _ rfl w.heap.size q rfl rfl _ HX2.out rfl ?_)
  have HB3 : Hid (Below w.heap.size w (w2.setRow w.heap.size (Hed.Pk.cells q))) := Lib.hid (below_setRow (HX.out.1.trans (HB2.out.mono HX.out.1.size)) (Nat.le_refl _) _)
  have HQ3 : Hid (Buf.Blk (w2.setRow w.heap.size (Hed.Pk.cells q)) w.heap.size 27 (Hed.Pk.cells q)) := Lib.hid (Hed.Blk.row HX2.out _ rfl)
  have HD3 : Hid (Byt.RdB (w2.setRow w.heap.size (Hed.Pk.cells q)) q.ad q.body) := Lib.hid (Sea.rd_setRow HD2.out HX2.out)
  obtain ⟨hf1, hf2, hf3⟩ := HF2.out
  have hksv := HKSV.out
  rw [← hf1, ← hf2, ← hf3] at hksv
  obtain ⟨hk, hs, hv⟩ := hksv
  generalize w2.setRow w.heap.size (Hed.Pk.cells q) = W3 at *
  clear CCut HX HX2 HB2 HD2 HF2 HKSV hf1 hf2 hf3
  obtain ⟨gb, hgb⟩ : ∃ gb, Sea.seaG q = gb := ⟨_, rfl⟩
  have CG : Hid (∀ W, Below W3.heap.size W3 W → Calls Tryz.prog 6 #[Hed.pval q] W fun e w' => e = .returned (.bool gb) ∧ Below W.heap.size W w') := Lib.hid (fun W hW => by
    have := Sea.sgood_any q W (HD3.out.below hW)
    rwa [hgb] at this)
  have CR : Hid (∀ W, Below W3.heap.size W3 W → Calls Tryz.prog 7 #[Hed.pval q] W fun e w' => e = .returned (.bool gb) ∧ Below W.heap.size W w') := Lib.hid (fun W hW => by
    have := Sea.rsgood_any q W (HD3.out.below hW)
    rwa [hgb] at this)
  have CZ : Hid (∀ W, Below W3.heap.size W3 W → Calls Tryz.prog 8 #[Hed.pval q] W fun e w' => e = .returned (.int .i64 ((Sea.sizeN q : Nat) : Int)) ∧ Below W.heap.size W w') := Lib.hid (fun W hW => Sea.size_any q W (HD3.out.below hW) (fun _ => HN2.out) (HT.out.below (HB3.out.trans (hW.mono HB3.out.size))))
  cases gb with
  | false =>
    have CE := Lib.hid (Sea.encode_no q W3 HD3.out hgb)
    unfold Sea.NoPost at CE
    have hz : Sea.sizeN q = 0 := by unfold Sea.sizeN; rw [hgb]; rfl
    rw [hz] at CZ
    clear hgb HD3 HN2 hk hs hv hz
    go_wp2_with (refine Sea.load_pk rfl _ rfl w.heap.size rfl q HQ3.out ?_)
    refine (CE.out).mono ?_; rintro e w4 ⟨rfl, hB4⟩
    have HB34 := Lib.hid hB4
    clear hB4
    go_upto_region 3 with fail
    have HQ4 := Lib.hid (HQ3.out.below HB34.out)
    have HBd : Hid (Below w4.heap.size w4 w4.drew) := Lib.hid (Below.refl _ _).drew
    have CG4 := Lib.hid (CG.out w4.drew (HB34.out.trans (HBd.out.mono HB34.out.size)))
    have HK4 : Hid (∀ W, Below w4.drew.heap.size w4.drew W → Buf.Blk W w.heap.size 27 (Hed.Pk.cells q)) := Lib.hid (fun W hW => (HQ4.out.drewN 1).below hW)
    have CR4 : Hid (∀ W, Below w4.drew.heap.size w4.drew W → _) := Lib.hid (fun W hW => CR.out W (HB34.out.trans ((HBd.out.trans (hW.mono HBd.out.size)).mono HB34.out.size)))
    refine wp_region_held_drew (S := (fun W => Buf.Blk W w.heap.size 27 (Hed.Pk.cells q))) (by kernel_rfl) ?_ (fun hHeld => ?_)
    · exact HQ4.out.drewN 1
    refine wpAnyH_take (i := 0) (v := Hed.pval q) rfl (by kernel_rfl) (by kernel_rfl) (by kernel_rfl) (fun _ _ _ h => h) (Sea.yields_pk rfl _ rfl w.heap.size rfl q (fun _ h => h)) (by assumption) ?_
    try simp only [Act.put, List.getElem_toArray, List.getElem_cons_succ, List.getElem_cons_zero, List.setIfInBounds_toArray, List.set_cons_zero, List.set_cons_succ]
    refine wpAnyH_take (i := 2) (v := Hed.pval q) rfl (by kernel_rfl) (by kernel_rfl) (by kernel_rfl) (fun _ _ _ h => h) (Sea.yields_pk rfl _ rfl w.heap.size rfl q (fun _ h => h)) (by assumption) ?_
    try simp only [Act.put, List.getElem_toArray, List.getElem_cons_succ, List.getElem_cons_zero, List.setIfInBounds_toArray, List.set_cons_zero, List.set_cons_succ]
    refine wpAnyH_ready (rs := [1]) (by kernel_rfl) (by simp) ?_
    refine AllReadyH.cons rfl (fun K hK => ?_) ?_
    · go_simp
      go_wp2_with (go_at_call 6; refine (CG4.out).mono ?_; rintro e w5 ⟨rfl, hB5⟩)
      have CR5 := Lib.hid (CR4.out w5 hB5)
      refine hK.out _ _ ?_ (fun hHeld => ?_)
      · exact HK4.out w5 hB5
      clear hK K
      refine wpAnyH_ready (rs := [3]) (by kernel_rfl) (by simp) ?_
      refine AllReadyH.cons rfl (fun K hK => ?_) ?_
      · go_simp
        go_wp2_with (go_at_call 7; refine (CR5.out).mono ?_; rintro e w6 ⟨rfl, hB6⟩)
        have hB46 := hB5.trans (hB6.mono hB5.size)
        refine hK.out _ _ ?_ (fun hHeld => ?_)
        · exact HK4.out w6 hB46
        clear hK K
        refine wpAnyH_take (i := 4) (v := ?_) rfl (by kernel_rfl) (by kernel_rfl) (by kernel_rfl) (fun _ _ _ h => h) (Or.inl ⟨by kernel_rfl, ?_⟩) (by assumption) ?_
        rotate_left 1
        focus (intro w hSw; clear hSw; go_simp; try with_reducible rfl)
        try simp only [Act.put, List.getElem_toArray, List.getElem_cons_succ, List.getElem_cons_zero, List.setIfInBounds_toArray, List.set_cons_zero, List.set_cons_succ]
        refine wpAnyH_done (by kernel_rfl) ?_ _
        have HQ6 := Lib.hid (HK4.out w6 hB46)
        have HB46 := Lib.hid (HBd.out.trans (hB46.mono HBd.out.size))
        clear hHeld hB5 hB6 hB46 CG4 CR4 CR5 HK4 HBd
        have HB6 := Lib.hid (HB3.out.trans ((HB34.out.trans (HB46.out.mono HB34.out.size)).mono HB3.out.size))
        have HB36 := Lib.hid (HB34.out.trans (HB46.out.mono HB34.out.size))
        have CR6 := Lib.hid (CR.out w6 HB36.out)
        clear CR CG CE
        go_wp2_with (first
          | (refine Sea.load_pk rfl _ rfl w.heap.size rfl q HQ6.out ?_)
          | (go_at_call 7; refine (CR6.out).mono ?_; rintro e w7 ⟨rfl, hB7⟩; have HQ7 := Lib.hid (HQ6.out.below hB7); have HB37 := Lib.hid (HB36.out.trans (hB7.mono HB36.out.size)); have HB7 := Lib.hid (HB6.out.trans (hB7.mono HB6.out.size)))
          | (refine Sea.load_pk rfl _ rfl w.heap.size rfl q HQ7.out ?_)
          | (go_at_call 8; refine (CZ.out w7 HB37.out).mono ?_; rintro e w8 ⟨rfl, hB8⟩; have HB8 := Lib.hid (HB7.out.trans (hB8.mono HB7.out.size)))
          | (go_at_call 9; refine (CW.out w8 HB8.out).mono ?_; rintro e w9 ⟨rfl, hB9⟩))
        go_ret
        exact ⟨rfl, HB8.out.trans (hB9.mono HB8.out.size)⟩
      exact AllReadyH.nil
    exact AllReadyH.nil
  | true =>
    obtain ⟨hl1, hl2⟩ := Sea.inB_len hgb
    obtain ⟨hd1, hd2⟩ := Sea.de_got q hgb hk hs hv
    have CE : Hid (Calls Tryz.prog 5 #[Hed.pval q] W3 (Sea.EncPost q W3)) := Lib.hid (Sea.encode_ok q W3 hgb HD3.out (fun _ => HN2.out) (HT.out.below HB3.out))
    have CB : Hid (∀ W, Below W3.heap.size W3 W → Calls Tryz.prog 11 #[Hed.pval q] W (Buf.Gives (Crc.sealB (Sea.inB q)) W)) := Lib.hid (fun W hW => Sea.rframe_any q W hgb (HD3.out.below hW) (fun _ => HN2.out))
    have hz : Sea.sizeN q = (Crc.sealB (Sea.inB q)).length := by unfold Sea.sizeN; rw [hgb]; rfl
    rw [hz] at CZ
    obtain ⟨n, hN⟩ : ∃ n, Hid ((Crc.sealB (Sea.inB q)).length = n) := ⟨_, Lib.hid rfl⟩
    have hn5 : 5 ≤ n ∧ n ≤ 1100 := by
      have := Crc.seal_len (Sea.inB q)
      rw [hN.out] at this
      omega
    obtain ⟨hn5, hn11⟩ := hn5
    have HDE := Lib.hid (And.intro hd1 hd2)
    unfold Sea.EncPost at CE
    unfold Buf.Gives at CB
    clear hgb HN2 hk hs hv hl1 hl2 hd1 hd2 hz
    generalize Crc.sealB (Sea.inB q) = z at *
    rw [hN.out] at CE CB CZ
    go_wp2_with (refine Sea.load_pk rfl _ rfl w.heap.size rfl q HQ3.out ?_)
    refine (CE.out).mono ?_; rintro e w4 ⟨ad4, cap4, rfl, HO4, HB34⟩
    go_upto_region 3 with fail
    have HQ4 := Lib.hid (HQ3.out.below HB34.out)
    have HBd : Hid (Below w4.heap.size w4 w4.drew) := Lib.hid (Below.refl _ _).drew
    have CG4 := Lib.hid (CG.out w4.drew (HB34.out.trans (HBd.out.mono HB34.out.size)))
    have HK4 : Hid (∀ W, Below w4.drew.heap.size w4.drew W → Buf.Blk W w.heap.size 27 (Hed.Pk.cells q)) := Lib.hid (fun W hW => (HQ4.out.drewN 1).below hW)
    have CR4 : Hid (∀ W, Below w4.drew.heap.size w4.drew W → _) := Lib.hid (fun W hW => CR.out W (HB34.out.trans ((HBd.out.trans (hW.mono HBd.out.size)).mono HB34.out.size)))
    refine wp_region_held_drew (S := (fun W => Buf.Blk W w.heap.size 27 (Hed.Pk.cells q))) (by kernel_rfl) ?_ (fun hHeld => ?_)
    · exact HQ4.out.drewN 1
    refine wpAnyH_take (i := 0) (v := Hed.pval q) rfl (by kernel_rfl) (by kernel_rfl) (by kernel_rfl) (fun _ _ _ h => h) (Sea.yields_pk rfl _ rfl w.heap.size rfl q (fun _ h => h)) (by assumption) ?_
    try simp only [Act.put, List.getElem_toArray, List.getElem_cons_succ, List.getElem_cons_zero, List.setIfInBounds_toArray, List.set_cons_zero, List.set_cons_succ]
    refine wpAnyH_take (i := 2) (v := Hed.pval q) rfl (by kernel_rfl) (by kernel_rfl) (by kernel_rfl) (fun _ _ _ h => h) (Sea.yields_pk rfl _ rfl w.heap.size rfl q (fun _ h => h)) (by assumption) ?_
    try simp only [Act.put, List.getElem_toArray, List.getElem_cons_succ, List.getElem_cons_zero, List.setIfInBounds_toArray, List.set_cons_zero, List.set_cons_succ]
    refine wpAnyH_ready (rs := [1]) (by kernel_rfl) (by simp) ?_
    refine AllReadyH.cons rfl (fun K hK => ?_) ?_
    · go_simp
      go_wp2_with (go_at_call 6; refine (CG4.out).mono ?_; rintro e w5 ⟨rfl, hB5⟩)
      have CR5 := Lib.hid (CR4.out w5 hB5)
      refine hK.out _ _ ?_ (fun hHeld => ?_)
      · exact HK4.out w5 hB5
      clear hK K
      refine wpAnyH_ready (rs := [3]) (by kernel_rfl) (by simp) ?_
      refine AllReadyH.cons rfl (fun K hK => ?_) ?_
      · go_simp
        go_wp2_with (go_at_call 7; refine (CR5.out).mono ?_; rintro e w6 ⟨rfl, hB6⟩)
        have hB46 := hB5.trans (hB6.mono hB5.size)
        refine hK.out _ _ ?_ (fun hHeld => ?_)
        · exact HK4.out w6 hB46
        clear hK K
        refine wpAnyH_take (i := 4) (v := ?_) rfl (by kernel_rfl) (by kernel_rfl) (by kernel_rfl) (fun _ _ _ h => h) (Or.inl ⟨by kernel_rfl, ?_⟩) (by assumption) ?_
        rotate_left 1
        focus (intro w hSw; clear hSw; go_simp; try with_reducible rfl)
        try simp only [Act.put, List.getElem_toArray, List.getElem_cons_succ, List.getElem_cons_zero, List.setIfInBounds_toArray, List.set_cons_zero, List.set_cons_succ]
        refine wpAnyH_done (by kernel_rfl) ?_ _
        have HQ6 := Lib.hid (HK4.out w6 hB46)
        have HB46 := Lib.hid (HBd.out.trans (hB46.mono HBd.out.size))
        clear hHeld hB5 hB6 hB46 CG4 CR4 CR5 HK4 HBd
        have HB36 := Lib.hid (HB34.out.trans (HB46.out.mono HB34.out.size))
        have HB6 := Lib.hid (HB3.out.trans (HB36.out.mono HB3.out.size))
        have CR6 := Lib.hid (CR.out w6 HB36.out)
        clear CR CG CE HQ4
        go_wp2_with (refine Sea.load_pk rfl _ rfl w.heap.size rfl q HQ6.out ?_)
        refine (CR6.out).mono ?_; rintro e wr ⟨rfl, hBr⟩
        have HQ6 := Lib.hid (HQ6.out.below hBr)
        have HB36 := Lib.hid (HB36.out.trans (hBr.mono HB36.out.size))
        have HB46 := Lib.hid (HB46.out.trans (hBr.mono HB46.out.size))
        have CB6 := Lib.hid (CB.out wr HB36.out)
        clear CR6 hBr HB6
        go_wp2_with (refine Sea.load_pk rfl _ rfl w.heap.size rfl q HQ6.out ?_)
        refine (CB6.out).mono ?_; rintro e w7 ⟨ad7, cap7, rfl, ho7, hB7⟩
        have ho7' := ho7
        rw [← hN.out] at ho7'
        obtain ⟨p1, p2, p3, -⟩ := ho7'.pos
        rw [hN.out] at p1
        unfold maxLen at p2
        have HB37 := Lib.hid (HB36.out.trans (hB7.mono HB36.out.size))
        have HB7 := Lib.hid (HB3.out.trans (HB37.out.mono HB3.out.size))
        have HB47 := Lib.hid (HB46.out.trans (hB7.mono HB46.out.size))
        have CD := Lib.hid (Sea.decode_any ad7 n cap7 z w7 hN.out p1 (by omega) ho7'.rd.1 p3 (HT.out.below HB7.out))
        rw [HDE.out.1] at CD
        have HQ7 := Lib.hid (HQ6.out.below hB7)
        clear ho7 ho7' p1 p2 p3 hB7 CB6 HQ6
        go_wp2_with fail
        refine (CD.out).mono ?_; rintro e w8 ⟨ad8, cap8, rfl, HB78, HD8, -⟩
        have hsame : Hid (Hed.eqP q (Pkt.memP (Sea.deP z) ad8 cap8) = true) := Lib.hid (HDE.out.2 ad8 cap8)
        generalize Sea.deP z = D at *
        go_upto_region 8 with (refine Sea.store_pk rfl _ _ rfl w8.heap.size (Pkt.memP D ad8 cap8) rfl rfl #[.int .i64 0, .int .i64 0, .int .i64 0, .int .u32 0, .int .i64 0, .int .i64 0, .int .i64 0, .int .i64 0, .int .i64 0, .int .i64 0, .int .i64 0, .slice none 0 0] (heap_alloc_last w8 _) rfl ?_)
        obtain ⟨W9, hW9⟩ : ∃ W9, Hid (W9 = (w8.alloc (.cells #[.int .i64 0, .int .i64 0, .int .i64 0, .int .u32 0, .int .i64 0, .int .i64 0, .int .i64 0, .int .i64 0, .int .i64 0, .int .i64 0, .int .i64 0, .slice none 0 0] 27)).setRow w8.heap.size (Hed.Pk.cells (Pkt.memP D ad8 cap8))) := ⟨_, Lib.hid rfl⟩
        rw [← hW9.out]
        have HBW9 : Hid (Below w8.heap.size w8 W9) := Lib.hid (by rw [hW9.out]; exact below_setRow ((Below.refl _ _).alloc (Nat.le_refl _) _) (Nat.le_refl _) _)
        have HQW9 : Hid (Buf.Blk W9 w8.heap.size 27 (Hed.Pk.cells (Pkt.memP D ad8 cap8))) := Lib.hid (by rw [hW9.out]; exact Hed.Blk.row (Buf.Blk.new w8 27 #[.int .i64 0, .int .i64 0, .int .i64 0, .int .u32 0, .int .i64 0, .int .i64 0, .int .i64 0, .int .i64 0, .int .i64 0, .int .i64 0, .int .i64 0, .slice none 0 0]) _ rfl)
        clear hW9
        have HB79 := Lib.hid (HB78.out.trans (HBW9.out.mono HB78.out.size))
        have HB9 := Lib.hid (HB7.out.trans (HB79.out.mono HB7.out.size))
        have HB49 := Lib.hid (HB47.out.trans (HB79.out.mono HB47.out.size))
        have HB39 := Lib.hid (HB37.out.trans (HB79.out.mono HB37.out.size))
        have HQ9 := Lib.hid (HQ7.out.below HB79.out)
        have HD9 : Hid (Byt.RdB W9 (Pkt.memP D ad8 cap8).ad (Pkt.memP D ad8 cap8).body) := Lib.hid (HD8.out.below HBW9.out)
        obtain ⟨st, hst⟩ : ∃ st, Hid (Byt.strB z = st) := ⟨_, Lib.hid rfl⟩
        have HBd : Hid (Below W9.heap.size W9 W9.drew) := Lib.hid (Below.refl _ _).drew
        have HS : Hid (∀ W, Below W9.drew.heap.size W9.drew W → Buf.Blk W w.heap.size 27 (Hed.Pk.cells q) ∧ Buf.Blk W w8.heap.size 27 (Hed.Pk.cells (Pkt.memP D ad8 cap8)) ∧ (convert 25 9 (.slice ad4 n cap4)).run Tryz.prog W = .ok (.string st) W) := Lib.hid (fun W hW => by
          have hW9 := HBd.out.trans (hW.mono HBd.out.size)
          refine ⟨HQ9.out.below hW9, HQW9.out.below hW9, ?_⟩
          rw [← hst.out]
          have ho4 := HO4.out
          rw [← hN.out] at ho4
          have := ho4.str (HB49.out.trans (hW9.mono HB49.out.size))
          rwa [hN.out] at this)
        have CB9 : Hid (∀ W, Below W9.drew.heap.size W9.drew W → Calls Tryz.prog 11 #[Hed.pval q] W fun e w' => ∃ ad cap, e = .returned (.slice ad n cap) ∧ Below W9.drew.heap.size W9.drew w' ∧ (convert 25 9 (.slice ad n cap)).run Tryz.prog w' = .ok (.string st) w') := Lib.hid (fun W hW => (CB.out W (HB39.out.trans ((HBd.out.trans (hW.mono HBd.out.size)).mono HB39.out.size))).mono fun e w' hp => by
          obtain ⟨ad, cap, rfl, ho, hB⟩ := hp
          refine ⟨ad, cap, rfl, hW.trans (hB.mono hW.size), ?_⟩
          rw [← hst.out]
          have ho' := ho
          rw [← hN.out] at ho'
          have := ho'.str (Below.refl _ _)
          rwa [hN.out] at this)
        have CZ9 : Hid (∀ W, Below W9.drew.heap.size W9.drew W → Calls Tryz.prog 8 #[Hed.pval q] W fun e w' => e = .returned (.int .i64 (n : Int)) ∧ Below W9.drew.heap.size W9.drew w') := Lib.hid (fun W hW => (CZ.out W (HB39.out.trans ((HBd.out.trans (hW.mono HBd.out.size)).mono HB39.out.size))).mono fun e w' hp => ⟨hp.1, hW.trans (hp.2.mono hW.size)⟩)
        have CS9 : Hid (∀ W, Below W9.drew.heap.size W9.drew W → Calls Tryz.prog 12 #[Hed.pval q, Hed.pval (Pkt.memP D ad8 cap8)] W fun e w' => e = .returned (.bool true) ∧ Below W9.drew.heap.size W9.drew w') := Lib.hid (fun W hW => by
          have hW9 := HBd.out.trans (hW.mono HBd.out.size)
          have := Hed.rsame_any q (Pkt.memP D ad8 cap8) W (HD3.out.below (HB39.out.trans (hW9.mono HB39.out.size))) (HD9.out.below hW9)
          rw [hsame.out] at this
          exact this.mono fun e w' hp => ⟨hp.1, hW.trans (hp.2.mono hW.size)⟩)
        have CW9 : Hid (∀ W, Below W9.drew.heap.size W9.drew W → Calls Tryz.prog 9 #[] W fun e w' => e = .returned (.bool true) ∧ Below W9.drew.heap.size W9.drew w') := Lib.hid (fun W hW => (CW.out W (HB9.out.trans ((HBd.out.trans (hW.mono HBd.out.size)).mono HB9.out.size))).mono fun e w' hp => ⟨hp.1, hW.trans (hp.2.mono hW.size)⟩)
        have HF9 : Hid (∀ W, Below W9.drew.heap.size W9.drew W → Below w.heap.size w W) := Lib.hid (fun W hW => HB9.out.trans ((HBd.out.trans (hW.mono HBd.out.size)).mono HB9.out.size))
        have hnn : (st.toList == st.toList) = true := by simp
        have hn1100 : (n : Int) ≤ 1100 := by omega
        have HS0 := Lib.hid (HS.out W9.drew (Below.refl _ _))
        have h0 := Below.refl W9.drew.heap.size W9.drew
        clear HB79 HB9 HB49 HB39 HQ9 HD9 hst HO4 CB CZ HQ7 HB78 HBW9 HD8 HQW9 HB7 HB37 HB47 HB3 HB34 HB46 HQ3 HD3 HDE CD hsame HB36 HQ6 HT
        go_upto_region 8 with fail
        refine wp_region_held_drew (S := (fun W => Buf.Blk W w.heap.size 27 (Hed.Pk.cells q) ∧ Buf.Blk W w8.heap.size 27 (Hed.Pk.cells (Pkt.memP D ad8 cap8)) ∧ (convert 25 9 (.slice ad4 n cap4)).run Tryz.prog W = .ok (.string st) W)) (by kernel_rfl) ?_ (fun hHeld => ?_)
        · exact HS0.out
        refine wpAnyH_take (i := 0) (v := ?_) rfl (by kernel_rfl) (by kernel_rfl) (by kernel_rfl) (fun _ _ _ h => h) (Or.inl ⟨by kernel_rfl, ?_⟩) (by assumption) ?_
        rotate_left 1
        focus (intro w hSw; clear hSw; go_simp; try with_reducible rfl)
        try simp only [Act.put, List.getElem_toArray, List.getElem_cons_succ, List.getElem_cons_zero, List.setIfInBounds_toArray, List.set_cons_zero, List.set_cons_succ]
        refine wpAnyH_take (i := 1) (v := .string st) rfl (by kernel_rfl) (by kernel_rfl) (by kernel_rfl) (fun _ _ _ h => h) (Or.inl ⟨by kernel_rfl, by intro W hSw; have hc := hSw.2.2; clear hSw; go_simp⟩) (by assumption) ?_
        try simp only [Act.put, List.getElem_toArray, List.getElem_cons_succ, List.getElem_cons_zero, List.setIfInBounds_toArray, List.set_cons_zero, List.set_cons_succ]
        refine wpAnyH_take (i := 2) (v := Hed.pval q) rfl (by kernel_rfl) (by kernel_rfl) (by kernel_rfl) (fun _ _ _ h => h) (Sea.yields_pk (rfl) _ rfl w.heap.size rfl q (fun _ h => h.1)) (by assumption) ?_
        try simp only [Act.put, List.getElem_toArray, List.getElem_cons_succ, List.getElem_cons_zero, List.setIfInBounds_toArray, List.set_cons_zero, List.set_cons_succ]
        refine wpAnyH_ready (rs := [3]) (by kernel_rfl) (by simp) ?_
        refine AllReadyH.cons rfl (fun K hK => ?_) ?_
        · go_simp
          go_wp2_with (go_at_call 11; refine (CB9.out _ h0).mono ?_; rintro e w10 ⟨ad10, cap10, rfl, hB10, hc10⟩)
          refine hK.out _ _ ?_ (fun hHeld => ?_)
          · exact HS.out w10 hB10
          clear hK K
          refine wpAnyH_ready (rs := [4]) (by kernel_rfl) (by simp) ?_
          refine AllReadyH.cons rfl (fun K hK => ?_) ?_
          · go_simp
            refine hK.out _ _ ?_ (fun hHeld => ?_)
            · exact HS.out w10 hB10
            clear hK K
            refine wpAnyH_take (i := 5) (v := .bool true) rfl (by kernel_rfl) (by kernel_rfl) (by kernel_rfl) (fun _ _ _ h => h) (Or.inl ⟨by kernel_rfl, by intro W hSw; clear hSw; go_simp; all_goals (first | done | rfl | simp | (simp; omega))⟩) (by assumption) ?_
            try simp only [Act.put, List.getElem_toArray, List.getElem_cons_succ, List.getElem_cons_zero, List.setIfInBounds_toArray, List.set_cons_zero, List.set_cons_succ]
            refine wpAnyH_take (i := 6) (v := ?_) rfl (by kernel_rfl) (by kernel_rfl) (by kernel_rfl) (fun _ _ _ h => h) (Or.inl ⟨by kernel_rfl, ?_⟩) (by assumption) ?_
            rotate_left 1
            focus (intro w hSw; clear hSw; go_simp; try with_reducible rfl)
            try simp only [Act.put, List.getElem_toArray, List.getElem_cons_succ, List.getElem_cons_zero, List.setIfInBounds_toArray, List.set_cons_zero, List.set_cons_succ]
            refine wpAnyH_take (i := 7) (v := ?_) rfl (by kernel_rfl) (by kernel_rfl) (by kernel_rfl) (fun _ _ _ h => h) (Or.inl ⟨by kernel_rfl, ?_⟩) (by assumption) ?_
            rotate_left 1
            focus (intro w hSw; clear hSw; go_simp; try with_reducible rfl)
            try simp only [Act.put, List.getElem_toArray, List.getElem_cons_succ, List.getElem_cons_zero, List.setIfInBounds_toArray, List.set_cons_zero, List.set_cons_succ]
            refine wpAnyH_take (i := 8) (v := .bool true) rfl (by kernel_rfl) (by kernel_rfl) (by kernel_rfl) (fun _ _ _ h => h) (Or.inl ⟨by kernel_rfl, by intro W hSw; clear hSw; go_simp; all_goals (first | done | rfl | simp | (simp; omega))⟩) (by assumption) ?_
            try simp only [Act.put, List.getElem_toArray, List.getElem_cons_succ, List.getElem_cons_zero, List.setIfInBounds_toArray, List.set_cons_zero, List.set_cons_succ]
            refine wpAnyH_take (i := 9) (v := ?_) rfl (by kernel_rfl) (by kernel_rfl) (by kernel_rfl) (fun _ _ _ h => h) (Or.inl ⟨by kernel_rfl, ?_⟩) (by assumption) ?_
            rotate_left 1
            focus (intro w hSw; clear hSw; go_simp; try with_reducible rfl)
            try simp only [Act.put, List.getElem_toArray, List.getElem_cons_succ, List.getElem_cons_zero, List.setIfInBounds_toArray, List.set_cons_zero, List.set_cons_succ]
            refine wpAnyH_take (i := 10) (v := ?_) rfl (by kernel_rfl) (by kernel_rfl) (by kernel_rfl) (fun _ _ _ h => h) (Or.inl ⟨by kernel_rfl, ?_⟩) (by assumption) ?_
            rotate_left 1
            focus (intro w hSw; clear hSw; go_simp; try with_reducible rfl)
            try simp only [Act.put, List.getElem_toArray, List.getElem_cons_succ, List.getElem_cons_zero, List.setIfInBounds_toArray, List.set_cons_zero, List.set_cons_succ]
            refine wpAnyH_take (i := 11) (v := Hed.pval q) rfl (by kernel_rfl) (by kernel_rfl) (by kernel_rfl) (fun _ _ _ h => h) (Sea.yields_pk (by kernel_rfl) _ rfl w.heap.size rfl q (fun _ h => h.1)) (by assumption) ?_
            try simp only [Act.put, List.getElem_toArray, List.getElem_cons_succ, List.getElem_cons_zero, List.setIfInBounds_toArray, List.set_cons_zero, List.set_cons_succ]
            refine wpAnyH_take (i := 13) (v := ?_) rfl (by kernel_rfl) (by kernel_rfl) (by kernel_rfl) (fun _ _ _ h => h) (Or.inl ⟨by kernel_rfl, ?_⟩) (by assumption) ?_
            rotate_left 1
            focus (intro w hSw; clear hSw; go_simp; try with_reducible rfl)
            try simp only [Act.put, List.getElem_toArray, List.getElem_cons_succ, List.getElem_cons_zero, List.setIfInBounds_toArray, List.set_cons_zero, List.set_cons_succ]
            refine wpAnyH_take (i := 14) (v := .int .i64 (n : Int)) rfl (by kernel_rfl) (by kernel_rfl) (by kernel_rfl) (fun _ _ _ h => h) (Or.inl ⟨by kernel_rfl, by intro W hSw; clear hSw; go_simp⟩) (by assumption) ?_
            try simp only [Act.put, List.getElem_toArray, List.getElem_cons_succ, List.getElem_cons_zero, List.setIfInBounds_toArray, List.set_cons_zero, List.set_cons_succ]
            refine wpAnyH_ready (rs := [12]) (by kernel_rfl) (by simp) ?_
            refine AllReadyH.cons rfl (fun K hK => ?_) ?_
            · go_simp
              go_wp2_with (go_at_call 8; refine (CZ9.out _ hB10).mono ?_; rintro e w11 ⟨rfl, hB11⟩)
              refine hK.out _ _ ?_ (fun hHeld => ?_)
              · exact HS.out w11 hB11
              clear hK K
              refine wpAnyH_take (i := 15) (v := .bool true) rfl (by kernel_rfl) (by kernel_rfl) (by kernel_rfl) (fun _ _ _ h => h) (Or.inl ⟨by kernel_rfl, by intro W hSw; clear hSw; go_simp; all_goals (first | done | rfl | simp | (simp; omega))⟩) (by assumption) ?_
              try simp only [Act.put, List.getElem_toArray, List.getElem_cons_succ, List.getElem_cons_zero, List.setIfInBounds_toArray, List.set_cons_zero, List.set_cons_succ]
              refine wpAnyH_take (i := 16) (v := ?_) rfl (by kernel_rfl) (by kernel_rfl) (by kernel_rfl) (fun _ _ _ h => h) (Or.inl ⟨by kernel_rfl, ?_⟩) (by assumption) ?_
              rotate_left 1
              focus (intro w hSw; clear hSw; go_simp; try with_reducible rfl)
              try simp only [Act.put, List.getElem_toArray, List.getElem_cons_succ, List.getElem_cons_zero, List.setIfInBounds_toArray, List.set_cons_zero, List.set_cons_succ]
              refine wpAnyH_take (i := 17) (v := ?_) rfl (by kernel_rfl) (by kernel_rfl) (by kernel_rfl) (fun _ _ _ h => h) (Or.inl ⟨by kernel_rfl, ?_⟩) (by assumption) ?_
              rotate_left 1
              focus (intro w hSw; clear hSw; go_simp; try with_reducible rfl)
              try simp only [Act.put, List.getElem_toArray, List.getElem_cons_succ, List.getElem_cons_zero, List.setIfInBounds_toArray, List.set_cons_zero, List.set_cons_succ]
              refine wpAnyH_take (i := 18) (v := ?_) rfl (by kernel_rfl) (by kernel_rfl) (by kernel_rfl) (fun _ _ _ h => h) (Or.inl ⟨by kernel_rfl, ?_⟩) (by assumption) ?_
              rotate_left 1
              focus (intro w hSw; clear hSw; go_simp; try with_reducible rfl)
              try simp only [Act.put, List.getElem_toArray, List.getElem_cons_succ, List.getElem_cons_zero, List.setIfInBounds_toArray, List.set_cons_zero, List.set_cons_succ]
              refine wpAnyH_take (i := 19) (v := .int .i64 (n : Int)) rfl (by kernel_rfl) (by kernel_rfl) (by kernel_rfl) (fun _ _ _ h => h) (Or.inl ⟨by kernel_rfl, by intro W hSw; clear hSw; go_simp⟩) (by assumption) ?_
              try simp only [Act.put, List.getElem_toArray, List.getElem_cons_succ, List.getElem_cons_zero, List.setIfInBounds_toArray, List.set_cons_zero, List.set_cons_succ]
              refine wpAnyH_take (i := 20) (v := .bool true) rfl (by kernel_rfl) (by kernel_rfl) (by kernel_rfl) (fun _ _ _ h => h) (Or.inl ⟨by kernel_rfl, by intro W hSw; clear hSw; go_simp; all_goals (first | done | rfl | simp | (simp; omega))⟩) (by assumption) ?_
              try simp only [Act.put, List.getElem_toArray, List.getElem_cons_succ, List.getElem_cons_zero, List.setIfInBounds_toArray, List.set_cons_zero, List.set_cons_succ]
              refine wpAnyH_take (i := 21) (v := ?_) rfl (by kernel_rfl) (by kernel_rfl) (by kernel_rfl) (fun _ _ _ h => h) (Or.inl ⟨by kernel_rfl, ?_⟩) (by assumption) ?_
              rotate_left 1
              focus (intro w hSw; clear hSw; go_simp; try with_reducible rfl)
              try simp only [Act.put, List.getElem_toArray, List.getElem_cons_succ, List.getElem_cons_zero, List.setIfInBounds_toArray, List.set_cons_zero, List.set_cons_succ]
              refine wpAnyH_take (i := 22) (v := ?_) rfl (by kernel_rfl) (by kernel_rfl) (by kernel_rfl) (fun _ _ _ h => h) (Or.inl ⟨by kernel_rfl, ?_⟩) (by assumption) ?_
              rotate_left 1
              focus (intro w hSw; clear hSw; go_simp; try with_reducible rfl)
              try simp only [Act.put, List.getElem_toArray, List.getElem_cons_succ, List.getElem_cons_zero, List.setIfInBounds_toArray, List.set_cons_zero, List.set_cons_succ]
              refine wpAnyH_take (i := 23) (v := ?_) rfl (by kernel_rfl) (by kernel_rfl) (by kernel_rfl) (fun _ _ _ h => h) (Or.inl ⟨by kernel_rfl, ?_⟩) (by assumption) ?_
              rotate_left 1
              focus (intro w hSw; clear hSw; go_simp; try with_reducible rfl)
              try simp only [Act.put, List.getElem_toArray, List.getElem_cons_succ, List.getElem_cons_zero, List.setIfInBounds_toArray, List.set_cons_zero, List.set_cons_succ]
              refine wpAnyH_take (i := 24) (v := .bool true) rfl (by kernel_rfl) (by kernel_rfl) (by kernel_rfl) (fun _ _ _ h => h) (Or.inl ⟨by kernel_rfl, by intro W hSw; clear hSw; go_simp; all_goals (first | done | rfl | simp | (simp; omega))⟩) (by assumption) ?_
              try simp only [Act.put, List.getElem_toArray, List.getElem_cons_succ, List.getElem_cons_zero, List.setIfInBounds_toArray, List.set_cons_zero, List.set_cons_succ]
              refine wpAnyH_take (i := 25) (v := ?_) rfl (by kernel_rfl) (by kernel_rfl) (by kernel_rfl) (fun _ _ _ h => h) (Or.inl ⟨by kernel_rfl, ?_⟩) (by assumption) ?_
              rotate_left 1
              focus (intro w hSw; clear hSw; go_simp; try with_reducible rfl)
              try simp only [Act.put, List.getElem_toArray, List.getElem_cons_succ, List.getElem_cons_zero, List.setIfInBounds_toArray, List.set_cons_zero, List.set_cons_succ]
              refine wpAnyH_take (i := 26) (v := ?_) rfl (by kernel_rfl) (by kernel_rfl) (by kernel_rfl) (fun _ _ _ h => h) (Or.inl ⟨by kernel_rfl, ?_⟩) (by assumption) ?_
              rotate_left 1
              focus (intro w hSw; clear hSw; go_simp; try with_reducible rfl)
              try simp only [Act.put, List.getElem_toArray, List.getElem_cons_succ, List.getElem_cons_zero, List.setIfInBounds_toArray, List.set_cons_zero, List.set_cons_succ]
              refine wpAnyH_take (i := 27) (v := Hed.pval q) rfl (by kernel_rfl) (by kernel_rfl) (by kernel_rfl) (fun _ _ _ h => h) (Sea.yields_pk (by kernel_rfl) _ rfl w.heap.size rfl q (fun _ h => h.1)) (by assumption) ?_
              try simp only [Act.put, List.getElem_toArray, List.getElem_cons_succ, List.getElem_cons_zero, List.setIfInBounds_toArray, List.set_cons_zero, List.set_cons_succ]
              refine wpAnyH_take (i := 28) (v := Hed.pval (Pkt.memP D ad8 cap8)) rfl (by kernel_rfl) (by kernel_rfl) (by kernel_rfl) (fun _ _ _ h => h) (Sea.yields_pk (by kernel_rfl) _ rfl w8.heap.size rfl (Pkt.memP D ad8 cap8) (fun _ h => h.2.1)) (by assumption) ?_
              try simp only [Act.put, List.getElem_toArray, List.getElem_cons_succ, List.getElem_cons_zero, List.setIfInBounds_toArray, List.set_cons_zero, List.set_cons_succ]
              refine wpAnyH_ready (rs := [29]) (by kernel_rfl) (by simp) ?_
              refine AllReadyH.cons rfl (fun K hK => ?_) ?_
              · go_simp
                go_wp2_with (go_at_call 12; refine (CS9.out _ hB11).mono ?_; rintro e w12 ⟨rfl, hB12⟩)
                refine hK.out _ _ ?_ (fun hHeld => ?_)
                · exact HS.out w12 hB12
                clear hK K
                refine wpAnyH_take (i := 30) (v := ?_) rfl (by kernel_rfl) (by kernel_rfl) (by kernel_rfl) (fun _ _ _ h => h) (Or.inl ⟨by kernel_rfl, ?_⟩) (by assumption) ?_
                rotate_left 1
                focus (intro w hSw; clear hSw; go_simp; try with_reducible rfl)
                try simp only [Act.put, List.getElem_toArray, List.getElem_cons_succ, List.getElem_cons_zero, List.setIfInBounds_toArray, List.set_cons_zero, List.set_cons_succ]
                refine wpAnyH_take (i := 31) (v := ?_) rfl (by kernel_rfl) (by kernel_rfl) (by kernel_rfl) (fun _ _ _ h => h) (Or.inl ⟨by kernel_rfl, ?_⟩) (by assumption) ?_
                rotate_left 1
                focus (intro w hSw; clear hSw; go_simp; try with_reducible rfl)
                try simp only [Act.put, List.getElem_toArray, List.getElem_cons_succ, List.getElem_cons_zero, List.setIfInBounds_toArray, List.set_cons_zero, List.set_cons_succ]
                refine wpAnyH_ready (rs := [32]) (by kernel_rfl) (by simp) ?_
                refine AllReadyH.cons rfl (fun K hK => ?_) ?_
                · go_simp
                  go_wp2_with (go_at_call 9; refine (CW9.out _ hB12).mono ?_; rintro e w13 ⟨rfl, hB13⟩)
                  refine hK.out _ _ ?_ (fun hHeld => ?_)
                  · exact HS.out w13 hB13
                  clear hK K
                  refine wpAnyH_take (i := 33) (v := ?_) rfl (by kernel_rfl) (by kernel_rfl) (by kernel_rfl) (fun _ _ _ h => h) (Or.inl ⟨by kernel_rfl, ?_⟩) (by assumption) ?_
                  rotate_left 1
                  focus (intro w hSw; clear hSw; go_simp; try with_reducible rfl)
                  try simp only [Act.put, List.getElem_toArray, List.getElem_cons_succ, List.getElem_cons_zero, List.setIfInBounds_toArray, List.set_cons_zero, List.set_cons_succ]
                  refine wpAnyH_take (i := 34) (v := ?_) rfl (by kernel_rfl) (by kernel_rfl) (by kernel_rfl) (fun _ _ _ h => h) (Or.inl ⟨by kernel_rfl, ?_⟩) (by assumption) ?_
                  rotate_left 1
                  focus (intro w hSw; clear hSw; go_simp; try with_reducible rfl)
                  try simp only [Act.put, List.getElem_toArray, List.getElem_cons_succ, List.getElem_cons_zero, List.setIfInBounds_toArray, List.set_cons_zero, List.set_cons_succ]
                  refine wpAnyH_done (by kernel_rfl) ?_ _
                  have HF := Lib.hid (HF9.out _ hB13)
                  clear hHeld h0 hB10 hB11 hB12 hB13 HS HS0 CB9 CZ9 CS9 CW9 HF9
                  go_wp2_with fail
                  go_ret
                  exact ⟨rfl, HF.out⟩
                exact AllReadyH.nil
              exact AllReadyH.nil
            exact AllReadyH.nil
          exact AllReadyH.nil
        exact AllReadyH.nil
      exact AllReadyH.nil
    exact AllReadyH.nil

set_option maxRecDepth 100000 in
theorem lifted (os : Os) (started : os.Started) (H : Type) (enc : TypeId × Value → H) :
    ReturnsInHanded {} Tryz.checked os 3 .any (fun w args => (Rows.sealEncodesSpec.pre enc Tryz.prog Tryz.f3 [] false w args ∧ laidMetH Tryz.prog Crc.laidL w) ∧ sizedMet enc Tryz.prog Tryz.f3 (OpenSpec.ofChange Rows.sealEncodesSpec) false w args) (Rows.sealEncodesSpec.post enc Tryz.prog Tryz.f3 false true false false) := by
  refine returnsInHanded_of_change_and (C := Tryz.checked) (X := fun w _ => laidMetH Tryz.prog Crc.laidL w) (fun _ _ _ hh h => h.of_heap hh) own started (by kernel_rfl) Tryz.func3
    (ChangeSpec.witness_shaped (enc := enc) (C := Tryz.checked) (os := os) (X := fun w _ => laidMetH Tryz.prog Crc.laidL w) false (World.doorLaid Tryz.prog 33 os) #[.agg #[.int .i64 0, .int .i64 0, .int .i64 0, .int .u32 0, .int .i64 0, .int .i64 0, .int .i64 0, .int .i64 0, .int .i64 0, .int .i64 0, .int .i64 0, .slice none 0 0]] 8 rfl (World.shaped_of_RefB (by kernel_rfl) (by kernel_rfl)) (by kernel_rfl) (by kernel_rfl) (by kernel_rfl) (Crc.door_met os _)) ?_
  intro W base args ds gs before hval0 hW _ _ hL _
  have hval : ∀ (j : Nat) t v, Tryz.f3.params[j]? = some t → args[j]? = some v → Value.okWide Tryz.prog W .any base t v := hval0
  have hW' := hW
  obtain ⟨p, q, hA0, hV, rfl, hfz, hnd⟩ := hW
  have hA : DataW.TrodAll enc Tryz.prog W 0 (fun _ => true) true Tryz.f3.params.toList args.toList ds p := hA0
  rw [Tryz.params3] at hA hval
  obtain ⟨v0, vs0, d0, ds0, p0, q0, hargs, rfl, rfl, h0, r0⟩ := trodAll_cons hA
  obtain ⟨rfl, rfl, rfl⟩ := trodAll_nil r0
  obtain rfl : args = #[v0] := by cases args; simp_all
  obtain ⟨rfl, rfl⟩ := trodVars_none hV
  have k0 := h0
  have lt0 : ∀ x ∈ p0, x.block < W.heap.size := by obtain ⟨m, hm⟩ := k0; exact DataW.trod_lt m _ _ _ hm
  obtain ⟨a0, rfl, w0⟩ := Pul.open_pkx (hval 0 27 v0 rfl rfl) h0
  clear hA0 hval0
  have hT := Crc.tabs_of_laid hL
  refine (walk a0 W w0 hT).mono fun e W' ⟨he, bel⟩ => ?_
  subst he
  exact ⟨_, rfl, _, _, _, [], _, [], hW', trodAll_mk1 (shut_bool Tryz.underlying4 _), (trodAll_cons_mk (Below.trod laidOut (by kernel_rfl) (of_decide_eq_true (by kernel_rfl)) k0 bel lt0) trodAll_mk0), rfl, bel.frame _, fun h => by cases h⟩

theorem over : Rows.sealEncodesRow.holds Tryz.pinned (OpenSpec.ofChange Rows.sealEncodesSpec) :=
  OpenClaim.holds_of_wide 3 Tryz.f3 rfl rfl rfl rfl rfl rfl rfl ⟨rfl, rfl, rfl, rfl, rfl⟩ rfl rfl rfl rfl rfl (by kernel_rfl) Tryz.func3 (by kernel_rfl)
    (of_decide_eq_true (by kernel_rfl)) (by unfold Func.isWrapper; first | (rw [if_pos (by decide +kernel)]; kernel_rfl) | (rw [if_neg (by decide +kernel)]; exact ⟨rfl, rfl⟩))
    (fun os started H enc _ => lifted os started H enc)

theorem func_is {f : FuncId} (h : Tryz.prog.funcNamed Rows.sealEncodesRow.func = some f) : f = 3 :=
  Option.some.inj (h.symm.trans (show Tryz.prog.funcNamed Rows.sealEncodesRow.func = some 3 by kernel_rfl))
theorem proved : Rows.SealEncodesCardSaid :=
  Claim7.holds_tied_plain_at .later [] Rows.sealEncodesCard.laidKinds true Rows.sealEncodesCard.stood.harness false
    over (fun _ h => by cases h) (by kernel_rfl) (fun _ h => by cases h) sealEncodes_row_tie rfl ⟨rfl, rfl⟩ (by kernel_rfl) rfl
    (fun f fn hf hfn => by
      obtain rfl := func_is hf
      obtain rfl : fn = Tryz.f3 := (Option.some.inj (Tryz.func3.symm.trans hfn)).symm
      exact ⟨by kernel_rfl, fun j t ht => by
        rw [Tryz.params3] at ht
        have hm : t ∈ [27] := by simpa using Array.mem_of_getElem? ht
        have hall : ([27].all fun u => !Tryz.prog.wantsStandIn u) = true := by kernel_rfl
        exact (show Tryz.prog.wantsStandIn t = false by simpa using List.all_eq_true.1 hall t hm)⟩)
    (by kernel_rfl)
#print axioms proved
end Go.Proofs.YtanfnhgaooafeaaGreatDoor.lawSealEncodes
