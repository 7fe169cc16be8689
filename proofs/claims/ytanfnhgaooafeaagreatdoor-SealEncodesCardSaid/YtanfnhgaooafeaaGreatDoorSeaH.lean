/- Contracts (layer 14): the document's frame. -/
import Derived.Test.YtanfnhgaooafeaaGreatDoorSeaC
import Derived.Test.YtanfnhgaooafeaaGreatDoorHedX
import Derived.Test.YtanfnhgaooafeaaGreatDoorDatY
import Derived.Test.YtanfnhgaooafeaaGreatDoorPulI
import Derived.Test.YtanfnhgaooafeaaGreatDoorAttX
import Derived.Test.YtanfnhgaooafeaaGreatDoorChuY
namespace Go.Proofs.YtanfnhgaooafeaaGreatDoor.Sea
open Go.ChangeShapes Go.WideShapes Go.ChangeAt Go.RowKit Go.Deep
open Go.Proofs.YtanfnhgaooafeaaGreatDoor.Byt Go.Proofs.YtanfnhgaooafeaaGreatDoor.Key Go.Proofs.YtanfnhgaooafeaaGreatDoor.Buf Go.Proofs.YtanfnhgaooafeaaGreatDoor.Hed Go.Proofs.YtanfnhgaooafeaaGreatDoor.Dat Go.Proofs.YtanfnhgaooafeaaGreatDoor.BufM Go.Proofs.YtanfnhgaooafeaaGreatDoor.Pkt
set_option linter.unusedVariables false
set_option linter.unusedSimpArgs false
set_option maxRecDepth 100000 in
set_option maxHeartbeats 4000000 in
theorem rframe_any (p : Pk) (w : World) (h : seaG p = true) (hr : RdB w p.ad p.body) (hn : p.kind = 4 ∨ p.kind = 6 → p.ad = none → p.cap = 0) :
    Calls Tryz.prog 11 #[pval p] w (Gives (Crc.sealB (inB p)) w) := by
  obtain ⟨wb, hwb⟩ : ∃ wb, Hid (wb = w.alloc (.cells p.cells 27)) := ⟨_, Lib.hid rfl⟩
  have HX := Lib.hid (one_box w wb _ _ hwb.out)
  have hk := gd_kind (seaG_gd h)
  have hl := inB_len h
  have hh := headB_len p
  have ht := tB_len h
  have CH := Lib.hid (rhead_any p wb)
  have CT : Hid (∀ W, Below wb.heap.size wb W → (p.kind < 4 → Calls Tryz.prog 26 #[pval p] W (Gives (tB p) W)) ∧ (p.kind = 4 → Calls Tryz.prog 27 #[pval p] W (Gives (tB p) W)) ∧ (p.kind = 5 → Calls Tryz.prog 28 #[pval p] W (Gives (tB p) W)) ∧ (p.kind = 6 → Calls Tryz.prog 29 #[pval p] W (Gives (tB p) W))) := Lib.hid (fun W hW => by
    have hr2 := hr.below (HX.out.1.trans (hW.mono HX.out.1.size))
    refine ⟨fun h1 => ?_, fun h4 => ?_, fun h5 => ?_, fun h6 => ?_⟩
    · have e : tB p = Pul.pulB p := by unfold tB; rw [if_neg (by omega), if_neg (by omega), if_neg (by omega)]
      rw [e]
      exact Pul.pbytes_any p W
    · have e : tB p = sev p.body.length ++ p.body := by unfold tB; rw [if_pos h4]
      rw [e]
      have hb := h
      rw [seaG_4 h4] at hb
      have := good_len hb
      exact rdat_any p W (by omega) hr2 (hn (.inl h4))
    · have e : tB p = sev (un p.no) := by unfold tB; rw [if_neg (by omega), if_pos h5]
      rw [e]
      exact Att.abytes_any p W
    · have e : tB p = Chu.chuB p := by unfold tB; rw [if_neg (by omega), if_neg (by omega), if_pos h6]
      rw [e]
      have hb := h
      rw [seaG_6 h6] at hb
      obtain ⟨-, -, -, -, -, hb, -, -⟩ := (Chu.chuG_iff p).1 hb
      exact Chu.rcbytes_any p W (by omega) hr2 (hn (.inr h6)))
  have CS : Hid (∀ W ad cap, OwnB W w.heap.size (.slice ad (inB p).length cap) (inB p) → Below w.heap.size w W → Calls Tryz.prog 30 #[.slice ad (inB p).length cap] W (Gives (Crc.sealB (inB p)) w)) := Lib.hid (fun W ad cap ho hB => by
    obtain ⟨p1, p2, p3, -⟩ := ho.pos
    refine (Crc.rseal_any ad (inB p).length cap (inB p) W rfl (by omega) ho.rd.1 p3 p1).mono fun e w' hp => ?_
    obtain ⟨ad', cap', e1, e2, e3⟩ := hp
    exact ⟨ad', cap', e1, Own.mono e2 hB.size, hB.trans (e3.mono hB.size)⟩)
  have HI : Hid (headB p ++ tB p = inB p) := Lib.hid rfl
  have HLn : Hid ((headB p).length ≤ 30 ∧ (tB p).length ≤ 1040) := Lib.hid ⟨hh.2, ht⟩
  clear hr hn hl hh ht h
  generalize Crc.sealB (inB p) = sb at *
  generalize inB p = ib at *
  generalize headB p = hb at *
  generalize tB p = tb at *
  have hkind : p.kind < 4 ∨ p.kind = 4 ∨ p.kind = 5 ∨ p.kind = 6 := by omega
  unfold pval
  rcases hkind with h1 | h4 | h5 | h6
  · have n4 : (p.kind == 4) = false := by simp; omega
    have n5 : (p.kind == 5) = false := by simp; omega
    have n6 : (p.kind == 6) = false := by simp; omega
    have CT1 : Hid (∀ W, Below wb.heap.size wb W → Calls Tryz.prog 26 #[pval p] W (Gives tb W)) := Lib.hid (fun W hW => (CT.out W hW).1 h1)
    clear CT
    go_enter Tryz.func11, Tryz.ntmps11
    go_upto_region 1 with fail
    rw [← hwb.out]
    go_wp2_with (refine load_pk rfl _ rfl w.heap.size rfl p HX.out.2 ?_)
    refine (CH.out).mono ?_; rintro e w1 ⟨ad1, cap1, rfl, ho1, hB1⟩
    have HP1 := Lib.hid (HX.out.2.below hB1)
    have k0 : w1.cell? ⟨w.heap.size, 0, none⟩ = some (.int .i64 p.kind) := HP1.out.cell 0
    have HB1 := Lib.hid hB1
    have HO1 := Lib.hid ho1
    have CT2 := Lib.hid (CT1.out w1 hB1)
    clear ho1 hB1 CT1 CH
    go_wp2_with (refine load_pk rfl _ rfl w.heap.size rfl p HP1.out ?_)
    refine (CT2.out).mono ?_; rintro e w2 ⟨ad2, cap2, rfl, ho2, hB2⟩
    have HO12 := Lib.hid (HO1.out.below hB2)
    have HR2 := Lib.hid ho2.rd.1
    have HN2 := Lib.hid ho2.pos.2.2.1
    have HP2 := Lib.hid (HP1.out.below hB2)
    have HB2 := Lib.hid (HB1.out.trans (hB2.mono HB1.out.size))
    have HS2 := Lib.hid HB2.out.size
    clear ho2 hB2 HO1 CT2 k0 HP1 HB1
    go_upto_region 4 with (at_builtin; refine app_step rfl _ _ rfl wb.heap.size ad1 _ cap1 hb rfl HO12.out ad2 _ cap2 tb rfl rfl HR2.out HN2.out (by have := HLn.out; omega) HS2.out ?_; intro l9 ad9 cap9 w9 hl9 ho9 hb9 _)
    have hl9e : l9 = ib := by rw [hl9.out, HI.out]
    subst hl9e
    have HP9 := Lib.hid (HP2.out.below2 hb9 HX.out.2.lt)
    have k9 : w9.cell? ⟨w.heap.size, 0, none⟩ = some (.int .i64 p.kind) := HP9.out.cell 0
    have CS9 := Lib.hid (CS.out w9 ad9 cap9 (Own.mono ho9 HX.out.1.size) (HX.out.1.trans ((HB2.out.trans hb9).mono HX.out.1.size)))
    clear ho9 hb9 hl9 HP2 HB2 HR2 HN2 HO12 HS2 CS
    go_wp2_with fail
    refine (CS9.out).mono ?_; rintro e w10 ⟨ad10, cap10, rfl, ho10, hB10⟩
    have HF := Lib.hid (And.intro ho10 hB10)
    clear ho10 hB10
    go_wp2_with fail
    go_ret
    exact ⟨ad10, cap10, rfl, HF.out.1, HF.out.2⟩
  · have n1 : ¬ p.kind < 4 := by omega
    have n4 : (p.kind == 4) = true := by simp [h4]
    have n5 : (p.kind == 5) = false := by simp; omega
    have n6 : (p.kind == 6) = false := by simp; omega
    have CT1 : Hid (∀ W, Below wb.heap.size wb W → Calls Tryz.prog 27 #[pval p] W (Gives tb W)) := Lib.hid (fun W hW => (CT.out W hW).2.1 h4)
    clear CT
    go_enter Tryz.func11, Tryz.ntmps11
    go_upto_region 1 with fail
    rw [← hwb.out]
    go_wp2_with (refine load_pk rfl _ rfl w.heap.size rfl p HX.out.2 ?_)
    refine (CH.out).mono ?_; rintro e w1 ⟨ad1, cap1, rfl, ho1, hB1⟩
    have HP1 := Lib.hid (HX.out.2.below hB1)
    have k0 : w1.cell? ⟨w.heap.size, 0, none⟩ = some (.int .i64 p.kind) := HP1.out.cell 0
    have HB1 := Lib.hid hB1
    have HO1 := Lib.hid ho1
    have CT2 := Lib.hid (CT1.out w1 hB1)
    clear ho1 hB1 CT1 CH
    go_wp2_with (refine load_pk rfl _ rfl w.heap.size rfl p HP1.out ?_)
    refine (CT2.out).mono ?_; rintro e w2 ⟨ad2, cap2, rfl, ho2, hB2⟩
    have HO12 := Lib.hid (HO1.out.below hB2)
    have HR2 := Lib.hid ho2.rd.1
    have HN2 := Lib.hid ho2.pos.2.2.1
    have HP2 := Lib.hid (HP1.out.below hB2)
    have HB2 := Lib.hid (HB1.out.trans (hB2.mono HB1.out.size))
    have HS2 := Lib.hid HB2.out.size
    clear ho2 hB2 HO1 CT2 k0 HP1 HB1
    go_upto_region 6 with (at_builtin; refine app_step rfl _ _ rfl wb.heap.size ad1 _ cap1 hb rfl HO12.out ad2 _ cap2 tb rfl rfl HR2.out HN2.out (by have := HLn.out; omega) HS2.out ?_; intro l9 ad9 cap9 w9 hl9 ho9 hb9 _)
    have hl9e : l9 = ib := by rw [hl9.out, HI.out]
    subst hl9e
    have HP9 := Lib.hid (HP2.out.below2 hb9 HX.out.2.lt)
    have k9 : w9.cell? ⟨w.heap.size, 0, none⟩ = some (.int .i64 p.kind) := HP9.out.cell 0
    have CS9 := Lib.hid (CS.out w9 ad9 cap9 (Own.mono ho9 HX.out.1.size) (HX.out.1.trans ((HB2.out.trans hb9).mono HX.out.1.size)))
    clear ho9 hb9 hl9 HP2 HB2 HR2 HN2 HO12 HS2 CS
    go_wp2_with fail
    refine (CS9.out).mono ?_; rintro e w10 ⟨ad10, cap10, rfl, ho10, hB10⟩
    have HF := Lib.hid (And.intro ho10 hB10)
    clear ho10 hB10
    go_wp2_with fail
    go_ret
    exact ⟨ad10, cap10, rfl, HF.out.1, HF.out.2⟩
  · have n1 : ¬ p.kind < 4 := by omega
    have n4 : (p.kind == 4) = false := by simp; omega
    have n5 : (p.kind == 5) = true := by simp [h5]
    have n6 : (p.kind == 6) = false := by simp; omega
    have CT1 : Hid (∀ W, Below wb.heap.size wb W → Calls Tryz.prog 28 #[pval p] W (Gives tb W)) := Lib.hid (fun W hW => (CT.out W hW).2.2.1 h5)
    clear CT
    go_enter Tryz.func11, Tryz.ntmps11
    go_upto_region 1 with fail
    rw [← hwb.out]
    go_wp2_with (refine load_pk rfl _ rfl w.heap.size rfl p HX.out.2 ?_)
    refine (CH.out).mono ?_; rintro e w1 ⟨ad1, cap1, rfl, ho1, hB1⟩
    have HP1 := Lib.hid (HX.out.2.below hB1)
    have k0 : w1.cell? ⟨w.heap.size, 0, none⟩ = some (.int .i64 p.kind) := HP1.out.cell 0
    have HB1 := Lib.hid hB1
    have HO1 := Lib.hid ho1
    have CT2 := Lib.hid (CT1.out w1 hB1)
    clear ho1 hB1 CT1 CH
    go_wp2_with (refine load_pk rfl _ rfl w.heap.size rfl p HP1.out ?_)
    refine (CT2.out).mono ?_; rintro e w2 ⟨ad2, cap2, rfl, ho2, hB2⟩
    have HO12 := Lib.hid (HO1.out.below hB2)
    have HR2 := Lib.hid ho2.rd.1
    have HN2 := Lib.hid ho2.pos.2.2.1
    have HP2 := Lib.hid (HP1.out.below hB2)
    have HB2 := Lib.hid (HB1.out.trans (hB2.mono HB1.out.size))
    have HS2 := Lib.hid HB2.out.size
    clear ho2 hB2 HO1 CT2 k0 HP1 HB1
    go_upto_region 8 with (at_builtin; refine app_step rfl _ _ rfl wb.heap.size ad1 _ cap1 hb rfl HO12.out ad2 _ cap2 tb rfl rfl HR2.out HN2.out (by have := HLn.out; omega) HS2.out ?_; intro l9 ad9 cap9 w9 hl9 ho9 hb9 _)
    have hl9e : l9 = ib := by rw [hl9.out, HI.out]
    subst hl9e
    have HP9 := Lib.hid (HP2.out.below2 hb9 HX.out.2.lt)
    have k9 : w9.cell? ⟨w.heap.size, 0, none⟩ = some (.int .i64 p.kind) := HP9.out.cell 0
    have CS9 := Lib.hid (CS.out w9 ad9 cap9 (Own.mono ho9 HX.out.1.size) (HX.out.1.trans ((HB2.out.trans hb9).mono HX.out.1.size)))
    clear ho9 hb9 hl9 HP2 HB2 HR2 HN2 HO12 HS2 CS
    go_wp2_with fail
    refine (CS9.out).mono ?_; rintro e w10 ⟨ad10, cap10, rfl, ho10, hB10⟩
    have HF := Lib.hid (And.intro ho10 hB10)
    clear ho10 hB10
    go_wp2_with fail
    go_ret
    exact ⟨ad10, cap10, rfl, HF.out.1, HF.out.2⟩
  · have n1 : ¬ p.kind < 4 := by omega
    have n4 : (p.kind == 4) = false := by simp; omega
    have n5 : (p.kind == 5) = false := by simp; omega
    have n6 : (p.kind == 6) = true := by simp [h6]
    have CT1 : Hid (∀ W, Below wb.heap.size wb W → Calls Tryz.prog 29 #[pval p] W (Gives tb W)) := Lib.hid (fun W hW => (CT.out W hW).2.2.2 h6)
    clear CT
    go_enter Tryz.func11, Tryz.ntmps11
    go_upto_region 1 with fail
    rw [← hwb.out]
    go_wp2_with (refine load_pk rfl _ rfl w.heap.size rfl p HX.out.2 ?_)
    refine (CH.out).mono ?_; rintro e w1 ⟨ad1, cap1, rfl, ho1, hB1⟩
    have HP1 := Lib.hid (HX.out.2.below hB1)
    have k0 : w1.cell? ⟨w.heap.size, 0, none⟩ = some (.int .i64 p.kind) := HP1.out.cell 0
    have HB1 := Lib.hid hB1
    have HO1 := Lib.hid ho1
    have CT2 := Lib.hid (CT1.out w1 hB1)
    clear ho1 hB1 CT1 CH
    go_wp2_with (refine load_pk rfl _ rfl w.heap.size rfl p HP1.out ?_)
    refine (CT2.out).mono ?_; rintro e w2 ⟨ad2, cap2, rfl, ho2, hB2⟩
    have HO12 := Lib.hid (HO1.out.below hB2)
    have HR2 := Lib.hid ho2.rd.1
    have HN2 := Lib.hid ho2.pos.2.2.1
    have HP2 := Lib.hid (HP1.out.below hB2)
    have HB2 := Lib.hid (HB1.out.trans (hB2.mono HB1.out.size))
    have HS2 := Lib.hid HB2.out.size
    clear ho2 hB2 HO1 CT2 k0 HP1 HB1
    go_upto_region 10 with (at_builtin; refine app_step rfl _ _ rfl wb.heap.size ad1 _ cap1 hb rfl HO12.out ad2 _ cap2 tb rfl rfl HR2.out HN2.out (by have := HLn.out; omega) HS2.out ?_; intro l9 ad9 cap9 w9 hl9 ho9 hb9 _)
    have hl9e : l9 = ib := by rw [hl9.out, HI.out]
    subst hl9e
    have HP9 := Lib.hid (HP2.out.below2 hb9 HX.out.2.lt)
    have k9 : w9.cell? ⟨w.heap.size, 0, none⟩ = some (.int .i64 p.kind) := HP9.out.cell 0
    have CS9 := Lib.hid (CS.out w9 ad9 cap9 (Own.mono ho9 HX.out.1.size) (HX.out.1.trans ((HB2.out.trans hb9).mono HX.out.1.size)))
    clear ho9 hb9 hl9 HP2 HB2 HR2 HN2 HO12 HS2 CS
    go_wp2_with fail
    refine (CS9.out).mono ?_; rintro e w10 ⟨ad10, cap10, rfl, ho10, hB10⟩
    have HF := Lib.hid (And.intro ho10 hB10)
    clear ho10 hB10
    go_wp2_with fail
    go_ret
    exact ⟨ad10, cap10, rfl, HF.out.1, HF.out.2⟩
end Go.Proofs.YtanfnhgaooafeaaGreatDoor.Sea
