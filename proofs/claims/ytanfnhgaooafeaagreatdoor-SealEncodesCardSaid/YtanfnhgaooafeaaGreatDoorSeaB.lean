/- Contracts (layer 14): Good, by what a kind has; the document's Good. -/
import Derived.Test.YtanfnhgaooafeaaGreatDoorSeaA
import Derived.Test.YtanfnhgaooafeaaGreatDoorSeaM
import Derived.Test.YtanfnhgaooafeaaGreatDoorPulY
import Derived.Test.YtanfnhgaooafeaaGreatDoorAttB
import Derived.Test.YtanfnhgaooafeaaGreatDoorChuB
import Derived.Test.YtanfnhgaooafeaaGreatDoorDatC
namespace Go.Proofs.YtanfnhgaooafeaaGreatDoor.Sea
open Go.ChangeShapes Go.WideShapes Go.ChangeAt Go.RowKit Go.Deep
open Go.Proofs.YtanfnhgaooafeaaGreatDoor.Byt Go.Proofs.YtanfnhgaooafeaaGreatDoor.Key Go.Proofs.YtanfnhgaooafeaaGreatDoor.Buf Go.Proofs.YtanfnhgaooafeaaGreatDoor.Hed Go.Proofs.YtanfnhgaooafeaaGreatDoor.Dat Go.Proofs.YtanfnhgaooafeaaGreatDoor.BufM Go.Proofs.YtanfnhgaooafeaaGreatDoor.Pkt
set_option linter.unusedVariables false
set_option linter.unusedSimpArgs false
set_option maxRecDepth 100000 in
set_option maxHeartbeats 1000000 in
theorem good_fn (p : Pk) (fg fp fr : Nat) (b : Bool) (w : World) (CR : ∀ W, Calls Tryz.prog 13 #[.int .i64 p.kind] W (RPs (fcs fg fp fr) true W))
    (eg : ∀ args w, (callFunc fg args).run Tryz.prog w = .ok (.enter fg args) w) (Cg : ∀ W, Below w.heap.size w W → Calls Tryz.prog fg #[pval p] W fun e w' => e = .returned (.bool b) ∧ Below W.heap.size W w') :
    Calls Tryz.prog 6 #[pval p] w fun e w' => e = .returned (.bool b) ∧ Below w.heap.size w w' := by
  obtain ⟨wb, hwb⟩ : ∃ wb, Hid (wb = w.alloc (.cells p.cells 27)) := ⟨_, Lib.hid rfl⟩
  have HX := Lib.hid (one_box w wb _ _ hwb.out)
  have hk : wb.cell? ⟨w.heap.size, 0, none⟩ = some (.int .i64 p.kind) := HX.out.2.cell 0
  have CR := Lib.hid CR
  have CG := Lib.hid Cg
  have HO : Hid ((fcs fg fp fr).all (·.oneCell') = true) := Lib.hid (by simp [fcs, Value.oneCell'])
  clear Cg
  unfold fcs at CR HO
  unfold RPs at CR
  unfold pval
  go_enter Tryz.func6, Tryz.ntmps6
  go_upto_region 1 with fail
  rw [← hwb.out]
  go_wp2_with fail
  refine (CR.out _).mono ?_; rintro e w1 ⟨rfl, hB1⟩
  have HB1 := Lib.hid hB1
  clear hB1
  go_upto_region 2 with (refine wpList_store_row rfl 42 _ _ rfl w1.heap.size #[.func (.func fg) #[] #[], .func (.func fp) #[] #[], .func (.func fr) #[] #[]] rfl rfl 42 #[.nilFunc, .nilFunc, .nilFunc] (heap_alloc_last w1 _) infoRest rfl HO.out ?_)
  obtain ⟨W2, hW2⟩ : ∃ W2, Hid (W2 = (w1.alloc (.cells #[.nilFunc, .nilFunc, .nilFunc] 42)).setRow w1.heap.size #[.func (.func fg) #[] #[], .func (.func fp) #[] #[], .func (.func fr) #[] #[]]) := ⟨_, Lib.hid rfl⟩
  rw [← hW2.out]
  have HB2 : Hid (Below wb.heap.size wb W2) := Lib.hid (by rw [hW2.out]; exact below_setRow (HB1.out.alloc HB1.out.size _) HB1.out.size _)
  have HR2 : Hid (Blk W2 w1.heap.size 42 #[.func (.func fg) #[] #[], .func (.func fp) #[] #[], .func (.func fr) #[] #[]]) := Lib.hid (by rw [hW2.out]; exact Blk.row (Blk.new w1 _ _) _ rfl)
  have k0 : W2.cell? ⟨w1.heap.size, 0, none⟩ = some (.func (.func fg) #[] #[]) := HR2.out.cell 0
  have HP2 := Lib.hid (HX.out.2.below HB2.out)
  have CG2 := CG.out W2 (HX.out.1.trans (HB2.out.mono HX.out.1.size))
  clear hk
  go_wp2_with (first
    | (refine load_pk rfl _ rfl w.heap.size rfl p HP2.out ?_)
    | (go_at_fn fg; refine CG2.mono ?_; rintro e w3 ⟨rfl, hB3⟩))
  go_ret
  exact ⟨rfl, HX.out.1.trans ((HB2.out.trans (hB3.mono HB2.out.size)).mono HX.out.1.size)⟩
set_option maxRecDepth 100000 in
set_option maxHeartbeats 1000000 in
theorem good_none (p : Pk) (w : World) (CR : ∀ W, Calls Tryz.prog 13 #[.int .i64 p.kind] W (RPs #[.nilFunc, .nilFunc, .nilFunc] false W)) :
    Calls Tryz.prog 6 #[pval p] w fun e w' => e = .returned (.bool false) ∧ Below w.heap.size w w' := by
  obtain ⟨wb, hwb⟩ : ∃ wb, Hid (wb = w.alloc (.cells p.cells 27)) := ⟨_, Lib.hid rfl⟩
  have HX := Lib.hid (one_box w wb _ _ hwb.out)
  have hk : wb.cell? ⟨w.heap.size, 0, none⟩ = some (.int .i64 p.kind) := HX.out.2.cell 0
  have CR := Lib.hid CR
  have HO : Hid (Array.all (#[.nilFunc, .nilFunc, .nilFunc] : Array Value) (·.oneCell') = true) := Lib.hid (by simp [Value.oneCell'])
  unfold RPs at CR
  unfold pval
  go_enter Tryz.func6, Tryz.ntmps6
  go_upto_region 1 with fail
  rw [← hwb.out]
  go_wp2_with fail
  refine (CR.out _).mono ?_; rintro e w1 ⟨rfl, hB1⟩
  go_upto_region 2 with (refine wpList_store_row rfl 42 _ _ rfl w1.heap.size #[.nilFunc, .nilFunc, .nilFunc] rfl rfl 42 #[.nilFunc, .nilFunc, .nilFunc] (heap_alloc_last w1 _) infoRest rfl HO.out ?_)
  go_wp2_with fail
  go_ret
  exact ⟨rfl, HX.out.1.trans ((below_setRow (hB1.alloc hB1.size _) hB1.size _).mono HX.out.1.size)⟩
/-- Good. -/
theorem sgood_any (p : Pk) (w : World) (hr : RdB w p.ad p.body) :
    Calls Tryz.prog 6 #[pval p] w fun e w' => e = .returned (.bool (seaG p)) ∧ Below w.heap.size w w' := by
  by_cases h4 : p.kind = 4
  · rw [seaG_4 h4]
    exact good_fn p _ _ _ _ w (fun W => rest_4 p.kind h4 W) (enters_of Tryz.func34 (by kernel_rfl) rfl) (fun W hW => dgood_any p W (hr.below hW))
  · by_cases h5 : p.kind = 5
    · rw [seaG_5 h5]
      exact good_fn p _ _ _ _ w (fun W => rest_5 p.kind h5 W) (enters_of Tryz.func37 (by kernel_rfl) rfl) (fun W hW => Att.agood_any p W (hr.below hW))
    · by_cases h6 : p.kind = 6
      · rw [seaG_6 h6]
        exact good_fn p _ _ _ _ w (fun W => rest_6 p.kind h6 W) (enters_of Tryz.func40 (by kernel_rfl) rfl) (fun W hW => Chu.cgood_any p W)
      · by_cases h1 : p.kind = 1 ∨ p.kind = 2 ∨ p.kind = 3
        · rw [seaG_123 h4 h5 h6]
          exact good_fn p _ _ _ _ w (fun W => rest_123 p.kind h1 W) (enters_of Tryz.func31 (by kernel_rfl) rfl) (fun W hW => Pul.pgood_any p W (hr.below hW))
        · have hn : ¬ (1 ≤ p.kind ∧ p.kind ≤ 6) := by omega
          rw [seaG_none hn]
          exact good_none p w (fun W => rest_none p.kind hn W)
set_option maxRecDepth 100000 in
set_option maxHeartbeats 2000000 in
/-- The document's Good. -/
theorem rsgood_any (p : Pk) (w : World) (hr : RdB w p.ad p.body) :
    Calls Tryz.prog 7 #[pval p] w fun e w' => e = .returned (.bool (seaG p)) ∧ Below w.heap.size w w' := by
  obtain ⟨wb, hwb⟩ : ∃ wb, Hid (wb = w.alloc (.cells p.cells 27)) := ⟨_, Lib.hid rfl⟩
  have HX := Lib.hid (one_box w wb _ _ hwb.out)
  have HB : Hid (∀ W, Below wb.heap.size wb W → Blk W w.heap.size 27 p.cells) := Lib.hid (fun W hW => HX.out.2.below hW)
  have HR : Hid (∀ W, Below wb.heap.size wb W → RdB W p.ad p.body) := Lib.hid (fun W hW => hr.below (HX.out.1.trans (hW.mono HX.out.1.size)))
  have C1 : Hid (∀ W, Below wb.heap.size wb W → Calls Tryz.prog 18 #[pval p] W fun e w' => e = .returned (.bool (Pul.pulG p)) ∧ Below wb.heap.size wb w') := Lib.hid (fun W hW => (Pul.refpulse_any p W (HR.out W hW)).mono fun e w' h => ⟨h.1, hW.trans (h.2.mono hW.size)⟩)
  have C2 : Hid (∀ W, Below wb.heap.size wb W → Calls Tryz.prog 19 #[pval p] W fun e w' => e = .returned (.bool (datG p)) ∧ Below wb.heap.size wb w') := Lib.hid (fun W hW => (refgood_any p W (HR.out W hW)).mono fun e w' h => ⟨h.1, hW.trans (h.2.mono hW.size)⟩)
  have C3 : Hid (∀ W, Below wb.heap.size wb W → Calls Tryz.prog 20 #[pval p] W fun e w' => e = .returned (.bool (Att.attG p)) ∧ Below wb.heap.size wb w') := Lib.hid (fun W hW => (Att.ragood_any p W (HR.out W hW)).mono fun e w' h => ⟨h.1, hW.trans (h.2.mono hW.size)⟩)
  have C4 : Hid (∀ W, Below wb.heap.size wb W → Calls Tryz.prog 21 #[pval p] W fun e w' => e = .returned (.bool (Chu.chuG p)) ∧ Below wb.heap.size wb w') := Lib.hid (fun W hW => (Chu.rcgood_any p W).mono fun e w' h => ⟨h.1, hW.trans (h.2.mono hW.size)⟩)
  unfold seaG
  generalize Pul.pulG p = b1 at *
  generalize datG p = b2 at *
  generalize Att.attG p = b3 at *
  generalize Chu.chuG p = b4 at *
  clear hr
  have h0 := Below.refl wb.heap.size wb
  unfold pval
  go_enter Tryz.func7, Tryz.ntmps7
  go_upto_region 1 with fail
  rw [← hwb.out]
  cases b1
  all_goals try cases b2
  all_goals try cases b3
  all_goals try cases b4
  all_goals
    go_wp2_with (first
      | (refine load_pk rfl _ rfl w.heap.size rfl p (HB.out _ (by assumption)) ?_)
      | (go_at_call 18; (with_reducible refine (C1.out _ ?_).mono ?_); (focus assumption); rintro e w1 ⟨rfl, hB1⟩)
      | (go_at_call 19; (with_reducible refine (C2.out _ ?_).mono ?_); (focus assumption); rintro e w2 ⟨rfl, hB2⟩)
      | (go_at_call 20; (with_reducible refine (C3.out _ ?_).mono ?_); (focus assumption); rintro e w3 ⟨rfl, hB3⟩)
      | (go_at_call 21; (with_reducible refine (C4.out _ ?_).mono ?_); (focus assumption); rintro e w4 ⟨rfl, hB4⟩))
    go_ret
    exact ⟨rfl, HX.out.1.trans ((by assumption : Below wb.heap.size wb _).mono HX.out.1.size)⟩
end Go.Proofs.YtanfnhgaooafeaaGreatDoor.Sea
