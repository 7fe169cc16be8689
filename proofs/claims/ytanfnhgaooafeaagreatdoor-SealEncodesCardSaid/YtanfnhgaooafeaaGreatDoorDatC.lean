/- May a packet be (layer 10): isBare, Good; the document's Good. -/
import Derived.Test.YtanfnhgaooafeaaGreatDoorDatX
import Derived.Test.YtanfnhgaooafeaaGreatDoorHedH
namespace Go.Proofs.YtanfnhgaooafeaaGreatDoor.Dat
open Go.ChangeShapes Go.WideShapes Go.ChangeAt Go.RowKit Go.Deep
open Go.Proofs.YtanfnhgaooafeaaGreatDoor.Byt Go.Proofs.YtanfnhgaooafeaaGreatDoor.Key Go.Proofs.YtanfnhgaooafeaaGreatDoor.Buf Go.Proofs.YtanfnhgaooafeaaGreatDoor.Hed
set_option linter.unusedVariables false
set_option linter.unusedSimpArgs false
/-- Nothing but a head and a body. -/
def bareP (p : Pk) : Pk := ⟨p.kind, p.key, p.hops, 0, 0, 0, 0, 0, 0, p.ad, p.cap, p.body⟩
/-- May the packet be? -/
def datG (p : Pk) : Bool := eqP p (mk4 p.key p.hops p.ad p.cap p.body) && (gd p && decide ((p.body.length : Int) < 1025))
theorem eqP_bare (p : Pk) : eqP p (mk4 p.key p.hops p.ad p.cap p.body) = ((p.kind == 4) && eqP p (bareP p)) := by
  unfold eqP bareP mk4
  simp
theorem len_1024 (n : Nat) : decide ((n : Int) < 1025) = decide ((n : Int) ≤ 1024) := by
  rw [Bool.eq_iff_iff, decide_eq_true_iff, decide_eq_true_iff]
  omega
theorem datG_bare (p : Pk) : datG p = ((p.kind == 4) && (gd p && (decide ((p.body.length : Int) ≤ 1024) && eqP p (bareP p)))) := by
  unfold datG
  rw [eqP_bare]
  rw [len_1024 p.body.length]
  generalize (p.kind == 4) = a
  generalize gd p = b
  generalize decide ((p.body.length : Int) ≤ 1024) = c
  generalize eqP p (bareP p) = d
  cases a <;> cases b <;> cases c <;> cases d <;> rfl
set_option maxRecDepth 100000 in
set_option maxHeartbeats 1000000 in
theorem isbare_any (p : Pk) (w : World) (hr : RdB w p.ad p.body) :
    Calls Tryz.prog 71 #[pval p] w fun e w' => e = .returned (.bool (eqP p (bareP p))) ∧ Below w.heap.size w w' := by
  obtain ⟨wb, hwb⟩ : ∃ wb, Hid (wb = w.alloc (.cells p.cells 27)) := ⟨_, Lib.hid rfl⟩
  have HB0 := Lib.hid (one_box w wb _ _ hwb.out).1
  have HC := Lib.hid (pk_cells w wb p hwb.out)
  have CS := Lib.hid (fun W (hW : Below wb.heap.size wb W) => hsame_any p (bareP p) W (hr.below (HB0.out.trans (hW.mono HB0.out.size))) (hr.below (HB0.out.trans (hW.mono HB0.out.size))))
  generalize eqP p (bareP p) = sb at *
  unfold bareP pval Pk.cells at CS
  obtain ⟨kind, ⟨t, f, s⟩, hops, no, to, index, total, stamp, value, ad, cap, body⟩ := p
  unfold Pk.cells at hwb
  unfold pval Pk.cells
  simp only at CS hwb HC ⊢
  clear hr
  go_enter Tryz.func71, Tryz.ntmps71
  go_upto_region 1 with fail
  rw [← hwb.out]
  obtain ⟨c0, c1, c2, c3, c4, c5, c6, c7, c8, c9, c10, c11⟩ := HC.out wb (Below.refl _ _)
  go_wp2_with fail
  refine (CS.out _ (Below.refl _ _)).mono ?_; rintro e w1 ⟨rfl, hB1⟩
  have HB1 := Lib.hid hB1
  clear hB1
  go_wp2_with fail
  go_ret
  exact ⟨rfl, HB0.out.trans (HB1.out.mono HB0.out.size)⟩
set_option maxRecDepth 100000 in
set_option maxHeartbeats 1000000 in
theorem dgood_any (p : Pk) (w : World) (hr : RdB w p.ad p.body) :
    Calls Tryz.prog 34 #[pval p] w fun e w' => e = .returned (.bool (datG p)) ∧ Below w.heap.size w w' := by
  obtain ⟨wb, hwb⟩ : ∃ wb, Hid (wb = w.alloc (.cells p.cells 27)) := ⟨_, Lib.hid rfl⟩
  have HB0 := Lib.hid (one_box w wb _ _ hwb.out).1
  have HC := Lib.hid (pk_cells w wb p hwb.out)
  have CG := Lib.hid (fun W => good_any p W)
  have CB := Lib.hid (fun W (hW : Below wb.heap.size wb W) => isbare_any p W (hr.below (HB0.out.trans (hW.mono HB0.out.size))))
  rw [datG_bare]
  generalize eqP p (bareP p) = sb at *
  generalize gd p = gb at *
  obtain ⟨kind, ⟨t, f, s⟩, hops, no, to, index, total, stamp, value, ad, cap, body⟩ := p
  unfold pval Pk.cells at CG CB
  unfold Pk.cells at hwb
  unfold pval Pk.cells
  simp only at CG CB hwb HC ⊢
  obtain ⟨n, hn⟩ : ∃ n, body.length = n := ⟨_, rfl⟩
  simp only [hn] at CG CB hwb HC ⊢
  clear hn hr
  obtain ⟨ck, hck⟩ : ∃ ck, (kind == 4) = ck := ⟨_, rfl⟩
  obtain ⟨cl, hcl⟩ : ∃ cl, decide ((n : Int) ≤ 1024) = cl := ⟨_, rfl⟩
  rw [hck, hcl]
  cases ck with
  | false =>
    go_enter Tryz.func34, Tryz.ntmps34
    go_upto_region 1 with fail
    rw [← hwb.out]
    obtain ⟨c0, c1, c2, c3, c4, c5, c6, c7, c8, c9, c10, c11⟩ := HC.out wb (Below.refl _ _)
    go_wp2_with fail
    go_ret
    exact ⟨rfl, HB0.out⟩
  | true =>
    cases gb with
    | false =>
      go_enter Tryz.func34, Tryz.ntmps34
      go_upto_region 1 with fail
      rw [← hwb.out]
      obtain ⟨c0, c1, c2, c3, c4, c5, c6, c7, c8, c9, c10, c11⟩ := HC.out wb (Below.refl _ _)
      go_wp2_with fail
      refine (CG.out _).mono ?_; rintro e w1 ⟨rfl, hB1⟩
      have HB1 := Lib.hid (HB0.out.trans (hB1.mono HB0.out.size))
      clear hB1
      go_wp2_with fail
      go_ret
      exact ⟨rfl, HB1.out⟩
    | true =>
      cases cl with
      | false =>
        go_enter Tryz.func34, Tryz.ntmps34
        go_upto_region 1 with fail
        rw [← hwb.out]
        obtain ⟨c0, c1, c2, c3, c4, c5, c6, c7, c8, c9, c10, c11⟩ := HC.out wb (Below.refl _ _)
        go_wp2_with fail
        refine (CG.out _).mono ?_; rintro e w1 ⟨rfl, hB1⟩
        have HB1 := Lib.hid hB1
        clear hB1 c0 c1 c2 c3 c4 c5 c6 c7 c8 c9 c10 c11
        obtain ⟨c0, c1, c2, c3, c4, c5, c6, c7, c8, c9, c10, c11⟩ := HC.out w1 HB1.out
        go_wp2_with fail
        go_ret
        exact ⟨rfl, HB0.out.trans (HB1.out.mono HB0.out.size)⟩
      | true =>
        go_enter Tryz.func34, Tryz.ntmps34
        go_upto_region 1 with fail
        rw [← hwb.out]
        obtain ⟨c0, c1, c2, c3, c4, c5, c6, c7, c8, c9, c10, c11⟩ := HC.out wb (Below.refl _ _)
        go_wp2_with fail
        refine (CG.out _).mono ?_; rintro e w1 ⟨rfl, hB1⟩
        have HB1 := Lib.hid hB1
        clear hB1 c0 c1 c2 c3 c4 c5 c6 c7 c8 c9 c10 c11
        obtain ⟨c0, c1, c2, c3, c4, c5, c6, c7, c8, c9, c10, c11⟩ := HC.out w1 HB1.out
        go_wp2_with fail
        refine (CB.out _ HB1.out).mono ?_; rintro e w2 ⟨rfl, hB2⟩
        have HB2 := Lib.hid (HB1.out.trans (hB2.mono HB1.out.size))
        clear hB2
        go_wp2_with fail
        go_ret
        exact ⟨rfl, HB0.out.trans (HB2.out.mono HB0.out.size)⟩
set_option maxRecDepth 100000 in
set_option maxHeartbeats 2000000 in
theorem refgood_any (p : Pk) (w : World) (hr : RdB w p.ad p.body) :
    Calls Tryz.prog 19 #[pval p] w fun e w' => e = .returned (.bool (datG p)) ∧ Below w.heap.size w w' := by
  obtain ⟨wb, hwb⟩ : ∃ wb, Hid (wb = w.alloc (.cells p.cells 27)) := ⟨_, Lib.hid rfl⟩
  have HB0 := Lib.hid (one_box w wb _ _ hwb.out).1
  have HC := Lib.hid (pk_cells w wb p hwb.out)
  have CG := Lib.hid (fun W => rgood_any p W)
  have CN := Lib.hid (fun W => rnew_any p.key p.ad p.cap p.body W)
  have CS := Lib.hid (fun W (hW : Below wb.heap.size wb W) => rsame_any p (mk4 p.key p.hops p.ad p.cap p.body) W (hr.below (HB0.out.trans (hW.mono HB0.out.size))) (hr.below (HB0.out.trans (hW.mono HB0.out.size))))
  unfold datG
  generalize eqP p (mk4 p.key p.hops p.ad p.cap p.body) = sb at *
  generalize gd p = gb at *
  unfold mk4 pval Pk.cells at CS CN
  unfold pval Pk.cells at CG
  unfold kval at CN
  obtain ⟨kind, ⟨t, f, s⟩, hops, no, to, index, total, stamp, value, ad, cap, body⟩ := p
  unfold Pk.cells at hwb
  unfold pval Pk.cells
  simp only at CG CN CS hwb HC ⊢
  have HD := Lib.hid (fun (W : World) (b : Nat) (h : Blk W b 27 (Pk.cells (mk4 (t, f, s) hops ad cap body))) => blk_cells h)
  unfold mk4 at HD
  simp only at HD
  obtain ⟨n, hn⟩ : ∃ n, body.length = n := ⟨_, rfl⟩
  simp only [hn] at CG CN CS hwb HC HD ⊢
  have HE : Hid (∀ (W : World) (b : Nat), Blk W b 27 #[.int .i64 4, .int .i64 t, .int .i64 f, .int .u32 s, .int .i64 hops, .int .i64 0, .int .i64 0, .int .i64 0, .int .i64 0, .int .i64 0, .int .i64 0, .slice ad n cap] → _ ∧ _) := Lib.hid (fun W b h => HD.out W b (by unfold Pk.cells; simp only [hn]; exact h))
  clear hn hr HD
  go_enter Tryz.func19, Tryz.ntmps19
  go_upto_region 1 with fail
  rw [← hwb.out]
  obtain ⟨c0, c1, c2, c3, c4, c5, c6, c7, c8, c9, c10, c11⟩ := HC.out wb (Below.refl _ _)
  go_wp2_with fail
  refine (CN.out _).mono ?_; rintro e w1 ⟨rfl, hB1⟩
  have HB1 := Lib.hid hB1
  clear hB1 c0 c1 c2 c3 c4 c5 c6 c7 c8 c9 c10 c11
  go_upto_region 2 with fail
  obtain ⟨W3, hW3⟩ : ∃ W3, Hid (W3 = w1.alloc (.cells #[.int .i64 4, .int .i64 t, .int .i64 f, .int .u32 s, .int .i64 1, .int .i64 0, .int .i64 0, .int .i64 0, .int .i64 0, .int .i64 0, .int .i64 0, .slice ad n cap] 27)) := ⟨_, Lib.hid rfl⟩
  rw [← hW3.out]
  have hX := one_box w1 W3 _ _ hW3.out
  have HB3 := Lib.hid (HB1.out.trans (hX.1.mono HB1.out.size))
  have k4 := hX.2.cell 4
  simp only [List.getElem?_toArray, List.getElem?_cons_succ, List.getElem?_cons_zero] at k4
  have f4 := hX.2.free 4
  have HX5 := Lib.hid (And.intro (hX.1.setCell (p := ⟨w1.heap.size, 4, none⟩) (Nat.le_refl w1.heap.size) (.int .i64 hops)) (hX.2.put 4 (.int .i64 hops)))
  obtain ⟨c0, c1, c2, c3, c4, c5, c6, c7, c8, c9, c10, c11⟩ := HC.out W3 HB3.out
  clear hX hW3
  go_upto_region 3 with fail
  generalize W3.setCell ⟨w1.heap.size, 4, none⟩ (.int .i64 hops) = W5 at *
  have HB5 := Lib.hid (HB1.out.trans (HX5.out.1.mono HB1.out.size))
  have he := HE.out W5 _ HX5.out.2
  clear k4 f4 HX5 c0 c1 c2 c3 c4 c5 c6 c7 c8 c9 c10 c11
  obtain ⟨d0, d1, d2, d3, d4, d5, d6, d7, d8, d9, d10, d11⟩ := he
  obtain ⟨c0, c1, c2, c3, c4, c5, c6, c7, c8, c9, c10, c11⟩ := HC.out W5 HB5.out
  go_wp2_with fail
  refine (CS.out _ HB5.out).mono ?_; rintro e w6 ⟨rfl, hB6⟩
  have HB6 := Lib.hid (HB5.out.trans (hB6.mono HB5.out.size))
  clear hB6 c0 c1 c2 c3 c4 c5 c6 c7 c8 c9 c10 c11 d0 d1 d2 d3 d4 d5 d6 d7 d8 d9 d10 d11
  obtain ⟨c0, c1, c2, c3, c4, c5, c6, c7, c8, c9, c10, c11⟩ := HC.out w6 HB6.out
  cases sb with
  | false =>
    go_wp2_with fail
    go_ret
    exact ⟨rfl, HB0.out.trans (HB6.out.mono HB0.out.size)⟩
  | true =>
    go_wp2_with fail
    refine (CG.out _).mono ?_; rintro e w7 ⟨rfl, hB7⟩
    have HB7 := Lib.hid (HB6.out.trans (hB7.mono HB6.out.size))
    clear hB7 c0 c1 c2 c3 c4 c5 c6 c7 c8 c9 c10 c11
    obtain ⟨c0, c1, c2, c3, c4, c5, c6, c7, c8, c9, c10, c11⟩ := HC.out w7 HB7.out
    cases gb with
    | false =>
      go_wp2_with fail
      go_ret
      exact ⟨rfl, HB0.out.trans (HB7.out.mono HB0.out.size)⟩
    | true =>
      go_wp2_with fail
      go_ret
      exact ⟨by simp, HB0.out.trans (HB7.out.mono HB0.out.size)⟩
end Go.Proofs.YtanfnhgaooafeaaGreatDoor.Dat
