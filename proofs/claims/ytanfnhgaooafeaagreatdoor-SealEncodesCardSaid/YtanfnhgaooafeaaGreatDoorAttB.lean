/- Good of both (layer 12). -/
import Derived.Test.YtanfnhgaooafeaaGreatDoorAttX
import Derived.Test.YtanfnhgaooafeaaGreatDoorHedH
import Derived.Test.YtanfnhgaooafeaaGreatDoorHedX
namespace Go.Proofs.YtanfnhgaooafeaaGreatDoor.Att
open Go.ChangeShapes Go.WideShapes Go.ChangeAt Go.RowKit Go.Deep
open Go.Proofs.YtanfnhgaooafeaaGreatDoor.Byt Go.Proofs.YtanfnhgaooafeaaGreatDoor.Key Go.Proofs.YtanfnhgaooafeaaGreatDoor.Buf Go.Proofs.YtanfnhgaooafeaaGreatDoor.Hed Go.Proofs.YtanfnhgaooafeaaGreatDoor.Dat Go.Proofs.YtanfnhgaooafeaaGreatDoor.BufM Go.Proofs.YtanfnhgaooafeaaGreatDoor.Pkt
set_option linter.unusedVariables false
set_option linter.unusedSimpArgs false
set_option maxRecDepth 100000 in
set_option maxHeartbeats 2000000 in
theorem agood_any (p : Pk) (w : World) (hr : RdB w p.ad p.body) :
    Calls Tryz.prog 37 #[pval p] w fun e w' => e = .returned (.bool (attG p)) ∧ Below w.heap.size w w' := by
  obtain ⟨wb, hwb⟩ : ∃ wb, Hid (wb = w.alloc (.cells p.cells 27)) := ⟨_, Lib.hid rfl⟩
  have HB0 := Lib.hid (one_box w wb _ _ hwb.out).1
  have HC := Lib.hid (pk_cells w wb p hwb.out)
  have CG := Lib.hid (fun W => good_any p W)
  have CS : Hid (∀ W, Below wb.heap.size wb W → Calls Tryz.prog 66 #[pval p, pval (attP p.key p.hops p.no)] W fun e w' => e = .returned (.bool (eqP p (attP p.key p.hops p.no))) ∧ Below wb.heap.size wb w') := Lib.hid (fun W hW => (hsame_any p (attP p.key p.hops p.no) W (hr.below (HB0.out.trans (hW.mono HB0.out.size))) (.inl rfl)).mono fun e w' h => ⟨h.1, hW.trans (h.2.mono hW.size)⟩)
  have CQ := Lib.hid (fun W => anew_any p.key p.no W)
  rw [attG_a p]
  obtain ⟨n1, hn1⟩ : ∃ n1, decide (0 ≤ p.no) = n1 := ⟨_, rfl⟩
  obtain ⟨n2, hn2⟩ : ∃ n2, decide (p.no ≤ 1152921504606846976) = n2 := ⟨_, rfl⟩
  have hn1b : decide (p.no ≥ 0) = n1 := hn1
  rw [hn1, hn2]
  generalize eqP p (attP p.key p.hops p.no) = sb at *
  generalize gd p = gb at *
  have HZ : Hid (∀ (W : World) (b : Nat), Blk W b 27 (Pk.cells (attP p.key p.hops p.no)) → _) := Lib.hid (fun W b h => blk_cells h)
  unfold kval at CQ
  unfold attP at CQ CS HZ
  obtain ⟨kind, ⟨t, f, q⟩, hops, no, to, index, total, stamp, value, ad, cap, body⟩ := p
  unfold pval Pk.cells at CG CQ CS
  unfold Pk.cells at hwb HZ
  unfold pval Pk.cells
  simp only [List.length_nil] at CG CQ CS hwb HC HZ hn1 hn1b hn2 ⊢
  obtain ⟨n, hn⟩ : ∃ n, body.length = n := ⟨_, rfl⟩
  simp only [hn] at CG CS hwb HC ⊢
  clear hn hr
  go_enter Tryz.func37, Tryz.ntmps37
  go_upto_region 1 with fail
  rw [← hwb.out]
  obtain ⟨c0, c1, c2, c3, c4, c5, c6, c7, c8, c9, c10, c11⟩ := HC.out wb (Below.refl _ _)
  go_wp2_with fail
  refine (CQ.out _).mono ?_; rintro e w2 ⟨rfl, hB2⟩
  have HB2 := Lib.hid hB2
  clear c0 c1 c2 c3 c4 c5 c6 c7 c8 c9 c10 c11 hB2 CQ
  go_upto_region 2 with fail
  obtain ⟨W3, hW3⟩ : ∃ W3, Hid (W3 = w2.alloc (.cells #[.int .i64 5, .int .i64 t, .int .i64 f, .int .u32 q, .int .i64 1, .int .i64 no, .int .i64 0, .int .i64 0, .int .i64 0, .int .i64 0, .int .i64 0, .slice none 0 0] 27)) := ⟨_, Lib.hid rfl⟩
  rw [← hW3.out]
  have hX := one_box w2 W3 _ _ hW3.out
  have HB3 := Lib.hid (HB2.out.trans (hX.1.mono HB2.out.size))
  have k4 := hX.2.cell 4
  simp only [List.getElem?_toArray, List.getElem?_cons_succ, List.getElem?_cons_zero] at k4
  have f4 := hX.2.free 4
  have HX5 := Lib.hid (And.intro (hX.1.setCell (p := ⟨w2.heap.size, 4, none⟩) (Nat.le_refl w2.heap.size) (.int .i64 hops)) (hX.2.put 4 (.int .i64 hops)))
  obtain ⟨c0, c1, c2, c3, c4, c5, c6, c7, c8, c9, c10, c11⟩ := HC.out W3 HB3.out
  clear hX hW3
  go_upto_region 3 with fail
  generalize W3.setCell ⟨w2.heap.size, 4, none⟩ (.int .i64 hops) = W5 at *
  have HB5 := Lib.hid (HB2.out.trans (HX5.out.1.mono HB2.out.size))
  have HD5 := Lib.hid (HX5.out.2)
  have he := HZ.out W5 _ HX5.out.2
  clear k4 f4 HX5 c0 c1 c2 c3 c4 c5 c6 c7 c8 c9 c10 c11 HB3 HB2
  obtain ⟨d0, d1, d2, d3, d4, d5, d6, d7, d8, d9, d10, d11⟩ := he
  obtain ⟨c0, c1, c2, c3, c4, c5, c6, c7, c8, c9, c10, c11⟩ := HC.out W5 HB5.out
  go_wp2_with fail
  refine (CG.out _).mono ?_; rintro e w6 ⟨rfl, hB6⟩
  have HB6 := Lib.hid (HB5.out.trans (hB6.mono HB5.out.size))
  have HD6 := Lib.hid (HD5.out.below hB6)
  have he := HZ.out _ _ HD6.out
  clear hB6 c0 c1 c2 c3 c4 c5 c6 c7 c8 c9 c10 c11 d0 d1 d2 d3 d4 d5 d6 d7 d8 d9 d10 d11 HD5 HB5
  obtain ⟨d0, d1, d2, d3, d4, d5, d6, d7, d8, d9, d10, d11⟩ := he
  obtain ⟨c0, c1, c2, c3, c4, c5, c6, c7, c8, c9, c10, c11⟩ := HC.out _ HB6.out
  cases gb with
  | false =>
    go_wp2_with fail
    go_ret
    exact ⟨by simp, HB0.out.trans (HB6.out.mono HB0.out.size)⟩
  | true =>
    cases n1 with
    | false =>
      go_wp2_with fail
      go_ret
      exact ⟨by simp, HB0.out.trans (HB6.out.mono HB0.out.size)⟩
    | true =>
      cases n2 with
      | false =>
        go_wp2_with fail
        go_ret
        exact ⟨by simp, HB0.out.trans (HB6.out.mono HB0.out.size)⟩
      | true =>
        have HD7f := Lib.hid (fun (V : World) (hV : Below wb.heap.size wb V) => hV)
        go_wp2_with fail
        refine (CS.out _ HB6.out).mono ?_; rintro e w7 ⟨rfl, hB7⟩
        have HB7 := Lib.hid hB7
        clear hB7 c0 c1 c2 c3 c4 c5 c6 c7 c8 c9 c10 c11 d0 d1 d2 d3 d4 d5 d6 d7 d8 d9 d10 d11 HB6 HD7f
        obtain ⟨c0, c1, c2, c3, c4, c5, c6, c7, c8, c9, c10, c11⟩ := HC.out _ HB7.out
        go_wp2_with fail
        go_ret
        exact ⟨by simp, HB0.out.trans (HB7.out.mono HB0.out.size)⟩
set_option maxRecDepth 100000 in
set_option maxHeartbeats 2000000 in
theorem ragood_any (p : Pk) (w : World) (hr : RdB w p.ad p.body) :
    Calls Tryz.prog 20 #[pval p] w fun e w' => e = .returned (.bool (attG p)) ∧ Below w.heap.size w w' := by
  obtain ⟨wb, hwb⟩ : ∃ wb, Hid (wb = w.alloc (.cells p.cells 27)) := ⟨_, Lib.hid rfl⟩
  have HB0 := Lib.hid (one_box w wb _ _ hwb.out).1
  have HC := Lib.hid (pk_cells w wb p hwb.out)
  have CG := Lib.hid (fun W => rgood_any p W)
  have CS : Hid (∀ W, Below wb.heap.size wb W → Calls Tryz.prog 12 #[pval p, pval (attP p.key p.hops p.no)] W fun e w' => e = .returned (.bool (eqP p (attP p.key p.hops p.no))) ∧ Below wb.heap.size wb w') := Lib.hid (fun W hW => (rsame_any p (attP p.key p.hops p.no) W (hr.below (HB0.out.trans (hW.mono HB0.out.size))) (.inl rfl)).mono fun e w' h => ⟨h.1, hW.trans (h.2.mono hW.size)⟩)
  have CQ := Lib.hid (fun W => ranew_any p.key p.no W)
  rw [attG_b p]
  obtain ⟨n1, hn1⟩ : ∃ n1, decide (0 ≤ p.no) = n1 := ⟨_, rfl⟩
  obtain ⟨n2, hn2⟩ : ∃ n2, decide (p.no ≤ 1152921504606846976) = n2 := ⟨_, rfl⟩
  have hn1b : decide (p.no ≥ 0) = n1 := hn1
  rw [hn1, hn2]
  generalize eqP p (attP p.key p.hops p.no) = sb at *
  generalize gd p = gb at *
  have HZ : Hid (∀ (W : World) (b : Nat), Blk W b 27 (Pk.cells (attP p.key p.hops p.no)) → _) := Lib.hid (fun W b h => blk_cells h)
  unfold kval at CQ
  unfold attP at CQ CS HZ
  obtain ⟨kind, ⟨t, f, q⟩, hops, no, to, index, total, stamp, value, ad, cap, body⟩ := p
  unfold pval Pk.cells at CG CQ CS
  unfold Pk.cells at hwb HZ
  unfold pval Pk.cells
  simp only [List.length_nil] at CG CQ CS hwb HC HZ hn1 hn1b hn2 ⊢
  obtain ⟨n, hn⟩ : ∃ n, body.length = n := ⟨_, rfl⟩
  simp only [hn] at CG CS hwb HC ⊢
  clear hn hr
  go_enter Tryz.func20, Tryz.ntmps20
  go_upto_region 1 with fail
  rw [← hwb.out]
  obtain ⟨c0, c1, c2, c3, c4, c5, c6, c7, c8, c9, c10, c11⟩ := HC.out wb (Below.refl _ _)
  go_wp2_with fail
  refine (CQ.out _).mono ?_; rintro e w2 ⟨rfl, hB2⟩
  have HB2 := Lib.hid hB2
  clear c0 c1 c2 c3 c4 c5 c6 c7 c8 c9 c10 c11 hB2 CQ
  go_upto_region 2 with fail
  obtain ⟨W3, hW3⟩ : ∃ W3, Hid (W3 = w2.alloc (.cells #[.int .i64 5, .int .i64 t, .int .i64 f, .int .u32 q, .int .i64 1, .int .i64 no, .int .i64 0, .int .i64 0, .int .i64 0, .int .i64 0, .int .i64 0, .slice none 0 0] 27)) := ⟨_, Lib.hid rfl⟩
  rw [← hW3.out]
  have hX := one_box w2 W3 _ _ hW3.out
  have HB3 := Lib.hid (HB2.out.trans (hX.1.mono HB2.out.size))
  have k4 := hX.2.cell 4
  simp only [List.getElem?_toArray, List.getElem?_cons_succ, List.getElem?_cons_zero] at k4
  have f4 := hX.2.free 4
  have HX5 := Lib.hid (And.intro (hX.1.setCell (p := ⟨w2.heap.size, 4, none⟩) (Nat.le_refl w2.heap.size) (.int .i64 hops)) (hX.2.put 4 (.int .i64 hops)))
  obtain ⟨c0, c1, c2, c3, c4, c5, c6, c7, c8, c9, c10, c11⟩ := HC.out W3 HB3.out
  clear hX hW3
  go_upto_region 3 with fail
  generalize W3.setCell ⟨w2.heap.size, 4, none⟩ (.int .i64 hops) = W5 at *
  have HB5 := Lib.hid (HB2.out.trans (HX5.out.1.mono HB2.out.size))
  have HD5 := Lib.hid (HX5.out.2)
  have he := HZ.out W5 _ HX5.out.2
  clear k4 f4 HX5 c0 c1 c2 c3 c4 c5 c6 c7 c8 c9 c10 c11 HB3 HB2
  obtain ⟨d0, d1, d2, d3, d4, d5, d6, d7, d8, d9, d10, d11⟩ := he
  obtain ⟨c0, c1, c2, c3, c4, c5, c6, c7, c8, c9, c10, c11⟩ := HC.out W5 HB5.out
  have HD6f := Lib.hid (fun (V : World) (hV : Below wb.heap.size wb V) => hV)
  go_wp2_with fail
  refine (CS.out _ HB5.out).mono ?_; rintro e w6 ⟨rfl, hB6⟩
  have HB6 := Lib.hid hB6
  clear hB6 c0 c1 c2 c3 c4 c5 c6 c7 c8 c9 c10 c11 d0 d1 d2 d3 d4 d5 d6 d7 d8 d9 d10 d11 HB5 HD6f
  obtain ⟨c0, c1, c2, c3, c4, c5, c6, c7, c8, c9, c10, c11⟩ := HC.out _ HB6.out
  cases sb with
  | false =>
    go_wp2_with fail
    go_ret
    exact ⟨by simp, HB0.out.trans (HB6.out.mono HB0.out.size)⟩
  | true =>
    go_wp2_with fail
    refine (CG.out _).mono ?_; rintro e w7 ⟨rfl, hB7⟩
    have HB7 := Lib.hid (HB6.out.trans (hB7.mono HB6.out.size))
    clear hB7 c0 c1 c2 c3 c4 c5 c6 c7 c8 c9 c10 c11 HB6
    obtain ⟨c0, c1, c2, c3, c4, c5, c6, c7, c8, c9, c10, c11⟩ := HC.out _ HB7.out
    cases gb with
    | false =>
      go_wp2_with fail
      go_ret
      exact ⟨by simp, HB0.out.trans (HB7.out.mono HB0.out.size)⟩
    | true =>
      cases n1 with
      | false =>
        go_wp2_with fail
        go_ret
        exact ⟨by simp, HB0.out.trans (HB7.out.mono HB0.out.size)⟩
      | true =>
        go_wp2_with fail
        go_ret
        exact ⟨by simp, HB0.out.trans (HB7.out.mono HB0.out.size)⟩
end Go.Proofs.YtanfnhgaooafeaaGreatDoor.Att
