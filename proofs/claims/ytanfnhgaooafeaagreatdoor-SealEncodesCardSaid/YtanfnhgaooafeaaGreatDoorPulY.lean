/- PulC PulH, laid into one. -/
import Derived.Test.YtanfnhgaooafeaaGreatDoorPulX
import Derived.Deep.RegionHeldLaw
/-! PulC -/
namespace Go.Proofs.YtanfnhgaooafeaaGreatDoor.Pul
open Go.ChangeShapes Go.WideShapes Go.ChangeAt Go.RowKit Go.Deep
open Go.Proofs.YtanfnhgaooafeaaGreatDoor.Byt Go.Proofs.YtanfnhgaooafeaaGreatDoor.Key Go.Proofs.YtanfnhgaooafeaaGreatDoor.Buf Go.Proofs.YtanfnhgaooafeaaGreatDoor.Hed Go.Proofs.YtanfnhgaooafeaaGreatDoor.Dat
set_option linter.unusedVariables false
set_option linter.unusedSimpArgs false
theorem eq_pts (a b c : Bool) (w : World) : (Op.equalIn 10000 76 (.agg (pcs a b c)) (.agg (pcs false false false))).run Tryz.prog w = .ok (!(a || (b || c))) w := by
  have hS : Tryz.prog.underlying 76 = some (.struct (Tryz.prog.fieldsOf 76)) := by kernel_rfl
  have hp : Tryz.prog.stoodInHeld 76 = false := by kernel_rfl
  unfold pcs
  rw [show (10000 : Nat) = 9999 + 1 from rfl, run_equalIn_struct w 9999 76 _ _ hS hp]
  simp only [Program.fieldsOf, Tryz.underlying76]
  go_simp
  cases a <;> cases b <;> cases c <;> simp
theorem eq_pts_bin (a b c : Bool) (w : World) : (binOp .eql 76 (.agg #[.bool a, .bool b, .bool c]) (.agg #[.bool false, .bool false, .bool false])).run Tryz.prog w = .ok (.bool (!(a || (b || c)))) w := by
  have h := eq_pts a b c w
  unfold pcs at h
  show Sem.run Tryz.prog (Value.bool <$> Op.equalIn 10000 76 (.agg #[.bool a, .bool b, .bool c]) (.agg #[.bool false, .bool false, .bool false])) w = _
  generalize (Value.agg #[.bool a, .bool b, .bool c]) = v1 at *
  generalize (Value.agg #[.bool false, .bool false, .bool false]) = v2 at *
  simp [h]
theorem eq_pts_guard (a b c : Bool) (x y : Operand) (w : World) : (eqGuard .eql 76 x y (.agg #[.bool a, .bool b, .bool c]) (.agg #[.bool false, .bool false, .bool false])).run Tryz.prog w = .ok () w := by
  go_simp
theorem kk_pts (k : Int) : (!((k == 1 || k == 2) || ((k == 2) || (k == 3)))) = !(kk k) := by
  unfold kk
  generalize (k == 1) = a
  generalize (k == 2) = b
  generalize (k == 3) = c
  cases a <;> cases b <;> cases c <;> rfl
set_option maxRecDepth 100000 in
set_option maxHeartbeats 2000000 in
theorem pgood_any (p : Pk) (w : World) (hr : RdB w p.ad p.body) :
    Calls Tryz.prog 31 #[pval p] w fun e w' => e = .returned (.bool (pulG p)) ∧ Below w.heap.size w w' := by
  obtain ⟨wb, hwb⟩ : ∃ wb, Hid (wb = w.alloc (.cells p.cells 27)) := ⟨_, Lib.hid rfl⟩
  have HB0 := Lib.hid (one_box w wb _ _ hwb.out).1
  have HC := Lib.hid (pk_cells w wb p hwb.out)
  have CP := Lib.hid (fun W => parts_any p.kind W)
  have CG := Lib.hid (fun W => good_any p W)
  have CI := Lib.hid (fun W => isno_any p.no W)
  have CA := Lib.hid (fun (h : kk p.kind = true) W => aside_any p W h)
  have CS : Hid (∀ W, Below wb.heap.size wb W → Calls Tryz.prog 66 #[pval (offP p), pval (headP p)] W fun e w' => e = .returned (.bool (eqP (offP p) (headP p))) ∧ Below W.heap.size W w') := Lib.hid (fun W hW => hsame_any (offP p) (headP p) W (by
    have : (offP p).ad = p.ad ∧ (offP p).body = p.body := by unfold offP; split <;> (try split) <;> exact ⟨rfl, rfl⟩
    rw [this.1, this.2]
    exact hr.below (HB0.out.trans (hW.mono HB0.out.size))) (.inl rfl))
  have HE := Lib.hid (fun W => eq_pts_bin (p.kind == 1 || p.kind == 2) (p.kind == 2) (p.kind == 3) W)
  have HG := Lib.hid (fun x y W => eq_pts_guard (p.kind == 1 || p.kind == 2) (p.kind == 2) (p.kind == 3) x y W)
  rw [kk_pts] at HE
  unfold pulG
  unfold kcs pcs at CP CA
  generalize (p.kind == 1 || p.kind == 2) = pa at *
  generalize (p.kind == 2) = pb at *
  generalize (p.kind == 3) = pc at *
  generalize kk p.kind = z at *
  generalize eqP (offP p) (headP p) = sb at *
  generalize gd p = gb at *
  generalize noOk p.no = nb at *
  obtain ⟨vo, hvo⟩ : ∃ vo, Hid (vo = pval (offP p)) := ⟨_, Lib.hid rfl⟩
  rw [← hvo.out] at CA CS
  unfold headP at CS
  obtain ⟨kind, ⟨t, f, s⟩, hops, no, to, index, total, stamp, value, ad, cap, body⟩ := p
  unfold pval Pk.cells at CG CS CA
  unfold Pk.cells at hwb
  unfold pval Pk.cells
  simp only [List.length_nil] at CP CG CI CA CS hwb HC ⊢
  obtain ⟨n, hn⟩ : ∃ n, body.length = n := ⟨_, rfl⟩
  simp only [hn] at CG CA hwb HC ⊢
  clear hn hr hvo
  have hE := HE.out
  have hG := HG.out
  go_enter Tryz.func31, Tryz.ntmps31
  go_upto_region 1 with fail
  rw [← hwb.out]
  obtain ⟨c0, c1, c2, c3, c4, c5, c6, c7, c8, c9, c10, c11⟩ := HC.out wb (Below.refl _ _)
  go_wp2_with fail
  refine (CP.out _).mono ?_; rintro e w1 ⟨rfl, hB1⟩
  have HB1 := Lib.hid hB1
  clear hB1 c0 c1 c2 c3 c4 c5 c6 c7 c8 c9 c10 c11 CP
  go_upto_region 2 with fail
  obtain ⟨W2, hW2⟩ : ∃ W2, Hid (W2 = w1.alloc (.cells #[.bool pa, .bool pb, .bool pc] 76)) := ⟨_, Lib.hid rfl⟩
  rw [← hW2.out]
  have hX := one_box w1 W2 _ _ hW2.out
  have HB2 := Lib.hid (HB1.out.trans (hX.1.mono HB1.out.size))
  have HP : Hid (∀ W, Below W2.heap.size W2 W → _ ∧ _ ∧ _) := Lib.hid (fun W hW => ⟨(hX.2.below hW).cell 0, (hX.2.below hW).cell 1, (hX.2.below hW).cell 2⟩)
  simp only [List.getElem?_toArray, List.getElem?_cons_succ, List.getElem?_cons_zero] at HP
  obtain ⟨c0, c1, c2, c3, c4, c5, c6, c7, c8, c9, c10, c11⟩ := HC.out W2 HB2.out
  obtain ⟨p0, p1, p2⟩ := HP.out W2 (Below.refl _ _)
  clear hX hW2 HB1
  cases z with
  | false =>
    go_wp2_with fail
    go_ret
    exact ⟨by simp, HB0.out.trans (HB2.out.mono HB0.out.size)⟩
  | true =>
    go_wp2_with fail
    refine (CG.out _).mono ?_; rintro e w3 ⟨rfl, hB3⟩
    have HB3 := Lib.hid hB3
    clear hB3 c0 c1 c2 c3 c4 c5 c6 c7 c8 c9 c10 c11 p0 p1 p2 CG
    cases gb with
    | false =>
      go_wp2_with fail
      go_ret
      exact ⟨by simp, HB0.out.trans ((HB2.out.trans (HB3.out.mono HB2.out.size)).mono HB0.out.size)⟩
    | true =>
      obtain ⟨c0, c1, c2, c3, c4, c5, c6, c7, c8, c9, c10, c11⟩ := HC.out w3 (HB2.out.trans (HB3.out.mono HB2.out.size))
      go_wp2_with fail
      refine (CI.out _).mono ?_; rintro e w4 ⟨rfl, rfl⟩
      cases nb with
      | false =>
        go_wp2_with fail
        go_ret
        exact ⟨by simp, HB0.out.trans ((HB2.out.trans (HB3.out.mono HB2.out.size)).mono HB0.out.size)⟩
      | true =>
        have HH : Hid (∀ W, Below W2.heap.size W2 W → ((W.cell? ⟨w.heap.size, 0, none⟩ = some (.int .i64 kind) ∧ W.cell? ⟨w.heap.size, 1, none⟩ = some (.int .i64 t) ∧ W.cell? ⟨w.heap.size, 2, none⟩ = some (.int .i64 f) ∧ W.cell? ⟨w.heap.size, 3, none⟩ = some (.int .u32 s) ∧ W.cell? ⟨w.heap.size, 4, none⟩ = some (.int .i64 hops) ∧ W.cell? ⟨w.heap.size, 5, none⟩ = some (.int .i64 no) ∧ W.cell? ⟨w.heap.size, 6, none⟩ = some (.int .i64 to) ∧ W.cell? ⟨w.heap.size, 7, none⟩ = some (.int .i64 index) ∧ W.cell? ⟨w.heap.size, 8, none⟩ = some (.int .i64 total) ∧ W.cell? ⟨w.heap.size, 9, none⟩ = some (.int .i64 stamp) ∧ W.cell? ⟨w.heap.size, 10, none⟩ = some (.int .i64 value) ∧ W.cell? ⟨w.heap.size, 11, none⟩ = some (.slice ad n cap)) ∧ W.cell? ⟨w1.heap.size, 0, none⟩ = some (.bool pa) ∧ W.cell? ⟨w1.heap.size, 1, none⟩ = some (.bool pb) ∧ W.cell? ⟨w1.heap.size, 2, none⟩ = some (.bool pc))) := Lib.hid (fun W hW => ⟨HC.out W (HB2.out.trans (hW.mono HB2.out.size)), HP.out W hW⟩)
        have CA2 : Hid (∀ W, Below W2.heap.size W2 W → Calls Tryz.prog 67 #[.agg #[.int .i64 kind, .int .i64 t, .int .i64 f, .int .u32 s, .int .i64 hops, .int .i64 no, .int .i64 to, .int .i64 index, .int .i64 total, .int .i64 stamp, .int .i64 value, .slice ad n cap], .agg #[.bool pa, .bool pb, .bool pc]] W fun e w' => e = .returned vo ∧ Below W2.heap.size W2 w') := Lib.hid (fun W hW => (CA.out (by simp) W).mono fun e w' h => ⟨h.1, hW.trans (h.2.mono hW.size)⟩)
        have CS2 : Hid (∀ W, Below W2.heap.size W2 W → Calls Tryz.prog 66 #[vo, .agg #[.int .i64 kind, .int .i64 t, .int .i64 f, .int .u32 s, .int .i64 hops, .int .i64 0, .int .i64 0, .int .i64 0, .int .i64 0, .int .i64 0, .int .i64 0, .slice none 0 0]] W fun e w' => e = .returned (.bool sb) ∧ Below W2.heap.size W2 w') := Lib.hid (fun W hW => (CS.out W (HB2.out.trans (hW.mono HB2.out.size))).mono fun e w' h => ⟨h.1, hW.trans (h.2.mono hW.size)⟩)
        clear c0 c1 c2 c3 c4 c5 c6 c7 c8 c9 c10 c11 CA CS CI hE hG HE HG
        obtain ⟨⟨c0, c1, c2, c3, c4, c5, c6, c7, c8, c9, c10, c11⟩, p0, p1, p2⟩ := HH.out w3 HB3.out
        have hB3 := HB3.out
        go_upto_region 4 with fail
        refine wp_region_noPanic ?_
        go_region_held_law (fun W => Below W2.heap.size W2 W ∧ (W.cell? ⟨w.heap.size, 0, none⟩ = some (.int .i64 kind) ∧ W.cell? ⟨w.heap.size, 1, none⟩ = some (.int .i64 t) ∧ W.cell? ⟨w.heap.size, 2, none⟩ = some (.int .i64 f) ∧ W.cell? ⟨w.heap.size, 3, none⟩ = some (.int .u32 s) ∧ W.cell? ⟨w.heap.size, 4, none⟩ = some (.int .i64 hops) ∧ W.cell? ⟨w.heap.size, 5, none⟩ = some (.int .i64 no) ∧ W.cell? ⟨w.heap.size, 6, none⟩ = some (.int .i64 to) ∧ W.cell? ⟨w.heap.size, 7, none⟩ = some (.int .i64 index) ∧ W.cell? ⟨w.heap.size, 8, none⟩ = some (.int .i64 total) ∧ W.cell? ⟨w.heap.size, 9, none⟩ = some (.int .i64 stamp) ∧ W.cell? ⟨w.heap.size, 10, none⟩ = some (.int .i64 value) ∧ W.cell? ⟨w.heap.size, 11, none⟩ = some (.slice ad n cap)) ∧ W.cell? ⟨w1.heap.size, 0, none⟩ = some (.bool pa) ∧ W.cell? ⟨w1.heap.size, 1, none⟩ = some (.bool pb) ∧ W.cell? ⟨w1.heap.size, 2, none⟩ = some (.bool pc)) (refine ⟨?_, HH.out _ ?_⟩ <;> (first | assumption | exact Below.drew (by assumption)))
          (first
            | (go_at_call 67; (with_reducible refine (CA2.out _ ?_).mono ?_); (focus (first | assumption | exact Below.drew (by assumption) | exact (‹Below W2.heap.size W2 _ ∧ _›).1)); rintro e w5 ⟨rfl, hB5⟩)
            | (go_at_call 66; (with_reducible refine (CS2.out _ ?_).mono ?_); (focus (first | assumption | exact Below.drew (by assumption) | exact (‹Below W2.heap.size W2 _ ∧ _›).1)); rintro e w6 ⟨rfl, hB6⟩))
        all_goals
          refine NoPanic.normal ?_
          go_wp2_with fail
          go_ret
          exact ⟨by simp, HB0.out.trans ((HB2.out.trans ((‹Below W2.heap.size W2 _ ∧ _›).1.mono HB2.out.size)).mono HB0.out.size)⟩
end Go.Proofs.YtanfnhgaooafeaaGreatDoor.Pul
/-! PulH -/
namespace Go.Proofs.YtanfnhgaooafeaaGreatDoor.Pul
open Go.ChangeShapes Go.WideShapes Go.ChangeAt Go.RowKit Go.Deep
open Go.Proofs.YtanfnhgaooafeaaGreatDoor.Byt Go.Proofs.YtanfnhgaooafeaaGreatDoor.Key Go.Proofs.YtanfnhgaooafeaaGreatDoor.Buf Go.Proofs.YtanfnhgaooafeaaGreatDoor.Hed Go.Proofs.YtanfnhgaooafeaaGreatDoor.Dat
set_option linter.unusedVariables false
set_option linter.unusedSimpArgs false
theorem pulG_no (p : Pk) (h : gd p = false) : pulG p = false := by
  unfold pulG
  rw [h]
  simp
set_option maxRecDepth 100000 in
set_option maxHeartbeats 1000000 in
theorem refg_no (p : Pk) (w : World) (hr : RdB w p.ad p.body) (hk : gd p = false) :
    Calls Tryz.prog 18 #[pval p] w fun e w' => e = .returned (.bool (pulG p)) ∧ Below w.heap.size w w' := by
  obtain ⟨wb, hwb⟩ : ∃ wb, Hid (wb = w.alloc (.cells p.cells 27)) := ⟨_, Lib.hid rfl⟩
  have HB0 := Lib.hid (one_box w wb _ _ hwb.out).1
  have HC := Lib.hid (pk_cells w wb p hwb.out)
  have CG := Lib.hid (fun W => rgood_any p W)
  rw [pulG_no p hk]
  rw [hk] at CG
  obtain ⟨kind, ⟨t, f, s⟩, hops, no, to, index, total, stamp, value, ad, cap, body⟩ := p
  unfold pval Pk.cells at CG
  unfold Pk.cells at hwb
  unfold pval Pk.cells
  simp only [List.length_nil] at CG  hwb HC ⊢
  obtain ⟨n, hn⟩ : ∃ n, body.length = n := ⟨_, rfl⟩
  simp only [hn] at CG  hwb HC ⊢
  clear hn hr
  go_enter Tryz.func18, Tryz.ntmps18
  go_upto_region 1 with fail
  rw [← hwb.out]
  obtain ⟨c0, c1, c2, c3, c4, c5, c6, c7, c8, c9, c10, c11⟩ := HC.out wb (Below.refl _ _)
  go_wp2_with fail
  refine (CG.out _).mono ?_; rintro e w1 ⟨rfl, hB1⟩
  clear c0 c1 c2 c3 c4 c5 c6 c7 c8 c9 c10 c11
  go_wp2_with fail
  go_ret
  exact ⟨rfl, HB0.out.trans (hB1.mono HB0.out.size)⟩
set_option maxRecDepth 100000 in
set_option maxHeartbeats 2000000 in
theorem refg_1 (p : Pk) (w : World) (hr : RdB w p.ad p.body) (hg : gd p = true) (hk : p.kind = 1) :
    Calls Tryz.prog 18 #[pval p] w fun e w' => e = .returned (.bool (pulG p)) ∧ Below w.heap.size w w' := by
  obtain ⟨wb, hwb⟩ : ∃ wb, Hid (wb = w.alloc (.cells p.cells 27)) := ⟨_, Lib.hid rfl⟩
  have HB0 := Lib.hid (one_box w wb _ _ hwb.out).1
  have HC := Lib.hid (pk_cells w wb p hwb.out)
  have CG := Lib.hid (fun W => rgood_any p W)
  have CS : Hid (∀ W, Below wb.heap.size wb W → Calls Tryz.prog 12 #[pval p, pval (probeP p.stamp)] W fun e w' => e = .returned (.bool (eqP p (probeP p.stamp))) ∧ Below wb.heap.size wb w') := Lib.hid (fun W hW => (rsame_any p (probeP p.stamp) W (hr.below (HB0.out.trans (hW.mono HB0.out.size))) (.inl rfl)).mono fun e w' h => ⟨h.1, hW.trans (h.2.mono hW.size)⟩)
  have CQ : Hid (∀ W, Below wb.heap.size wb W → Calls Tryz.prog 50 #[.int .i64 p.stamp] W fun e w' => e = .returned (pval (probeP p.stamp)) ∧ Below wb.heap.size wb w') := Lib.hid (fun W hW => (rprobe_any p.stamp W).mono fun e w' h => ⟨h.1, hW.trans (h.2.mono hW.size)⟩)
  rw [pulG_probe p hk, hg, Bool.true_and]
  rw [hg] at CG
  generalize eqP p (probeP p.stamp) = sb at *
  unfold probeP at CQ CS
  obtain ⟨kind, ⟨t, f, s⟩, hops, no, to, index, total, stamp, value, ad, cap, body⟩ := p
  simp only at hk
  subst hk
  unfold pval Pk.cells at CG CQ CS
  unfold Pk.cells at hwb
  unfold pval Pk.cells
  simp only [List.length_nil] at CG CQ CS hwb HC ⊢
  obtain ⟨n, hn⟩ : ∃ n, body.length = n := ⟨_, rfl⟩
  simp only [hn] at CG CQ CS hwb HC ⊢
  clear hn hr
  go_enter Tryz.func18, Tryz.ntmps18
  go_upto_region 1 with fail
  rw [← hwb.out]
  obtain ⟨c0, c1, c2, c3, c4, c5, c6, c7, c8, c9, c10, c11⟩ := HC.out wb (Below.refl _ _)
  go_wp2_with fail
  refine (CG.out _).mono ?_; rintro e w1 ⟨rfl, hB1⟩
  clear c0 c1 c2 c3 c4 c5 c6 c7 c8 c9 c10 c11
  have HH : Hid (∀ W, Below wb.heap.size wb W → (W.cell? ⟨w.heap.size, 0, none⟩ = some (.int .i64 1) ∧ W.cell? ⟨w.heap.size, 1, none⟩ = some (.int .i64 t) ∧ W.cell? ⟨w.heap.size, 2, none⟩ = some (.int .i64 f) ∧ W.cell? ⟨w.heap.size, 3, none⟩ = some (.int .u32 s) ∧ W.cell? ⟨w.heap.size, 4, none⟩ = some (.int .i64 hops) ∧ W.cell? ⟨w.heap.size, 5, none⟩ = some (.int .i64 no) ∧ W.cell? ⟨w.heap.size, 6, none⟩ = some (.int .i64 to) ∧ W.cell? ⟨w.heap.size, 7, none⟩ = some (.int .i64 index) ∧ W.cell? ⟨w.heap.size, 8, none⟩ = some (.int .i64 total) ∧ W.cell? ⟨w.heap.size, 9, none⟩ = some (.int .i64 stamp) ∧ W.cell? ⟨w.heap.size, 10, none⟩ = some (.int .i64 value) ∧ W.cell? ⟨w.heap.size, 11, none⟩ = some (.slice ad n cap))) := Lib.hid (fun W hW => HC.out W hW)
  obtain ⟨c0, c1, c2, c3, c4, c5, c6, c7, c8, c9, c10, c11⟩ := HC.out w1 hB1
  clear CG HC
  go_upto_region 4 with fail
  refine wp_region_noPanic ?_
  go_region_held_law (fun W => Below wb.heap.size wb W ∧ (W.cell? ⟨w.heap.size, 0, none⟩ = some (.int .i64 1) ∧ W.cell? ⟨w.heap.size, 1, none⟩ = some (.int .i64 t) ∧ W.cell? ⟨w.heap.size, 2, none⟩ = some (.int .i64 f) ∧ W.cell? ⟨w.heap.size, 3, none⟩ = some (.int .u32 s) ∧ W.cell? ⟨w.heap.size, 4, none⟩ = some (.int .i64 hops) ∧ W.cell? ⟨w.heap.size, 5, none⟩ = some (.int .i64 no) ∧ W.cell? ⟨w.heap.size, 6, none⟩ = some (.int .i64 to) ∧ W.cell? ⟨w.heap.size, 7, none⟩ = some (.int .i64 index) ∧ W.cell? ⟨w.heap.size, 8, none⟩ = some (.int .i64 total) ∧ W.cell? ⟨w.heap.size, 9, none⟩ = some (.int .i64 stamp) ∧ W.cell? ⟨w.heap.size, 10, none⟩ = some (.int .i64 value) ∧ W.cell? ⟨w.heap.size, 11, none⟩ = some (.slice ad n cap))) (refine ⟨?_, HH.out _ ?_⟩ <;> (first | assumption | exact Below.drew (by assumption)))
    (first
      | (go_at_call 50; (with_reducible refine (CQ.out _ ?_).mono ?_); (focus (first | assumption | exact Below.drew (by assumption) | exact (‹Below wb.heap.size wb _ ∧ _›).1)); rintro e w5 ⟨rfl, hB5⟩)
      | (go_at_call 12; (with_reducible refine (CS.out _ ?_).mono ?_); (focus (first | assumption | exact Below.drew (by assumption) | exact (‹Below wb.heap.size wb _ ∧ _›).1)); rintro e w6 ⟨rfl, hB6⟩))
  all_goals
    refine NoPanic.normal ?_
    go_wp2_with fail
    go_ret
    exact ⟨rfl, HB0.out.trans ((‹Below wb.heap.size wb _ ∧ _›).1.mono HB0.out.size)⟩
set_option maxRecDepth 100000 in
set_option maxHeartbeats 2000000 in
theorem refg_2 (p : Pk) (w : World) (hr : RdB w p.ad p.body) (hg : gd p = true) (hk : p.kind = 2) :
    Calls Tryz.prog 18 #[pval p] w fun e w' => e = .returned (.bool (pulG p)) ∧ Below w.heap.size w w' := by
  obtain ⟨wb, hwb⟩ : ∃ wb, Hid (wb = w.alloc (.cells p.cells 27)) := ⟨_, Lib.hid rfl⟩
  have HB0 := Lib.hid (one_box w wb _ _ hwb.out).1
  have HC := Lib.hid (pk_cells w wb p hwb.out)
  have CG := Lib.hid (fun W => rgood_any p W)
  have CS : Hid (∀ W, Below wb.heap.size wb W → Calls Tryz.prog 12 #[pval p, pval (echoP p.stamp p.value)] W fun e w' => e = .returned (.bool (eqP p (echoP p.stamp p.value))) ∧ Below wb.heap.size wb w') := Lib.hid (fun W hW => (rsame_any p (echoP p.stamp p.value) W (hr.below (HB0.out.trans (hW.mono HB0.out.size))) (.inl rfl)).mono fun e w' h => ⟨h.1, hW.trans (h.2.mono hW.size)⟩)
  have CQ : Hid (∀ W, Below wb.heap.size wb W → Calls Tryz.prog 51 #[pval p, .int .i64 p.value] W fun e w' => e = .returned (pval (echoP p.stamp p.value)) ∧ Below wb.heap.size wb w') := Lib.hid (fun W hW => (recho_any p p.value W).mono fun e w' h => ⟨h.1, hW.trans (h.2.mono hW.size)⟩)
  rw [pulG_echo p hk, hg, Bool.true_and]
  rw [hg] at CG
  generalize eqP p (echoP p.stamp p.value) = sb at *
  unfold echoP at CQ CS
  obtain ⟨kind, ⟨t, f, s⟩, hops, no, to, index, total, stamp, value, ad, cap, body⟩ := p
  simp only at hk
  subst hk
  unfold pval Pk.cells at CG CQ CS
  unfold Pk.cells at hwb
  unfold pval Pk.cells
  simp only [List.length_nil] at CG CQ CS hwb HC ⊢
  obtain ⟨n, hn⟩ : ∃ n, body.length = n := ⟨_, rfl⟩
  simp only [hn] at CG CQ CS hwb HC ⊢
  clear hn hr
  go_enter Tryz.func18, Tryz.ntmps18
  go_upto_region 1 with fail
  rw [← hwb.out]
  obtain ⟨c0, c1, c2, c3, c4, c5, c6, c7, c8, c9, c10, c11⟩ := HC.out wb (Below.refl _ _)
  go_wp2_with fail
  refine (CG.out _).mono ?_; rintro e w1 ⟨rfl, hB1⟩
  clear c0 c1 c2 c3 c4 c5 c6 c7 c8 c9 c10 c11
  have HH : Hid (∀ W, Below wb.heap.size wb W → (W.cell? ⟨w.heap.size, 0, none⟩ = some (.int .i64 2) ∧ W.cell? ⟨w.heap.size, 1, none⟩ = some (.int .i64 t) ∧ W.cell? ⟨w.heap.size, 2, none⟩ = some (.int .i64 f) ∧ W.cell? ⟨w.heap.size, 3, none⟩ = some (.int .u32 s) ∧ W.cell? ⟨w.heap.size, 4, none⟩ = some (.int .i64 hops) ∧ W.cell? ⟨w.heap.size, 5, none⟩ = some (.int .i64 no) ∧ W.cell? ⟨w.heap.size, 6, none⟩ = some (.int .i64 to) ∧ W.cell? ⟨w.heap.size, 7, none⟩ = some (.int .i64 index) ∧ W.cell? ⟨w.heap.size, 8, none⟩ = some (.int .i64 total) ∧ W.cell? ⟨w.heap.size, 9, none⟩ = some (.int .i64 stamp) ∧ W.cell? ⟨w.heap.size, 10, none⟩ = some (.int .i64 value) ∧ W.cell? ⟨w.heap.size, 11, none⟩ = some (.slice ad n cap))) := Lib.hid (fun W hW => HC.out W hW)
  obtain ⟨c0, c1, c2, c3, c4, c5, c6, c7, c8, c9, c10, c11⟩ := HC.out w1 hB1
  clear CG HC
  go_upto_region 6 with fail
  refine wp_region_noPanic ?_
  go_region_held_law (fun W => Below wb.heap.size wb W ∧ (W.cell? ⟨w.heap.size, 0, none⟩ = some (.int .i64 2) ∧ W.cell? ⟨w.heap.size, 1, none⟩ = some (.int .i64 t) ∧ W.cell? ⟨w.heap.size, 2, none⟩ = some (.int .i64 f) ∧ W.cell? ⟨w.heap.size, 3, none⟩ = some (.int .u32 s) ∧ W.cell? ⟨w.heap.size, 4, none⟩ = some (.int .i64 hops) ∧ W.cell? ⟨w.heap.size, 5, none⟩ = some (.int .i64 no) ∧ W.cell? ⟨w.heap.size, 6, none⟩ = some (.int .i64 to) ∧ W.cell? ⟨w.heap.size, 7, none⟩ = some (.int .i64 index) ∧ W.cell? ⟨w.heap.size, 8, none⟩ = some (.int .i64 total) ∧ W.cell? ⟨w.heap.size, 9, none⟩ = some (.int .i64 stamp) ∧ W.cell? ⟨w.heap.size, 10, none⟩ = some (.int .i64 value) ∧ W.cell? ⟨w.heap.size, 11, none⟩ = some (.slice ad n cap))) (refine ⟨?_, HH.out _ ?_⟩ <;> (first | assumption | exact Below.drew (by assumption)))
    (first
      | (go_at_call 51; (with_reducible refine (CQ.out _ ?_).mono ?_); (focus (first | assumption | exact Below.drew (by assumption) | exact (‹Below wb.heap.size wb _ ∧ _›).1)); rintro e w5 ⟨rfl, hB5⟩)
      | (go_at_call 12; (with_reducible refine (CS.out _ ?_).mono ?_); (focus (first | assumption | exact Below.drew (by assumption) | exact (‹Below wb.heap.size wb _ ∧ _›).1)); rintro e w6 ⟨rfl, hB6⟩))
  all_goals
    refine NoPanic.normal ?_
    go_wp2_with fail
    go_ret
    exact ⟨rfl, HB0.out.trans ((‹Below wb.heap.size wb _ ∧ _›).1.mono HB0.out.size)⟩
set_option maxRecDepth 100000 in
set_option maxHeartbeats 2000000 in
theorem refg_else (p : Pk) (w : World) (hr : RdB w p.ad p.body) (hg : gd p = true) (h1 : p.kind ≠ 1) (h2 : p.kind ≠ 2) :
    Calls Tryz.prog 18 #[pval p] w fun e w' => e = .returned (.bool (pulG p)) ∧ Below w.heap.size w w' := by
  obtain ⟨wb, hwb⟩ : ∃ wb, Hid (wb = w.alloc (.cells p.cells 27)) := ⟨_, Lib.hid rfl⟩
  have HB0 := Lib.hid (one_box w wb _ _ hwb.out).1
  have HC := Lib.hid (pk_cells w wb p hwb.out)
  have CG := Lib.hid (fun W => rgood_any p W)
  have CS : Hid (∀ W, Below wb.heap.size wb W → Calls Tryz.prog 12 #[pval p, pval (beacP p.key p.hops p.no)] W fun e w' => e = .returned (.bool (eqP p (beacP p.key p.hops p.no))) ∧ Below wb.heap.size wb w') := Lib.hid (fun W hW => (rsame_any p (beacP p.key p.hops p.no) W (hr.below (HB0.out.trans (hW.mono HB0.out.size))) (.inl rfl)).mono fun e w' h => ⟨h.1, hW.trans (h.2.mono hW.size)⟩)
  have CQ := Lib.hid (fun W => rbeacon_any p.key p.no W)
  rw [pulG_else p h1 h2, hg, Bool.true_and]
  rw [hg] at CG
  have hk1 : (p.kind == 1) = false := by simpa using h1
  have hk2 : (p.kind == 2) = false := by simpa using h2
  obtain ⟨k3, hk3⟩ : ∃ k3, (p.kind == 3) = k3 := ⟨_, rfl⟩
  obtain ⟨n1, hn1⟩ : ∃ n1, decide (0 ≤ p.no) = n1 := ⟨_, rfl⟩
  obtain ⟨n2, hn2⟩ : ∃ n2, decide (p.no ≤ 1152921504606846976) = n2 := ⟨_, rfl⟩
  have hn1b : decide (p.no ≥ 0) = n1 := hn1
  rw [hk3, hn1, hn2]
  generalize eqP p (beacP p.key p.hops p.no) = sb at *
  clear h1 h2
  have HZ : Hid (∀ (W : World) (b : Nat), Blk W b 27 (Pk.cells (beacP p.key p.hops p.no)) → _) := Lib.hid (fun W b h => blk_cells h)
  unfold kval at CQ
  unfold beacP at CQ CS HZ
  obtain ⟨kind, ⟨t, f, s⟩, hops, no, to, index, total, stamp, value, ad, cap, body⟩ := p
  unfold pval Pk.cells at CG CQ CS
  unfold Pk.cells at hwb HZ
  unfold pval Pk.cells
  simp only [List.length_nil] at CG CQ CS hwb HC HZ hk1 hk2 hk3 hn1 hn1b hn2 ⊢
  obtain ⟨n, hn⟩ : ∃ n, body.length = n := ⟨_, rfl⟩
  simp only [hn] at CG CS hwb HC ⊢
  clear hn hr
  go_enter Tryz.func18, Tryz.ntmps18
  go_upto_region 1 with fail
  rw [← hwb.out]
  obtain ⟨c0, c1, c2, c3, c4, c5, c6, c7, c8, c9, c10, c11⟩ := HC.out wb (Below.refl _ _)
  go_wp2_with fail
  refine (CG.out _).mono ?_; rintro e w1 ⟨rfl, hB1⟩
  have HB1 := Lib.hid hB1
  clear c0 c1 c2 c3 c4 c5 c6 c7 c8 c9 c10 c11 hB1
  obtain ⟨c0, c1, c2, c3, c4, c5, c6, c7, c8, c9, c10, c11⟩ := HC.out w1 HB1.out
  go_wp2_with fail
  refine (CQ.out _).mono ?_; rintro e w2 ⟨rfl, hB2⟩
  have HB2 := Lib.hid (HB1.out.trans (hB2.mono HB1.out.size))
  clear c0 c1 c2 c3 c4 c5 c6 c7 c8 c9 c10 c11 hB2 HB1
  go_upto_region 8 with fail
  obtain ⟨W3, hW3⟩ : ∃ W3, Hid (W3 = w2.alloc (.cells #[.int .i64 3, .int .i64 t, .int .i64 f, .int .u32 s, .int .i64 1, .int .i64 no, .int .i64 0, .int .i64 0, .int .i64 0, .int .i64 0, .int .i64 0, .slice none 0 0] 27)) := ⟨_, Lib.hid rfl⟩
  rw [← hW3.out]
  have hX := one_box w2 W3 _ _ hW3.out
  have HB3 := Lib.hid (HB2.out.trans (hX.1.mono HB2.out.size))
  have k4 := hX.2.cell 4
  simp only [List.getElem?_toArray, List.getElem?_cons_succ, List.getElem?_cons_zero] at k4
  have f4 := hX.2.free 4
  have HX5 := Lib.hid (And.intro (hX.1.setCell (p := ⟨w2.heap.size, 4, none⟩) (Nat.le_refl w2.heap.size) (.int .i64 hops)) (hX.2.put 4 (.int .i64 hops)))
  obtain ⟨c0, c1, c2, c3, c4, c5, c6, c7, c8, c9, c10, c11⟩ := HC.out W3 HB3.out
  clear hX hW3
  go_upto_region 9 with fail
  generalize W3.setCell ⟨w2.heap.size, 4, none⟩ (.int .i64 hops) = W5 at *
  have HB5 := Lib.hid (HB2.out.trans (HX5.out.1.mono HB2.out.size))
  have he := HZ.out W5 _ HX5.out.2
  clear k4 f4 HX5 c0 c1 c2 c3 c4 c5 c6 c7 c8 c9 c10 c11
  obtain ⟨d0, d1, d2, d3, d4, d5, d6, d7, d8, d9, d10, d11⟩ := he
  obtain ⟨c0, c1, c2, c3, c4, c5, c6, c7, c8, c9, c10, c11⟩ := HC.out W5 HB5.out
  cases k3 with
  | false =>
    go_wp2_with fail
    go_ret
    exact ⟨by simp, HB0.out.trans (HB5.out.mono HB0.out.size)⟩
  | true =>
    go_wp2_with fail
    refine (CS.out _ HB5.out).mono ?_; rintro e w6 ⟨rfl, hB6⟩
    have HB6 := Lib.hid hB6
    clear hB6 c0 c1 c2 c3 c4 c5 c6 c7 c8 c9 c10 c11 d0 d1 d2 d3 d4 d5 d6 d7 d8 d9 d10 d11
    obtain ⟨c0, c1, c2, c3, c4, c5, c6, c7, c8, c9, c10, c11⟩ := HC.out w6 HB6.out
    cases sb with
    | false =>
      go_wp2_with fail
      go_ret
      exact ⟨by simp, HB0.out.trans (HB6.out.mono HB0.out.size)⟩
    | true =>
      cases n1 with
      | false =>
        go_wp2_with fail
        go_ret
        exact ⟨by simp, HB0.out.trans (HB6.out.mono HB0.out.size)⟩
      | true =>
        go_wp2_with fail
        go_ret
        exact ⟨by simp, HB0.out.trans (HB6.out.mono HB0.out.size)⟩
theorem refpulse_any (p : Pk) (w : World) (hr : RdB w p.ad p.body) :
    Calls Tryz.prog 18 #[pval p] w fun e w' => e = .returned (.bool (pulG p)) ∧ Below w.heap.size w w' := by
  cases hg : gd p with
  | false => exact refg_no p w hr hg
  | true =>
    by_cases h1 : p.kind = 1
    · exact refg_1 p w hr hg h1
    · by_cases h2 : p.kind = 2
      · exact refg_2 p w hr hg h2
      · exact refg_else p w hr hg h1 h2
end Go.Proofs.YtanfnhgaooafeaaGreatDoor.Pul
