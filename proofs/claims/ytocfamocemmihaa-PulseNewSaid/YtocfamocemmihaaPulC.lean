/- May a packet be (layer 11): Good. -/
import Derived.Test.YtocfamocemmihaaPulB
import Derived.Deep.RegionHeldLaw
namespace Go.Proofs.Ytocfamocemmihaa.Pul
open Go.ChangeShapes Go.WideShapes Go.ChangeAt Go.RowKit Go.Deep
open Go.Proofs.Ytocfamocemmihaa.Byt Go.Proofs.Ytocfamocemmihaa.Key Go.Proofs.Ytocfamocemmihaa.Buf Go.Proofs.Ytocfamocemmihaa.Hed Go.Proofs.Ytocfamocemmihaa.Dat
set_option linter.unusedVariables false
set_option linter.unusedSimpArgs false
theorem eq_pts (a b c : Bool) (w : World) : (Op.equalIn 10000 55 (.agg (pcs a b c)) (.agg (pcs false false false))).run Try.prog w = .ok (!(a || (b || c))) w := by
  have hS : Try.prog.underlying 55 = some (.struct (Try.prog.fieldsOf 55)) := by kernel_rfl
  have hp : Try.prog.stoodInHeld 55 = false := by kernel_rfl
  unfold pcs
  rw [show (10000 : Nat) = 9999 + 1 from rfl, run_equalIn_struct w 9999 55 _ _ hS hp]
  simp only [Program.fieldsOf, Try.underlying55]
  go_simp
  cases a <;> cases b <;> cases c <;> simp
theorem eq_pts_bin (a b c : Bool) (w : World) : (binOp .eql 55 (.agg #[.bool a, .bool b, .bool c]) (.agg #[.bool false, .bool false, .bool false])).run Try.prog w = .ok (.bool (!(a || (b || c)))) w := by
  have h := eq_pts a b c w
  unfold pcs at h
  show Sem.run Try.prog (Value.bool <$> Op.equalIn 10000 55 (.agg #[.bool a, .bool b, .bool c]) (.agg #[.bool false, .bool false, .bool false])) w = _
  generalize (Value.agg #[.bool a, .bool b, .bool c]) = v1 at *
  generalize (Value.agg #[.bool false, .bool false, .bool false]) = v2 at *
  simp [h]
theorem eq_pts_guard (a b c : Bool) (x y : Operand) (w : World) : (eqGuard .eql 55 x y (.agg #[.bool a, .bool b, .bool c]) (.agg #[.bool false, .bool false, .bool false])).run Try.prog w = .ok () w := by
  go_simp
theorem kk_pts (k : Int) : (!((k == 1 || k == 2) || ((k == 2) || (k == 3)))) = !(kk k) := by
  unfold kk
  generalize (k == 1) = a
  generalize (k == 2) = b
  generalize (k == 3) = c
  cases a <;> cases b <;> cases c <;> rfl
set_option maxRecDepth 100000 in
set_option maxHeartbeats 2000000 in
theorem pgood_any (p : Pk) (w : World) (hr : RdB w p.ad p.body) :
    Calls Try.prog 17 #[pval p] w fun e w' => e = .returned (.bool (pulG p)) ∧ Below w.heap.size w w' := by
  obtain ⟨wb, hwb⟩ : ∃ wb, Hid (wb = w.alloc (.cells p.cells 27)) := ⟨_, Lib.hid rfl⟩
  have HB0 := Lib.hid (one_box w wb _ _ hwb.out).1
  have HC := Lib.hid (pk_cells w wb p hwb.out)
  have CP := Lib.hid (fun W => parts_any p.kind W)
  have CG := Lib.hid (fun W => good_any p W)
  have CI := Lib.hid (fun W => isno_any p.no W)
  have CA := Lib.hid (fun (h : kk p.kind = true) W => aside_any p W h)
  have CS : Hid (∀ W, Below wb.heap.size wb W → Calls Try.prog 31 #[pval (offP p), pval (headP p)] W fun e w' => e = .returned (.bool (eqP (offP p) (headP p))) ∧ Below W.heap.size W w') := Lib.hid (fun W hW => hsame_any (offP p) (headP p) W (by
    have : (offP p).ad = p.ad ∧ (offP p).body = p.body := by unfold offP; split <;> (try split) <;> exact ⟨rfl, rfl⟩
    rw [this.1, this.2]
    exact hr.below (HB0.out.trans (hW.mono HB0.out.size))) (.inl rfl))
  have HE := Lib.hid (fun W => eq_pts_bin (p.kind == 1 || p.kind == 2) (p.kind == 2) (p.kind == 3) W)
  have HG := Lib.hid (fun x y W => eq_pts_guard (p.kind == 1 || p.kind == 2) (p.kind == 2) (p.kind == 3) x y W)
  rw [kk_pts] at HE
  unfold pulG
  unfold kcs pcs at CP CA
  generalize (p.kind == 1 || p.kind == 2) = pa at *
  generalize (p.kind == 2) = pb at *
  generalize (p.kind == 3) = pc at *
  generalize kk p.kind = z at *
  generalize eqP (offP p) (headP p) = sb at *
  generalize gd p = gb at *
  generalize noOk p.no = nb at *
  obtain ⟨vo, hvo⟩ : ∃ vo, Hid (vo = pval (offP p)) := ⟨_, Lib.hid rfl⟩
  rw [← hvo.out] at CA CS
  unfold headP at CS
  obtain ⟨kind, ⟨t, f, s⟩, hops, no, to, index, total, stamp, value, ad, cap, body⟩ := p
  unfold pval Pk.cells at CG CS CA
  unfold Pk.cells at hwb
  unfold pval Pk.cells
  simp only [List.length_nil] at CP CG CI CA CS hwb HC ⊢
  obtain ⟨n, hn⟩ : ∃ n, body.length = n := ⟨_, rfl⟩
  simp only [hn] at CG CA hwb HC ⊢
  clear hn hr hvo
  have hE := HE.out
  have hG := HG.out
  go_enter Try.func17, Try.ntmps17
  go_upto_region 1 with fail
  rw [← hwb.out]
  obtain ⟨c0, c1, c2, c3, c4, c5, c6, c7, c8, c9, c10, c11⟩ := HC.out wb (Below.refl _ _)
  go_wp2_with fail
  refine (CP.out _).mono ?_; rintro e w1 ⟨rfl, hB1⟩
  have HB1 := Lib.hid hB1
  clear hB1 c0 c1 c2 c3 c4 c5 c6 c7 c8 c9 c10 c11 CP
  go_upto_region 2 with fail
  obtain ⟨W2, hW2⟩ : ∃ W2, Hid (W2 = w1.alloc (.cells #[.bool pa, .bool pb, .bool pc] 55)) := ⟨_, Lib.hid rfl⟩
  rw [← hW2.out]
  have hX := one_box w1 W2 _ _ hW2.out
  have HB2 := Lib.hid (HB1.out.trans (hX.1.mono HB1.out.size))
  have HP : Hid (∀ W, Below W2.heap.size W2 W → _ ∧ _ ∧ _) := Lib.hid (fun W hW => ⟨(hX.2.below hW).cell 0, (hX.2.below hW).cell 1, (hX.2.below hW).cell 2⟩)
  simp only [List.getElem?_toArray, List.getElem?_cons_succ, List.getElem?_cons_zero] at HP
  obtain ⟨c0, c1, c2, c3, c4, c5, c6, c7, c8, c9, c10, c11⟩ := HC.out W2 HB2.out
  obtain ⟨p0, p1, p2⟩ := HP.out W2 (Below.refl _ _)
  clear hX hW2 HB1
  cases z with
  | false =>
    go_wp2_with fail
    go_ret
    exact ⟨by simp, HB0.out.trans (HB2.out.mono HB0.out.size)⟩
  | true =>
    go_wp2_with fail
    refine (CG.out _).mono ?_; rintro e w3 ⟨rfl, hB3⟩
    have HB3 := Lib.hid hB3
    clear hB3 c0 c1 c2 c3 c4 c5 c6 c7 c8 c9 c10 c11 p0 p1 p2 CG
    cases gb with
    | false =>
      go_wp2_with fail
      go_ret
      exact ⟨by simp, HB0.out.trans ((HB2.out.trans (HB3.out.mono HB2.out.size)).mono HB0.out.size)⟩
    | true =>
      obtain ⟨c0, c1, c2, c3, c4, c5, c6, c7, c8, c9, c10, c11⟩ := HC.out w3 (HB2.out.trans (HB3.out.mono HB2.out.size))
      go_wp2_with fail
      refine (CI.out _).mono ?_; rintro e w4 ⟨rfl, rfl⟩
      cases nb with
      | false =>
        go_wp2_with fail
        go_ret
        exact ⟨by simp, HB0.out.trans ((HB2.out.trans (HB3.out.mono HB2.out.size)).mono HB0.out.size)⟩
      | true =>
        have HH : Hid (∀ W, Below W2.heap.size W2 W → ((W.cell? ⟨w.heap.size, 0, none⟩ = some (.int .i64 kind) ∧ W.cell? ⟨w.heap.size, 1, none⟩ = some (.int .i64 t) ∧ W.cell? ⟨w.heap.size, 2, none⟩ = some (.int .i64 f) ∧ W.cell? ⟨w.heap.size, 3, none⟩ = some (.int .u32 s) ∧ W.cell? ⟨w.heap.size, 4, none⟩ = some (.int .i64 hops) ∧ W.cell? ⟨w.heap.size, 5, none⟩ = some (.int .i64 no) ∧ W.cell? ⟨w.heap.size, 6, none⟩ = some (.int .i64 to) ∧ W.cell? ⟨w.heap.size, 7, none⟩ = some (.int .i64 index) ∧ W.cell? ⟨w.heap.size, 8, none⟩ = some (.int .i64 total) ∧ W.cell? ⟨w.heap.size, 9, none⟩ = some (.int .i64 stamp) ∧ W.cell? ⟨w.heap.size, 10, none⟩ = some (.int .i64 value) ∧ W.cell? ⟨w.heap.size, 11, none⟩ = some (.slice ad n cap)) ∧ W.cell? ⟨w1.heap.size, 0, none⟩ = some (.bool pa) ∧ W.cell? ⟨w1.heap.size, 1, none⟩ = some (.bool pb) ∧ W.cell? ⟨w1.heap.size, 2, none⟩ = some (.bool pc))) := Lib.hid (fun W hW => ⟨HC.out W (HB2.out.trans (hW.mono HB2.out.size)), HP.out W hW⟩)
        have CA2 : Hid (∀ W, Below W2.heap.size W2 W → Calls Try.prog 32 #[.agg #[.int .i64 kind, .int .i64 t, .int .i64 f, .int .u32 s, .int .i64 hops, .int .i64 no, .int .i64 to, .int .i64 index, .int .i64 total, .int .i64 stamp, .int .i64 value, .slice ad n cap], .agg #[.bool pa, .bool pb, .bool pc]] W fun e w' => e = .returned vo ∧ Below W2.heap.size W2 w') := Lib.hid (fun W hW => (CA.out (by simp) W).mono fun e w' h => ⟨h.1, hW.trans (h.2.mono hW.size)⟩)
        have CS2 : Hid (∀ W, Below W2.heap.size W2 W → Calls Try.prog 31 #[vo, .agg #[.int .i64 kind, .int .i64 t, .int .i64 f, .int .u32 s, .int .i64 hops, .int .i64 0, .int .i64 0, .int .i64 0, .int .i64 0, .int .i64 0, .int .i64 0, .slice none 0 0]] W fun e w' => e = .returned (.bool sb) ∧ Below W2.heap.size W2 w') := Lib.hid (fun W hW => (CS.out W (HB2.out.trans (hW.mono HB2.out.size))).mono fun e w' h => ⟨h.1, hW.trans (h.2.mono hW.size)⟩)
        clear c0 c1 c2 c3 c4 c5 c6 c7 c8 c9 c10 c11 CA CS CI hE hG HE HG
        obtain ⟨⟨c0, c1, c2, c3, c4, c5, c6, c7, c8, c9, c10, c11⟩, p0, p1, p2⟩ := HH.out w3 HB3.out
        have hB3 := HB3.out
        go_upto_region 4 with fail
        refine wp_region_noPanic ?_
        go_region_held_law (fun W => Below W2.heap.size W2 W ∧ (W.cell? ⟨w.heap.size, 0, none⟩ = some (.int .i64 kind) ∧ W.cell? ⟨w.heap.size, 1, none⟩ = some (.int .i64 t) ∧ W.cell? ⟨w.heap.size, 2, none⟩ = some (.int .i64 f) ∧ W.cell? ⟨w.heap.size, 3, none⟩ = some (.int .u32 s) ∧ W.cell? ⟨w.heap.size, 4, none⟩ = some (.int .i64 hops) ∧ W.cell? ⟨w.heap.size, 5, none⟩ = some (.int .i64 no) ∧ W.cell? ⟨w.heap.size, 6, none⟩ = some (.int .i64 to) ∧ W.cell? ⟨w.heap.size, 7, none⟩ = some (.int .i64 index) ∧ W.cell? ⟨w.heap.size, 8, none⟩ = some (.int .i64 total) ∧ W.cell? ⟨w.heap.size, 9, none⟩ = some (.int .i64 stamp) ∧ W.cell? ⟨w.heap.size, 10, none⟩ = some (.int .i64 value) ∧ W.cell? ⟨w.heap.size, 11, none⟩ = some (.slice ad n cap)) ∧ W.cell? ⟨w1.heap.size, 0, none⟩ = some (.bool pa) ∧ W.cell? ⟨w1.heap.size, 1, none⟩ = some (.bool pb) ∧ W.cell? ⟨w1.heap.size, 2, none⟩ = some (.bool pc)) (refine ⟨?_, HH.out _ ?_⟩ <;> (first | assumption | exact Below.drew (by assumption)))
          (first
            | (go_at_call 32; (with_reducible refine (CA2.out _ ?_).mono ?_); (focus (first | assumption | exact Below.drew (by assumption) | exact (‹Below W2.heap.size W2 _ ∧ _›).1)); rintro e w5 ⟨rfl, hB5⟩)
            | (go_at_call 31; (with_reducible refine (CS2.out _ ?_).mono ?_); (focus (first | assumption | exact Below.drew (by assumption) | exact (‹Below W2.heap.size W2 _ ∧ _›).1)); rintro e w6 ⟨rfl, hB6⟩))
        all_goals
          refine NoPanic.normal ?_
          go_wp2_with fail
          go_ret
          exact ⟨by simp, HB0.out.trans ((HB2.out.trans ((‹Below W2.heap.size W2 _ ∧ _›).1.mono HB2.out.size)).mono HB0.out.size)⟩
end Go.Proofs.Ytocfamocemmihaa.Pul
