/- Contracts of package clock (layer 22): every call, of a clock in a box of four cells, and of nil. -/
import Derived.Test.YtpenopeecfgjjaaClkA
import Derived.Deep.MidRow
namespace Go.Proofs.Ytpenopeecfgjjaa.Clk
open Go.ChangeShapes Go.WideShapes Go.ChangeAt Go.RowKit
open Go.Proofs.Ytpenopeecfgjjaa.Rw Go.Proofs.Ytpenopeecfgjjaa.Slw
set_option linter.unusedVariables false
theorem set_any (g : Nat) (m l p a q t : Int) (w : World) (h : CC w g m l p a) :
    Calls Try.prog 26 #[.pointer (some ⟨g, 0, none⟩), .int .i64 q, .int .i64 t] w fun e w' => e = .returned (.tuple #[]) ∧ SetP g m l q (tiV t) w w' := by
  have CT := Lib.hid (fun W => Span.clamp_any t 0 1152921504606846976 W)
  rw [show Span.clampV t 0 1152921504606846976 = tiV t from rfl] at CT
  have HP : Hid (SetP g m l q (tiV t) w ((w.setCell ⟨g, 2, none⟩ (.int .i64 q)).setCell ⟨g, 3, none⟩ (.int .i64 (tiV t)))) := Lib.hid
    ⟨(h.put 2 _).put 3 _, (Stay.of_grown (setCell_grown w g 2 _) (fun k e => by cases e; rfl)).snoc (Stay.of_grown (setCell_grown _ g 3 _) (fun k e => by cases e; rfl)) (fun k _ e => e)⟩
  have c2 := h.cell 2
  have f2 := h.free 2
  have c3 := h.cell 3
  have f3 := h.free 3
  simp at c2 c3
  clear h
  generalize tiV t = v at *
  generalize SetP g m l q v w = Q at *
  go_enter Try.func26, Try.ntmps26
  go_wp2_with fail
  refine (CT.out _).mono ?_; rintro e w' ⟨rfl, rfl⟩
  go_wp2_with fail
  go_end0
  exact ⟨rfl, HP.out⟩
/-! Boot, Guess, Correct, Reset. -/
theorem boot_yes (g : Nat) (m l a t : Int) (w : World) (h : CC w g m l 0 a) :
    Calls Try.prog 14 #[.pointer (some ⟨g, 0, none⟩), .int .i64 t] w fun e w' => e = .returned (.int .i64 0) ∧ SetP g m l 2 (tiV t) w w' := by
  have CS := Lib.hid (set_any g m l 0 a 2 t w h)
  have c2 := h.cell 2
  simp at c2
  clear h
  generalize SetP g m l 2 (tiV t) w = Q at *
  go_enter Try.func14, Try.ntmps14
  go_wp2_with fail
  refine (CS.out).mono ?_; rintro e w' ⟨rfl, hQ⟩
  go_wp2_with fail
  go_ret
  exact ⟨rfl, hQ⟩
theorem boot_no (g : Nat) (m l p a t : Int) (hp : p ≠ 0) (w : World) (h : CC w g m l p a) :
    Calls Try.prog 14 #[.pointer (some ⟨g, 0, none⟩), .int .i64 t] w fun e w' => e = .returned (.int .i64 14) ∧ w = w' := by
  have e1 : (p != 0) = true := bne_iff_ne.2 hp
  have c2 := h.cell 2
  simp at c2
  clear h hp
  go_enter Try.func14, Try.ntmps14
  go_wp2_with fail
  go_ret
  exact ⟨rfl, rfl⟩
theorem guess_yes (g : Nat) (m l p a t : Int) (hp : p ≠ 2) (w : World) (h : CC w g m l p a) :
    Calls Try.prog 15 #[.pointer (some ⟨g, 0, none⟩), .int .i64 t] w fun e w' => e = .returned (.int .i64 0) ∧ SetP g m l 1 (tiV t) w w' := by
  have CS := Lib.hid (set_any g m l p a 1 t w h)
  have e1 : (p == 2) = false := beq_eq_false_iff_ne.2 hp
  have c2 := h.cell 2
  simp at c2
  clear h hp
  generalize SetP g m l 1 (tiV t) w = Q at *
  go_enter Try.func15, Try.ntmps15
  go_wp2_with fail
  refine (CS.out).mono ?_; rintro e w' ⟨rfl, hQ⟩
  go_wp2_with fail
  go_ret
  exact ⟨rfl, hQ⟩
theorem guess_no (g : Nat) (m l a t : Int) (w : World) (h : CC w g m l 2 a) :
    Calls Try.prog 15 #[.pointer (some ⟨g, 0, none⟩), .int .i64 t] w fun e w' => e = .returned (.int .i64 14) ∧ w = w' := by
  have c2 := h.cell 2
  simp at c2
  clear h
  go_enter Try.func15, Try.ntmps15
  go_wp2_with fail
  go_ret
  exact ⟨rfl, rfl⟩
theorem correct_cold (g : Nat) (m l a d : Int) (w : World) (h : CC w g m l 0 a) :
    Calls Try.prog 16 #[.pointer (some ⟨g, 0, none⟩), .int .i64 d] w fun e w' => e = .returned (.int .i64 14) ∧ w = w' := by
  have c2 := h.cell 2
  simp at c2
  clear h
  go_enter Try.func16, Try.ntmps16
  go_wp2_with fail
  go_ret
  exact ⟨rfl, rfl⟩
set_option maxHeartbeats 4000000 in
theorem correct_rough (g : Nat) (m l a d : Int) (a0 : 0 ≤ a) (a1 : a ≤ 1152921504606846976) (w : World) (h : CC w g m l 1 a) :
    Calls Try.prog 16 #[.pointer (some ⟨g, 0, none⟩), .int .i64 d] w fun e w' => e = .returned (.int .i64 0) ∧ SetP g m l 2 (tiV (a + saV d)) w w' := by
  have CC1 := Lib.hid (fun W => Span.clamp_any d (-1152921504606846976) 1152921504606846976 W)
  rw [show Span.clampV d (-1152921504606846976) 1152921504606846976 = saV d from rfl] at CC1
  obtain ⟨s0, s1⟩ := sa_bd d
  have CS := Lib.hid (fun W (hW : CC W g m l 1 a) => set_any g m l 1 a 2 (a + saV d) W hW)
  have HK : Hid (∀ W, SetP g m l 2 (tiV (a + saV d)) w.drew W → SetP g m l 2 (tiV (a + saV d)) w W) := Lib.hid (fun W hW => ⟨hW.1, (Stay.of_below ((Below.refl _ _).drew)).snoc hW.2 (fun k _ e => e)⟩)
  have HD := Lib.hid (h.below ((Below.refl _ _).drew))
  generalize saV d = s at *
  have HW : Hid (IntKind.i64.wrap (a + s) = a + s) := Lib.hid (by simp only [IntKind.wrap_i64]; omega)
  have c2 := h.cell 2
  have c3 := h.cell 3
  simp at c2 c3
  have HH := Lib.hid h
  clear h
  generalize tiV (a + s) = v at *
  rw [← HW.out] at CS
  go_enter Try.func16, Try.ntmps16
  go_upto_region 6 with fail
  go_region_with (first | (go_at_call 27; refine (CC1.out _).mono ?_; rintro e W ⟨rfl, rfl⟩) | (go_at_call 26; refine (CS.out _ (by first | exact HH.out | exact HD.out)).mono ?_; rintro e W ⟨rfl, hQ⟩))
  all_goals
    go_wp2_with fail
    go_ret
    exact ⟨rfl, by first | exact hQ | exact HK.out _ hQ⟩
theorem correct_synced (g : Nat) (m l a d : Int) (w : World) (h : CC w g m l 2 a) :
    Calls Try.prog 16 #[.pointer (some ⟨g, 0, none⟩), .int .i64 d] w fun e w' => e = .returned (.int .i64 0) ∧ SetP g m (saV d) 2 a w w' := by
  have CA := Lib.hid (raim_any g m l 2 a d w h)
  have c2 := h.cell 2
  simp at c2
  clear h
  generalize SetP g m (saV d) 2 a w = Q at *
  go_enter Try.func16, Try.ntmps16
  go_wp2_with fail
  refine (CA.out).mono ?_; rintro e w' ⟨rfl, hQ⟩
  go_wp2_with fail
  go_ret
  exact ⟨rfl, hQ⟩
theorem reset_any (g : Nat) (m l p a : Int) (w : World) (h : CC w g m l p a) :
    Calls Try.prog 17 #[.pointer (some ⟨g, 0, none⟩)] w fun e w' => e = .returned (.tuple #[]) ∧ SetP g m 0 0 0 w w' := by
  have CA := Lib.hid (raim_any g m l p a 0 w h)
  rw [show saV 0 = 0 from rfl] at CA
  have CS : Hid (∀ W, SetP g m 0 p a w W → Calls Try.prog 26 #[.pointer (some ⟨g, 0, none⟩), .int .i64 0, .int .i64 0] W fun e w' => e = .returned (.tuple #[]) ∧ SetP g m 0 0 0 w w') := Lib.hid (fun W hW => by
    refine (set_any g m 0 p a 0 0 W hW.1).mono ?_
    rintro e w' ⟨he, h2⟩
    exact ⟨he, hW.trans h2⟩)
  clear h
  generalize SetP g m 0 p a w = Q1 at *
  generalize SetP g m 0 0 0 w = Q2 at *
  go_enter Try.func17, Try.ntmps17
  go_wp2_with fail
  refine (CA.out).mono ?_; rintro e w1 ⟨rfl, hQ⟩
  go_wp2_with fail
  refine (CS.out _ hQ).mono ?_; rintro e w2 ⟨rfl, hR⟩
  go_wp2_with fail
  go_end0
  exact ⟨rfl, hR⟩
/-! What a clock tells. -/
theorem now_cold (g : Nat) (m l a : Int) (w : World) (h : CC w g m l 0 a) :
    Calls Try.prog 10 #[.pointer (some ⟨g, 0, none⟩)] w fun e w' => e = .returned (.tuple #[.int .i64 0, .bool false]) ∧ w = w' := by
  have c2 := h.cell 2
  simp at c2
  clear h
  go_enter Try.func10, Try.ntmps10
  go_wp2_with fail
  go_ret2
  exact ⟨rfl, rfl⟩
theorem now_warm (g : Nat) (m l p a : Int) (hp : p ≠ 0) (w : World) (h : CC w g m l p a) :
    Calls Try.prog 10 #[.pointer (some ⟨g, 0, none⟩)] w fun e w' => e = .returned (.tuple #[.int .i64 a, .bool true]) ∧ w = w' := by
  have e1 : (p == 0) = false := beq_eq_false_iff_ne.2 hp
  have c2 := h.cell 2
  have c3 := h.cell 3
  simp at c2 c3
  clear h hp
  go_enter Try.func10, Try.ntmps10
  go_wp2_with fail
  go_ret2
  exact ⟨rfl, rfl⟩
theorem phase_any (g : Nat) (m l p a : Int) (w : World) (h : CC w g m l p a) :
    Calls Try.prog 11 #[.pointer (some ⟨g, 0, none⟩)] w fun e w' => e = .returned (.int .i64 p) ∧ w = w' := by
  have c2 := h.cell 2
  simp at c2
  clear h
  go_enter Try.func11, Try.ntmps11
  go_wp2_with fail
  go_ret
  exact ⟨rfl, rfl⟩
theorem left_any (g : Nat) (m l p a : Int) (w : World) (h : CC w g m l p a) :
    Calls Try.prog 12 #[.pointer (some ⟨g, 0, none⟩)] w fun e w' => e = .returned (.int .i64 l) ∧ w = w' := by
  have CA := Lib.hid (rleft_any g m l p a w h)
  clear h
  go_enter Try.func12, Try.ntmps12
  go_wp2_with fail
  refine (CA.out).mono ?_; rintro e w' ⟨rfl, rfl⟩
  go_wp2_with fail
  go_ret
  exact ⟨rfl, rfl⟩
/-! Tick. -/
theorem tick_cold (g : Nat) (m l a i : Int) (w : World) (h : CC w g m l 0 a) :
    Calls Try.prog 18 #[.pointer (some ⟨g, 0, none⟩), .int .i64 i] w fun e w' => e = .returned (.int .i64 0) ∧ w = w' := by
  have c2 := h.cell 2
  simp at c2
  clear h
  go_enter Try.func18, Try.ntmps18
  go_wp2_with fail
  go_ret
  exact ⟨rfl, rfl⟩
set_option maxHeartbeats 4000000 in
theorem tick_warm (g : Nat) (m l p a i : Int) (hp : p ≠ 0) (a0 : 0 ≤ a) (a1 : a ≤ 1152921504606846976) (w : World) (h : CC w g m l p a) (h0 : -1152921504606846976 ≤ l) (h1 : l ≤ 1152921504606846976) :
    Calls Try.prog 18 #[.pointer (some ⟨g, 0, none⟩), .int .i64 i] w fun e w' => e = .returned (.int .i64 (adV (sgV m) l a i)) ∧ SetP g m (l - smV (sgV m) l (siV i)) p (a + adV (sgV m) l a i) w w' := by
  have CT := Lib.hid (fun W (hW : CC W g m l p a) => rstep_any g m l p a i W hW h0 h1)
  rw [show siV i + smV (sgV m) l (siV i) = ztV (sgV m) l i from rfl] at CT
  obtain ⟨g0, g1⟩ := sg_bd m
  obtain ⟨z0, z1⟩ := zt_bd l i g0 g1
  generalize l - smV (sgV m) l (siV i) = r at *
  have hA : adV (sgV m) l a i = min (ztV (sgV m) l i) (1152921504606846976 - a) := rfl
  rw [hA]
  clear hA
  generalize ztV (sgV m) l i = z at *
  have HW : Hid (IntKind.i64.wrap (1152921504606846976 - a) = 1152921504606846976 - a) := Lib.hid (by simp only [IntKind.wrap_i64]; omega)
  have hY : ∃ y, Hid (min z (1152921504606846976 - a) = y) ∧ 0 ≤ y ∧ a + y ≤ 1152921504606846976 := ⟨_, Lib.hid rfl, by omega, by omega⟩
  obtain ⟨y, HY, y0, y1⟩ := hY
  rw [HY.out]
  have e1 : (p == 0) = false := beq_eq_false_iff_ne.2 hp
  have c2 := h.cell 2
  have c3 := h.cell 3
  simp at c2 c3
  have HH := Lib.hid h
  have HD := Lib.hid (h.below ((Below.refl _ _).drew))
  have HK : Hid (∀ W, SetP g m r p a w.drew W → SetP g m r p a w W) := Lib.hid (fun W hW => ⟨hW.1, (Stay.of_below ((Below.refl _ _).drew)).snoc hW.2 (fun k _ e => e)⟩)
  have HK2 : Hid (∀ W, SetP g m r p a w W → SetP g m r p a w W.drew) := Lib.hid (fun W hW => ⟨hW.1.below ((Below.refl _ _).drew), hW.2.snoc (Stay.of_below ((Below.refl _ _).drew)) (fun k _ e => e)⟩)
  clear h hp h0 h1
  go_enter Try.func18, Try.ntmps18
  go_upto_region 3 with fail
  go_cut [5] from 15 (fun b W => b = .int .i64 y ∧ Hid (SetP g m r p a w W))
  case first =>
    go_region_with (go_at_call 29; refine (CT.out _ (by first | exact HH.out | exact HD.out)).mono ?_; rintro e W ⟨rfl, hQ⟩; have c3' := hQ.1.cell 3; simp only [List.getElem?_toArray, List.getElem?_cons_succ, List.getElem?_cons_zero] at c3')
    all_goals
      try simp only [Act.put, List.getElem_toArray, List.getElem_cons_succ, List.getElem_cons_zero, List.setIfInBounds_toArray, List.set_cons_zero, List.set_cons_succ]
      go_wp2_with fail
      go_meet
      case rel => exact ⟨by rw [← HY.out]; first | rfl | rw [HW.out], Lib.hid (by first | exact hQ | exact HK.out _ hQ | exact HK2.out _ hQ)⟩
  case rest =>
    obtain ⟨rfl, hQ⟩ := hcut
    clear CT HH HD HK HK2
    have c3 := hQ.out.1.cell 3
    have f3 := hQ.out.1.free 3
    simp only [List.getElem?_toArray, List.getElem?_cons_succ, List.getElem?_cons_zero] at c3
    have HP : Hid (SetP g m r p (a + y) w (wc.setCell ⟨g, 3, none⟩ (.int .i64 (a + y)))) := Lib.hid
      ⟨hQ.out.1.put 3 _, hQ.out.2.snoc (Stay.of_grown (setCell_grown _ g 3 _) (fun k e => by cases e; rfl)) (fun k _ e => e)⟩
    clear HW HY
    go_wp2_with fail
    go_ret
    exact ⟨rfl, HP.out⟩
/-! Nil. -/
theorem nboot_any (t : Int) (w : World) :
    Calls Try.prog 14 #[.pointer none, .int .i64 t] w fun e w' => e = .returned (.int .i64 1) ∧ w = w' := by
  go_enter Try.func14, Try.ntmps14
  go_wp2_with fail
  go_ret
  exact ⟨rfl, rfl⟩
theorem nguess_any (t : Int) (w : World) :
    Calls Try.prog 15 #[.pointer none, .int .i64 t] w fun e w' => e = .returned (.int .i64 1) ∧ w = w' := by
  go_enter Try.func15, Try.ntmps15
  go_wp2_with fail
  go_ret
  exact ⟨rfl, rfl⟩
theorem ncorrect_any (t : Int) (w : World) :
    Calls Try.prog 16 #[.pointer none, .int .i64 t] w fun e w' => e = .returned (.int .i64 1) ∧ w = w' := by
  go_enter Try.func16, Try.ntmps16
  go_wp2_with fail
  go_ret
  exact ⟨rfl, rfl⟩
theorem nreset_any (w : World) :
    Calls Try.prog 17 #[.pointer none] w fun e w' => e = .returned (.tuple #[]) ∧ w = w' := by
  go_enter Try.func17, Try.ntmps17
  go_wp2_with fail
  go_returns
  exact ⟨rfl, rfl⟩
theorem nnow_any (w : World) :
    Calls Try.prog 10 #[.pointer none] w fun e w' => e = .returned (.tuple #[.int .i64 0, .bool false]) ∧ w = w' := by
  go_enter Try.func10, Try.ntmps10
  go_wp2_with fail
  go_ret2
  exact ⟨rfl, rfl⟩
theorem nphase_any (w : World) :
    Calls Try.prog 11 #[.pointer none] w fun e w' => e = .returned (.int .i64 0) ∧ w = w' := by
  go_enter Try.func11, Try.ntmps11
  go_wp2_with fail
  go_ret
  exact ⟨rfl, rfl⟩
theorem nleft_any (w : World) :
    Calls Try.prog 12 #[.pointer none] w fun e w' => e = .returned (.int .i64 0) ∧ w = w' := by
  go_enter Try.func12, Try.ntmps12
  go_wp2_with fail
  go_ret
  exact ⟨rfl, rfl⟩
theorem ntick_any (i : Int) (w : World) :
    Calls Try.prog 18 #[.pointer none, .int .i64 i] w fun e w' => e = .returned (.int .i64 0) ∧ w = w' := by
  go_enter Try.func18, Try.ntmps18
  go_wp2_with fail
  go_ret
  exact ⟨rfl, rfl⟩
/-- A new clock: slew's New makes a correction of its own first, which is copied. -/
def NewPost (w : World) (m : Int) (e : Ending) (w' : World) : Prop := ∃ g, e = .returned (.pointer (some ⟨g, 0, none⟩)) ∧ w.heap.size ≤ g ∧ CC w' g m 0 0 0 ∧ Below w.heap.size w w'
theorem new_any (m : Int) (w : World) :
    Calls Try.prog 7 #[.int .i64 m] w (NewPost w m) := by
  have CN := Lib.hid (fun W => snew_any m W)
  have HP : Hid (∀ W, Slw.NewPost w m W → NewPost w m (.returned (.pointer (some ⟨W.heap.size, 0, none⟩))) (W.alloc (.cells #[.int .i64 m, .int .i64 0, .int .i64 0, .int .i64 0] 53))) := Lib.hid (fun W h =>
    ⟨_, rfl, h.2.size, Blk.new _ _ _, h.2.trans ((Below.refl _ _).alloc h.2.size _)⟩)
  generalize NewPost w m = Q at *
  go_enter Try.func7, Try.ntmps7
  go_wp2_with fail
  refine (CN.out _).mono ?_; rintro e w' ⟨rfl, hP⟩
  have c0 := hP.1.cell 0
  have c1 := hP.1.cell 1
  simp only [List.getElem?_toArray, List.getElem?_cons_succ, List.getElem?_cons_zero] at c0 c1
  have HR := Lib.hid (HP.out _ hP)
  clear hP HP
  go_wp2_with fail
  exact HR.out
end Go.Proofs.Ytpenopeecfgjjaa.Clk
