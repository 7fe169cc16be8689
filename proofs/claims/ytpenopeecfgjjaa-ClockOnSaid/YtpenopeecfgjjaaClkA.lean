/- Contracts of package slew at a correction that lies at the beginning of a clock's box (layer 22), and of the clock's own calls that promote them. -/
import Derived.Test.YtpenopeecfgjjaaClkM
namespace Go.Proofs.Ytpenopeecfgjjaa.Clk
open Go.ChangeShapes Go.WideShapes Go.ChangeAt Go.RowKit
open Go.Proofs.Ytpenopeecfgjjaa.Rw Go.Proofs.Ytpenopeecfgjjaa.Slw
set_option linter.unusedVariables false
/-- A clock in memory. -/
abbrev CC (w : World) (g : Nat) (m l p a : Int) : Prop := Blk w g 53 #[.int .i64 m, .int .i64 l, .int .i64 p, .int .i64 a]
def SetP (g : Nat) (m l p a : Int) (w w' : World) : Prop := CC w' g m l p a ∧ Stay (fun k => k = g) w w'
theorem SetP.same {g : Nat} {m l p a : Int} {w : World} (h : CC w g m l p a) : SetP g m l p a w w := ⟨h, Stay.refl _ _⟩
theorem SetP.trans {g : Nat} {m l p a l' p' a' : Int} {w w1 w2 : World} (h : SetP g m l p a w w1) (h' : SetP g m l' p' a' w1 w2) : SetP g m l' p' a' w w2 :=
  ⟨h'.1, h.2.snoc h'.2 (fun k _ e => e)⟩
theorem cgrains_any (g : Nat) (m l p a : Int) (w : World) (h : CC w g m l p a) :
    Calls Try.prog 37 #[.pointer (some ⟨g, 0, none⟩)] w fun e w' => e = .returned (.int .i64 (sgV m)) ∧ w = w' := by
  have c0 := h.cell 0
  simp at c0
  have CC := Lib.hid (fun W => Span.clamp_any m 1 256 W)
  rw [show Span.clampV m 1 256 = sgV m from rfl] at CC
  clear h
  generalize sgV m = v at *
  go_enter Try.func37, Try.ntmps37
  go_wp2_with fail
  refine (CC.out _).mono ?_; rintro e w' ⟨rfl, rfl⟩
  go_wp2_with fail
  go_ret
  exact ⟨rfl, rfl⟩
theorem caim_any (g : Nat) (m l p a c : Int) (w : World) (h : CC w g m l p a) :
    Calls Try.prog 35 #[.pointer (some ⟨g, 0, none⟩), .int .i64 c] w fun e w' => e = .returned (.tuple #[]) ∧ SetP g m (saV c) p a w w' := by
  have c1 := h.cell 1
  have f1 := h.free 1
  simp at c1
  have CC := Lib.hid (fun W => Span.clamp_any c (-1152921504606846976) 1152921504606846976 W)
  rw [show Span.clampV c (-1152921504606846976) 1152921504606846976 = saV c from rfl] at CC
  have HP : Hid (SetP g m (saV c) p a w (w.setCell ⟨g, 1, none⟩ (.int .i64 (saV c)))) := Lib.hid ⟨h.put 1 _, Stay.of_grown (setCell_grown w g 1 _) (fun k e => by cases e; rfl)⟩
  clear h
  generalize saV c = v at *
  generalize SetP g m v p a w = Q at *
  go_enter Try.func35, Try.ntmps35
  go_wp2_with fail
  refine (CC.out _).mono ?_; rintro e w' ⟨rfl, rfl⟩
  go_wp2_with fail
  go_end0
  exact ⟨rfl, HP.out⟩
theorem cleft_any (g : Nat) (m l p a : Int) (w : World) (h : CC w g m l p a) :
    Calls Try.prog 34 #[.pointer (some ⟨g, 0, none⟩)] w fun e w' => e = .returned (.int .i64 l) ∧ w = w' := by
  have c1 := h.cell 1
  simp at c1
  clear h
  go_enter Try.func34, Try.ntmps34
  go_wp2_with fail
  go_ret
  exact ⟨rfl, rfl⟩
set_option maxHeartbeats 4000000 in
theorem cstep_any (g : Nat) (m l p a i : Int) (w : World) (h : CC w g m l p a) (h0 : -1152921504606846976 ≤ l) (h1 : l ≤ 1152921504606846976) :
    Calls Try.prog 36 #[.pointer (some ⟨g, 0, none⟩), .int .i64 i] w fun e w' => e = .returned (.int .i64 (siV i + smV (sgV m) l (siV i))) ∧ SetP g m (l - smV (sgV m) l (siV i)) p a w w' := by
  have CI := Lib.hid (fun W => Span.clamp_any i 0 1048576 W)
  rw [show Span.clampV i 0 1048576 = siV i from rfl] at CI
  obtain ⟨i0, i1⟩ := si_bd i
  generalize siV i = j at *
  have CG := Lib.hid (fun W (hw : CC W g m l p a) => cgrains_any g m l p a W hw)
  obtain ⟨g0, g1⟩ := sg_bd m
  generalize sgV m = v at *
  have CM := Lib.hid (fun W => Span.clamp_any l (-(min v j)) v W)
  rw [show Span.clampV l (-(min v j)) v = smV v l j from rfl] at CM
  obtain ⟨m0, m1, m2, m3, m4⟩ := sm_bd (l := l) g0 i0
  generalize smV v l j = z at *
  have HW : Hid (IntKind.i64.wrap (-(min v j)) = -(min v j)) := Lib.hid (by simp only [IntKind.wrap_i64]; omega)
  rw [← HW.out] at CM
  clear m3 m4
  have HP : Hid (SetP g m (l - z) p a w (w.drew.setCell ⟨g, 1, none⟩ (.int .i64 (l - z)))) := Lib.hid
    ⟨(h.below ((Below.refl _ _).drew)).put 1 _, (Stay.of_below ((Below.refl _ _).drew)).snoc (Stay.of_grown (setCell_grown _ g 1 _) (fun k e => by cases e; rfl)) (fun k _ e => e)⟩
  have HS := Lib.hid (h.below ((Below.refl _ _).drew))
  have c1 := h.cell 1
  have f1 := h.free 1
  simp at c1
  have HH := Lib.hid h
  clear h
  generalize SetP g m (l - z) p a w = Q at *
  go_enter Try.func36, Try.ntmps36
  go_wp2_with fail
  refine (CI.out _).mono ?_; rintro e w' ⟨rfl, rfl⟩
  go_upto_region 4 with fail
  go_cut [4, 5] from 12 (fun a b W => W = w.drew ∧ a = .int .i64 0 ∧ b = .int .i64 z)
  case first =>
    go_region_with (first | (go_at_call 37; refine (CG.out _ HS.out).mono ?_; rintro e W ⟨rfl, rfl⟩) | (go_at_call 27; refine (CM.out _).mono ?_; rintro e W ⟨rfl, rfl⟩))
    all_goals
      simp only [Act.put, List.getElem_toArray, List.getElem_cons_succ, List.getElem_cons_zero, List.setIfInBounds_toArray, List.set_cons_zero, List.set_cons_succ]
      go_wp2_with fail
      go_meet
      case rel => exact ⟨rfl, rfl, rfl⟩
  case rest =>
    obtain ⟨rfl, rfl, rfl⟩ := hcut
    clear CI CG CM HS HH
    go_wp2_with fail
    go_ret
    exact ⟨rfl, HP.out⟩
/-! The clock's own names of them. -/
theorem raim_any (g : Nat) (m l p a c : Int) (w : World) (h : CC w g m l p a) :
    Calls Try.prog 28 #[.pointer (some ⟨g, 0, none⟩), .int .i64 c] w fun e w' => e = .returned (.tuple #[]) ∧ SetP g m (saV c) p a w w' := by
  have CA := Lib.hid (caim_any g m l p a c w h)
  clear h
  generalize SetP g m (saV c) p a w = Q at *
  go_enter Try.func28, Try.ntmps28
  go_wp2_with fail
  refine (CA.out).mono ?_; rintro e w' ⟨rfl, hQ⟩
  go_wp2_with fail
  go_end0
  exact ⟨rfl, hQ⟩
theorem rleft_any (g : Nat) (m l p a : Int) (w : World) (h : CC w g m l p a) :
    Calls Try.prog 25 #[.pointer (some ⟨g, 0, none⟩)] w fun e w' => e = .returned (.int .i64 l) ∧ w = w' := by
  have CA := Lib.hid (cleft_any g m l p a w h)
  clear h
  go_enter Try.func25, Try.ntmps25
  go_wp2_with fail
  refine (CA.out).mono ?_; rintro e w' ⟨rfl, rfl⟩
  go_wp2_with fail
  go_ret
  exact ⟨rfl, rfl⟩
theorem rstep_any (g : Nat) (m l p a i : Int) (w : World) (h : CC w g m l p a) (h0 : -1152921504606846976 ≤ l) (h1 : l ≤ 1152921504606846976) :
    Calls Try.prog 29 #[.pointer (some ⟨g, 0, none⟩), .int .i64 i] w fun e w' => e = .returned (.int .i64 (siV i + smV (sgV m) l (siV i))) ∧ SetP g m (l - smV (sgV m) l (siV i)) p a w w' := by
  have CA := Lib.hid (cstep_any g m l p a i w h h0 h1)
  clear h
  generalize SetP g m (l - smV (sgV m) l (siV i)) p a w = Q at *
  generalize siV i + smV (sgV m) l (siV i) = z at *
  go_enter Try.func29, Try.ntmps29
  go_wp2_with fail
  refine (CA.out).mono ?_; rintro e w' ⟨rfl, hQ⟩
  go_wp2_with fail
  go_ret
  exact ⟨rfl, hQ⟩
end Go.Proofs.Ytpenopeecfgjjaa.Clk
