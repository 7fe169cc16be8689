/- Contracts of package rate (layer 20): a hardware clock as a box of two cells; method values; the document's Tick. -/
import Derived.Test.YtfkhennfnlfcdaaRatA
import Derived.Test.YtfkhennfnlfcdaaRowB
import Derived.BigRegion
import Derived.Deep.Cut
namespace Go.Proofs.Ytfkhennfnlfcdaa.Rat
open Go.ChangeShapes Go.WideShapes Go.ChangeAt Go.RowKit
open Go.Proofs.Ytfkhennfnlfcdaa.Rw
set_option linter.unusedVariables false
/-- What a clock tells behind a tick. -/
def goV (a d : Int) : Int := min (a + incV d) 1152921504606846976
theorem go_bd {a : Int} (d : Int) (h0 : 0 ≤ a) (h1 : a ≤ 1152921504606846976) : a ≤ goV a d ∧ goV a d ≤ 1152921504606846976 := by
  have := inc_bd d
  unfold goV
  omega
/-- A hardware clock in memory. -/
abbrev HC (w : World) (g : Nat) (a d : Int) : Prop := Blk w g 44 #[.int .i64 a, .int .i64 d]
theorem hnow_any (g : Nat) (a d : Int) (w : World) (h : HC w g a d) :
    Calls Try.prog 25 #[.pointer (some ⟨g, 0, none⟩)] w fun e w' => e = .returned (.int .i64 a) ∧ w = w' := by
  have c0 := h.cell 0
  simp at c0
  clear h
  go_enter Try.func25, Try.ntmps25
  go_wp2_with fail
  go_ret
  exact ⟨rfl, rfl⟩
theorem nnow_any (w : World) :
    Calls Try.prog 25 #[.pointer none] w fun e w' => e = .returned (.int .i64 0) ∧ w = w' := by
  go_enter Try.func25, Try.ntmps25
  go_wp2_with fail
  go_ret
  exact ⟨rfl, rfl⟩
def SetPost (g : Nat) (a d : Int) (w w' : World) : Prop := HC w' g a d ∧ Stay (fun k => k = g) w w'
theorem hdrift_any (g : Nat) (a d x : Int) (w : World) (h : HC w g a d) :
    Calls Try.prog 26 #[.pointer (some ⟨g, 0, none⟩), .int .i64 x] w fun e w' => e = .returned (.tuple #[]) ∧ SetPost g a x w w' := by
  have c1 := h.cell 1
  have f1 := h.free 1
  simp at c1
  have HP : Hid (SetPost g a x w (w.setCell ⟨g, 1, none⟩ (.int .i64 x))) := Lib.hid ⟨h.put 1 _, Stay.of_grown (setCell_grown w g 1 _) (fun k e => by cases e; rfl)⟩
  clear h
  generalize SetPost g a x w = Q at *
  go_enter Try.func26, Try.ntmps26
  go_wp2_with fail
  go_end0
  exact ⟨rfl, HP.out⟩
theorem ndrift_any (x : Int) (w : World) :
    Calls Try.prog 26 #[.pointer none, .int .i64 x] w fun e w' => e = .returned (.tuple #[]) ∧ w = w' := by
  go_enter Try.func26, Try.ntmps26
  go_wp2_with fail
  go_end0
  exact ⟨rfl, rfl⟩
set_option maxHeartbeats 4000000 in
theorem hstep_any (g : Nat) (a d : Int) (w : World) (h : HC w g a d) (h0 : 0 ≤ a) (h1 : a ≤ 1152921504606846976) :
    Calls Try.prog 32 #[.pointer (some ⟨g, 0, none⟩)] w fun e w' => e = .returned (.tuple #[]) ∧ SetPost g (goV a d) d w w' := by
  have CI := Lib.hid (fun W => rtinc_any d W)
  have HP : Hid (SetPost g (goV a d) d w (w.setCell ⟨g, 0, none⟩ (.int .i64 (goV a d))).drew) := Lib.hid
    ⟨h.put 0 _, (Stay.of_grown (setCell_grown _ g 0 _) (fun k e => by cases e; rfl)).snoc (Stay.of_below ((Below.refl _ _).drew)) (fun k _ e => e)⟩
  obtain ⟨i0, i1⟩ := inc_bd d
  have hG : goV a d = min (a + incV d) 1152921504606846976 := rfl
  have c0 := h.cell 0
  have c1 := h.cell 1
  have f0 := h.free 0
  have f1 := h.free 1
  simp at c0 c1
  clear h
  rw [hG] at HP
  rw [hG]
  clear hG
  generalize incV d = i at *
  have HW : Hid (IntKind.i64.wrap (a + i) = a + i) := Lib.hid (by simp only [IntKind.wrap_i64]; omega)
  generalize SetPost g (min (a + i) 1152921504606846976) d w = Q at *
  go_enter Try.func32, Try.ntmps32
  go_upto_region 1 with fail
  go_region_with (go_at_call 19; refine (CI.out _).mono ?_; rintro e W ⟨rfl, rfl⟩)
  all_goals
    rw [HW.out]
    go_end0
    exact ⟨rfl, HP.out⟩
set_option maxHeartbeats 4000000 in
theorem nstep_any (w : World) :
    Calls Try.prog 32 #[.pointer none] w fun e w' => e = .returned (.tuple #[]) ∧ w = w' := by
  go_enter Try.func32, Try.ntmps32
  go_wp2_with fail
  go_end0
  exact ⟨rfl, rfl⟩
theorem htick_any (g : Nat) (a d : Int) (w : World) (h : HC w g a d) (h0 : 0 ≤ a) (h1 : a ≤ 1152921504606846976) :
    Calls Try.prog 28 #[.pointer (some ⟨g, 0, none⟩)] w fun e w' => e = .returned (.int .i64 (goV a d - a)) ∧ SetPost g (goV a d) d w w' := by
  have CG : Hid (Calls Try.prog 31 #[.func (.func 25) #[.pointer (some ⟨g, 0, none⟩)] #[], .func (.func 32) #[.pointer (some ⟨g, 0, none⟩)] #[]] w fun e w' => e = .returned (.int .i64 (goV a d - a)) ∧ SetPost g (goV a d) d w w') := Lib.hid (by
    have eg : ∀ args w, (callFunc 25 args).run Try.prog w = .ok (.enter 25 args) w := enters_of Try.func25 (by kernel_rfl) rfl
    have es : ∀ args w, (callFunc 32 args).run Try.prog w = .ok (.enter 32 args) w := enters_of Try.func32 (by kernel_rfl) rfl
    have C1 := Lib.hid (hnow_any g a d w h)
    have C2 := Lib.hid (hstep_any g a d w h h0 h1)
    have C3 := Lib.hid (fun w' (hp : SetPost g (goV a d) d w w') => hnow_any g (goV a d) d w' hp.1)
    obtain ⟨b0, b1⟩ := go_bd d h0 h1
    clear h
    generalize goV a d = b at *
    generalize SetPost g b d w = Q at *
    go_enter Try.func31, Try.ntmps31
    go_wp2_with (go_at_fn 25; refine C1.out.mono ?_; rintro e w' ⟨rfl, rfl⟩)
    refine C2.out.mono ?_; rintro e w1 ⟨rfl, hQ⟩
    have C4 := Lib.hid (C3.out w1 hQ)
    go_wp2_with fail
    refine C4.out.mono ?_; rintro e w2 ⟨rfl, rfl⟩
    go_wp2_with fail
    go_ret
    exact ⟨rfl, hQ⟩)
  have hmf : ∀ (fn : Fn) (first cap : Array Value) (w : World), (Instr.makeFunc fn first cap).run Try.prog w = .ok (.func fn first cap) w := fun _ _ _ _ => rfl
  clear h h0 h1
  generalize SetPost g (goV a d) d w = Q at *
  generalize goV a d = b at *
  go_enter Try.func28, Try.ntmps28
  go_wp2_with fail
  refine (CG.out).mono ?_; rintro e w' ⟨rfl, HQ⟩
  go_wp2_with fail
  go_ret
  exact ⟨rfl, HQ⟩
theorem ntick_any (w : World) :
    Calls Try.prog 28 #[.pointer none] w fun e w' => e = .returned (.int .i64 0) ∧ w = w' := by
  have CG : Hid (Calls Try.prog 31 #[.func (.func 25) #[.pointer none] #[], .func (.func 32) #[.pointer none] #[]] w fun e w' => e = .returned (.int .i64 0) ∧ w = w') := Lib.hid (by
    have eg : ∀ args w, (callFunc 25 args).run Try.prog w = .ok (.enter 25 args) w := enters_of Try.func25 (by kernel_rfl) rfl
    have es : ∀ args w, (callFunc 32 args).run Try.prog w = .ok (.enter 32 args) w := enters_of Try.func32 (by kernel_rfl) rfl
    have C1 := Lib.hid (fun W => nnow_any W)
    have C2 := Lib.hid (fun W => nstep_any W)
    go_enter Try.func31, Try.ntmps31
    go_wp2_with fail
    refine (C1.out _).mono ?_; rintro e w' ⟨rfl, rfl⟩
    go_wp2_with fail
    refine (C2.out _).mono ?_; rintro e w' ⟨rfl, rfl⟩
    go_wp2_with fail
    refine (C1.out _).mono ?_; rintro e w' ⟨rfl, rfl⟩
    go_wp2_with fail
    go_ret
    exact ⟨rfl, rfl⟩)
  have hmf : ∀ (fn : Fn) (first cap : Array Value) (w : World), (Instr.makeFunc fn first cap).run Try.prog w = .ok (.func fn first cap) w := fun _ _ _ _ => rfl
  go_enter Try.func28, Try.ntmps28
  go_wp2_with fail
  refine (CG.out).mono ?_; rintro e w' ⟨rfl, rfl⟩
  go_wp2_with fail
  go_ret
  exact ⟨rfl, rfl⟩
/-- A new clock. -/
def NewPost (w : World) (a : Int) (w' : World) : Prop := HC w' w.heap.size a 0 ∧ Below w.heap.size w w'
theorem hnew_any (a : Int) (w : World) :
    Calls Try.prog 23 #[.int .i64 a] w fun e w' => e = .returned (.pointer (some ⟨w.heap.size, 0, none⟩)) ∧ NewPost w (Span.clampV a 0 1152921504606846976) w' := by
  have CC := Lib.hid (fun W => Span.clamp_any a 0 1152921504606846976 W)
  generalize Span.clampV a 0 1152921504606846976 = c at *
  have HP : Hid (NewPost w c (w.alloc (.cells #[.int .i64 c, .int .i64 0] 44))) := Lib.hid ⟨Blk.new w _ _, (Below.refl _ _).alloc (Nat.le_refl _) _⟩
  generalize NewPost w c = Q at *
  go_enter Try.func23, Try.ntmps23
  go_wp2_with fail
  refine (CC.out _).mono ?_; rintro e w' ⟨rfl, rfl⟩
  go_wp2_with fail
  go_ret
  exact ⟨rfl, HP.out⟩
/-- The document's own tick. -/
theorem rrtick_any (a d : Int) (h0 : 0 ≤ a) (h1 : a ≤ 1152921504606846976) (w : World) :
    Calls Try.prog 27 #[.int .i64 a, .int .i64 d] w fun e w' => e = .returned (.int .i64 (goV a d)) ∧ w = w' := by
  have CI := Lib.hid (fun W => rrtinc_any d W)
  have CC := Lib.hid (fun W => Span.rclamp_any (a + incV d) 0 1152921504606846976 W)
  obtain ⟨i0, i1⟩ := inc_bd d
  have hG : Span.clampV (a + incV d) 0 1152921504606846976 = goV a d := by unfold Span.clampV goV; split <;> (try split) <;> omega
  rw [hG] at CC
  clear hG
  generalize goV a d = b at *
  generalize incV d = i at *
  go_enter Try.func27, Try.ntmps27
  go_wp2_with fail
  refine (CI.out _).mono ?_; rintro e w' ⟨rfl, rfl⟩
  go_wp2_with fail
  refine (CC.out _).mono ?_; rintro e w' ⟨rfl, rfl⟩
  go_wp2_with fail
  go_ret
  exact ⟨rfl, rfl⟩
end Go.Proofs.Ytfkhennfnlfcdaa.Rat
