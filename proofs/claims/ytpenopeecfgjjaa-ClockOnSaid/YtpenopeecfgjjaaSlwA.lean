/- Contracts of package slew (layer 21) and of the document's own answers for it: a correction as a box of two cells. -/
import Derived.Test.YtpenopeecfgjjaaSpanU
import Derived.Test.YtpenopeecfgjjaaRowC
import Derived.BigRegion
import Derived.Deep.Cut
import Derived.Handy
namespace Go.Proofs.Ytpenopeecfgjjaa.Slw
open Go.ChangeShapes Go.WideShapes Go.ChangeAt Go.RowKit
open Go.Proofs.Ytpenopeecfgjjaa.Rw
set_option linter.unusedVariables false
/-- How many grains are made in a step at most. -/
def sgV (m : Int) : Int := Span.clampV m 1 256
def saV (c : Int) : Int := Span.clampV c (-1152921504606846976) 1152921504606846976
def siV (i : Int) : Int := Span.clampV i 0 1048576
/-- What is made, of l that is left, where the clock goes on by i. -/
def smV (g l i : Int) : Int := Span.clampV l (-(min g i)) g
def stV (g l : Int) : Int := Span.upV (l.natAbs : Int) g
theorem sg_bd (m : Int) : 1 ≤ sgV m ∧ sgV m ≤ 256 := by unfold sgV Span.clampV; split <;> (try split) <;> omega
theorem sa_bd (c : Int) : -1152921504606846976 ≤ saV c ∧ saV c ≤ 1152921504606846976 := by unfold saV Span.clampV; split <;> (try split) <;> omega
theorem si_bd (i : Int) : 0 ≤ siV i ∧ siV i ≤ 1048576 := by unfold siV Span.clampV; split <;> (try split) <;> omega
theorem sm_bd {g l i : Int} (g0 : 1 ≤ g) (i0 : 0 ≤ i) : -g ≤ smV g l i ∧ smV g l i ≤ g ∧ 0 ≤ i + smV g l i ∧ (0 ≤ l → 0 ≤ smV g l i ∧ smV g l i ≤ l) ∧ (l ≤ 0 → smV g l i ≤ 0 ∧ l ≤ smV g l i) := by
  unfold smV Span.clampV; split <;> (try split) <;> omega
theorem up_pos {a b : Int} (a0 : 0 ≤ a) (a1 : a ≤ 9223372036854775807) (b0 : 1 ≤ b) : Span.upV a b = -((-a) / b) ∧ Span.upB a b = true ∧ 0 ≤ Span.upV a b ∧ Span.upV a b ≤ a := by
  have h1 : Math.cdiv a b = -((-a) / b) := by unfold Math.cdiv; rw [Int.fdiv_eq_ediv_of_nonneg _ (by omega)]
  have h3 : (-a) / b ≤ 0 := by
    have := Int.ediv_le_ediv (show 0 < b by omega) (show -a ≤ 0 by omega)
    rwa [Int.zero_ediv] at this
  have h2 : -a ≤ (-a) / b := by
    refine Int.le_ediv_of_mul_le (by omega) ?_
    have : a * 1 ≤ a * b := Int.mul_le_mul_of_nonneg_left b0 a0
    rw [Int.neg_mul]
    omega
  obtain ⟨f1, f2⟩ := Span.fit_yes (Math.cdiv a b) (by rw [h1]; omega)
  unfold Span.upV Span.upB
  rw [if_neg (by omega), if_neg (by omega), f1, f2, h1]
  exact ⟨rfl, rfl, by omega, by omega⟩
theorem st_bd {g l : Int} (g0 : 1 ≤ g) (l0 : -1152921504606846976 ≤ l) (l1 : l ≤ 1152921504606846976) : 0 ≤ stV g l ∧ stV g l ≤ 1152921504606846976 := by
  obtain ⟨_, _, h0, h1⟩ := up_pos (a := (l.natAbs : Int)) (b := g) (by omega) (by omega) g0
  unfold stV
  omega
/-- A correction in memory. -/
abbrev SC (w : World) (g : Nat) (m l : Int) : Prop := Blk w g 47 #[.int .i64 m, .int .i64 l]
def AimPost (g : Nat) (m l : Int) (w w' : World) : Prop := SC w' g m l ∧ Stay (fun k => k = g) w w'
def NewPost (w : World) (m : Int) (w' : World) : Prop := SC w' w.heap.size m 0 ∧ Below w.heap.size w w'
theorem sgrains_any (g : Nat) (m l : Int) (w : World) (h : SC w g m l) :
    Calls Try.prog 37 #[.pointer (some ⟨g, 0, none⟩)] w fun e w' => e = .returned (.int .i64 (sgV m)) ∧ w = w' := by
  have c0 := h.cell 0
  simp at c0
  have CC := Lib.hid (fun W => Span.clamp_any m 1 256 W)
  rw [show Span.clampV m 1 256 = sgV m from rfl] at CC
  clear h
  generalize sgV m = v at *
  go_enter Try.func37, Try.ntmps37
  go_wp2_with fail
  refine (CC.out _).mono ?_; rintro e w' ⟨rfl, rfl⟩
  go_wp2_with fail
  go_ret
  exact ⟨rfl, rfl⟩
theorem snew_any (m : Int) (w : World) :
    Calls Try.prog 19 #[.int .i64 m] w fun e w' => e = .returned (.pointer (some ⟨w.heap.size, 0, none⟩)) ∧ NewPost w m w' := by
  have HP : Hid (NewPost w m (w.alloc (.cells #[.int .i64 m, .int .i64 0] 47))) := Lib.hid ⟨Blk.new w _ _, (Below.refl _ _).alloc (Nat.le_refl _) _⟩
  generalize NewPost w m = Q at *
  go_enter Try.func19, Try.ntmps19
  go_wp2_with fail
  go_ret
  exact ⟨rfl, HP.out⟩
theorem saim_any (g : Nat) (m l c : Int) (w : World) (h : SC w g m l) :
    Calls Try.prog 35 #[.pointer (some ⟨g, 0, none⟩), .int .i64 c] w fun e w' => e = .returned (.tuple #[]) ∧ AimPost g m (saV c) w w' := by
  have c1 := h.cell 1
  have f1 := h.free 1
  simp at c1
  have CC := Lib.hid (fun W => Span.clamp_any c (-1152921504606846976) 1152921504606846976 W)
  rw [show Span.clampV c (-1152921504606846976) 1152921504606846976 = saV c from rfl] at CC
  have HP : Hid (AimPost g m (saV c) w (w.setCell ⟨g, 1, none⟩ (.int .i64 (saV c)))) := Lib.hid ⟨h.put 1 _, Stay.of_grown (setCell_grown w g 1 _) (fun k e => by cases e; rfl)⟩
  clear h
  generalize saV c = v at *
  generalize AimPost g m v w = Q at *
  go_enter Try.func35, Try.ntmps35
  go_wp2_with fail
  refine (CC.out _).mono ?_; rintro e w' ⟨rfl, rfl⟩
  go_wp2_with fail
  go_end0
  exact ⟨rfl, HP.out⟩
theorem naim_any (c : Int) (w : World) :
    Calls Try.prog 35 #[.pointer none, .int .i64 c] w fun e w' => e = .returned (.tuple #[]) ∧ w = w' := by
  go_enter Try.func35, Try.ntmps35
  go_wp2_with fail
  go_end0
  exact ⟨rfl, rfl⟩
theorem sleft_any (g : Nat) (m l : Int) (w : World) (h : SC w g m l) :
    Calls Try.prog 34 #[.pointer (some ⟨g, 0, none⟩)] w fun e w' => e = .returned (.int .i64 l) ∧ w = w' := by
  have c1 := h.cell 1
  simp at c1
  clear h
  go_enter Try.func34, Try.ntmps34
  go_wp2_with fail
  go_ret
  exact ⟨rfl, rfl⟩
theorem nleft_any (w : World) :
    Calls Try.prog 34 #[.pointer none] w fun e w' => e = .returned (.int .i64 0) ∧ w = w' := by
  go_enter Try.func34, Try.ntmps34
  go_wp2_with fail
  go_ret
  exact ⟨rfl, rfl⟩
set_option maxHeartbeats 4000000 in
theorem sstep_any (g : Nat) (m l i : Int) (w : World) (h : SC w g m l) (h0 : -1152921504606846976 ≤ l) (h1 : l ≤ 1152921504606846976) :
    Calls Try.prog 36 #[.pointer (some ⟨g, 0, none⟩), .int .i64 i] w fun e w' => e = .returned (.int .i64 (siV i + smV (sgV m) l (siV i))) ∧ AimPost g m (l - smV (sgV m) l (siV i)) w w' := by
  have CI := Lib.hid (fun W => Span.clamp_any i 0 1048576 W)
  rw [show Span.clampV i 0 1048576 = siV i from rfl] at CI
  obtain ⟨i0, i1⟩ := si_bd i
  generalize siV i = j at *
  have CG := Lib.hid (fun W (hw : SC W g m l) => sgrains_any g m l W hw)
  obtain ⟨g0, g1⟩ := sg_bd m
  generalize sgV m = v at *
  have CM := Lib.hid (fun W => Span.clamp_any l (-(min v j)) v W)
  rw [show Span.clampV l (-(min v j)) v = smV v l j from rfl] at CM
  obtain ⟨m0, m1, m2, m3, m4⟩ := sm_bd (l := l) g0 i0
  generalize smV v l j = z at *
  have HW : Hid (IntKind.i64.wrap (-(min v j)) = -(min v j)) := Lib.hid (by simp only [IntKind.wrap_i64]; omega)
  rw [← HW.out] at CM
  clear m3 m4
  have HP : Hid (AimPost g m (l - z) w (w.drew.setCell ⟨g, 1, none⟩ (.int .i64 (l - z)))) := Lib.hid
    ⟨(h.below ((Below.refl _ _).drew)).put 1 _, (Stay.of_below ((Below.refl _ _).drew)).snoc (Stay.of_grown (setCell_grown _ g 1 _) (fun k e => by cases e; rfl)) (fun k _ e => e)⟩
  have HS := Lib.hid (h.below ((Below.refl _ _).drew))
  have c1 := h.cell 1
  have f1 := h.free 1
  simp at c1
  have HH := Lib.hid h
  clear h
  generalize AimPost g m (l - z) w = Q at *
  go_enter Try.func36, Try.ntmps36
  go_wp2_with fail
  refine (CI.out _).mono ?_; rintro e w' ⟨rfl, rfl⟩
  go_upto_region 4 with fail
  go_cut [4, 5] from 12 (fun a b W => W = w.drew ∧ a = .int .i64 0 ∧ b = .int .i64 z)
  case first =>
    go_region_with (first | (go_at_call 37; refine (CG.out _ HS.out).mono ?_; rintro e W ⟨rfl, rfl⟩) | (go_at_call 27; refine (CM.out _).mono ?_; rintro e W ⟨rfl, rfl⟩))
    all_goals
      simp only [Act.put, List.getElem_toArray, List.getElem_cons_succ, List.getElem_cons_zero, List.setIfInBounds_toArray, List.set_cons_zero, List.set_cons_succ]
      go_wp2_with fail
      go_meet
      case rel => exact ⟨rfl, rfl, rfl⟩
  case rest =>
    obtain ⟨rfl, rfl, rfl⟩ := hcut
    clear CI CG CM HS HH
    go_wp2_with fail
    go_ret
    exact ⟨rfl, HP.out⟩
theorem nstep_any (i : Int) (w : World) :
    Calls Try.prog 36 #[.pointer none, .int .i64 i] w fun e w' => e = .returned (.int .i64 (max i 0)) ∧ w = w' := by
  go_enter Try.func36, Try.ntmps36
  go_wp2_with fail
  go_ret
  exact ⟨rfl, rfl⟩
/-! The document's own: a value of two. -/
def rsV (l g : Int) : Value := .agg #[.int .i64 l, .int .i64 g]
theorem rsnew_any (m : Int) (w : World) :
    Calls Try.prog 20 #[.int .i64 m] w fun e w' => e = .returned (rsV 0 (sgV m)) ∧ Below w.heap.size w w' := by
  have CC := Lib.hid (fun W => Span.rclamp_any m 1 256 W)
  rw [show Span.clampV m 1 256 = sgV m from rfl] at CC
  generalize sgV m = v at *
  go_enter Try.func20, Try.ntmps20
  go_wp2_with fail
  refine (CC.out _).mono ?_; rintro e w' ⟨rfl, rfl⟩
  go_wp2_with fail
  go_returns
  exact ⟨rfl, by go_grown⟩
set_option maxHeartbeats 4000000 in
theorem rsaim_any (l g c : Int) (w : World) :
    Calls Try.prog 32 #[rsV l g, .int .i64 c] w fun e w' => e = .returned (rsV (saV c) g) ∧ Below w.heap.size w w' := by
  have CC := Lib.hid (fun W => Span.rclamp_any c (-1152921504606846976) 1152921504606846976 W)
  rw [show Span.clampV c (-1152921504606846976) 1152921504606846976 = saV c from rfl] at CC
  generalize saV c = v at *
  unfold rsV
  go_enter Try.func32, Try.ntmps32
  go_upto_region 1 with fail
  go_region_with (go_at_call 30; refine (CC.out _).mono ?_; rintro e W ⟨rfl, rfl⟩)
  all_goals
    go_wp2_with fail
    go_returns
    exact ⟨rfl, by go_grown⟩
theorem rs_two {a b c d g : Int} (h : a = c) (h' : b = d) : Ending.returned (.tuple #[rsV a g, .int .i64 b]) = Ending.returned (.tuple #[rsV c g, .int .i64 d]) := by rw [h, h']
set_option maxHeartbeats 1000000 in
theorem rsstep_go (l g i j z : Int) (g0 : 1 ≤ g) (g1 : g ≤ 256) (h0 : -1152921504606846976 ≤ l) (h1 : l ≤ 1152921504606846976) (i0 : 0 ≤ j) (i1 : j ≤ 1048576)
    (z0 : -256 ≤ z) (z1 : z ≤ 256) (hz : z = smV g l j) (w : World)
    (CI : Hid (∀ W, Calls Try.prog 30 #[.int .i64 i, .int .i64 0, .int .i64 1048576] W fun e w' => e = .returned (.int .i64 j) ∧ W = w')) :
    Calls Try.prog 33 #[rsV l g, .int .i64 i] w fun e w' => e = .returned (.tuple #[rsV (l - z) g, .int .i64 (j + z)]) ∧ Below w.heap.size w w' := by
  unfold rsV
  by_cases h2 : g < l
  · have e2 : decide (g < -g) = false := decide_eq_false (by omega)
    have e3 : decide (j + g < 0) = false := decide_eq_false (by omega)
    obtain rfl : z = g := by rw [hz]; unfold smV Span.clampV; split <;> (try split) <;> omega
    clear hz
    go_enter Try.func33, Try.ntmps33
    go_wp2_with fail
    refine (CI.out _).mono ?_; rintro e w' ⟨rfl, rfl⟩
    go_wp2_with fail
    go_returns
    exact ⟨rs_two (by omega) (by omega), by go_grown⟩
  · have e1 : decide (g < l) = false := decide_eq_false h2
    by_cases h3 : l < -g
    · by_cases h4 : j + -g < 0
      · obtain rfl : z = -j := by rw [hz]; unfold smV Span.clampV; split <;> (try split) <;> omega
        clear hz
        go_enter Try.func33, Try.ntmps33
        go_wp2_with fail
        refine (CI.out _).mono ?_; rintro e w' ⟨rfl, rfl⟩
        go_wp2_with fail
        go_returns
        exact ⟨rs_two (by omega) (by omega), by go_grown⟩
      · have e3 : decide (j + -g < 0) = false := decide_eq_false h4
        obtain rfl : z = -g := by rw [hz]; unfold smV Span.clampV; split <;> (try split) <;> omega
        clear hz
        go_enter Try.func33, Try.ntmps33
        go_wp2_with fail
        refine (CI.out _).mono ?_; rintro e w' ⟨rfl, rfl⟩
        go_wp2_with fail
        go_returns
        exact ⟨rs_two (by omega) (by omega), by go_grown⟩
    · have e2 : decide (l < -g) = false := decide_eq_false h3
      by_cases h4 : j + l < 0
      · obtain rfl : z = -j := by rw [hz]; unfold smV Span.clampV; split <;> (try split) <;> omega
        clear hz
        go_enter Try.func33, Try.ntmps33
        go_wp2_with fail
        refine (CI.out _).mono ?_; rintro e w' ⟨rfl, rfl⟩
        go_wp2_with fail
        go_returns
        exact ⟨rs_two (by omega) (by omega), by go_grown⟩
      · have e3 : decide (j + l < 0) = false := decide_eq_false h4
        obtain rfl : z = l := by rw [hz]; unfold smV Span.clampV; split <;> (try split) <;> omega
        clear hz
        go_enter Try.func33, Try.ntmps33
        go_wp2_with fail
        refine (CI.out _).mono ?_; rintro e w' ⟨rfl, rfl⟩
        go_wp2_with fail
        go_returns
        exact ⟨rs_two (by omega) (by omega), by go_grown⟩
theorem rsstep_any (l g i : Int) (g0 : 1 ≤ g) (g1 : g ≤ 256) (h0 : -1152921504606846976 ≤ l) (h1 : l ≤ 1152921504606846976) (w : World) :
    Calls Try.prog 33 #[rsV l g, .int .i64 i] w fun e w' => e = .returned (.tuple #[rsV (l - smV g l (siV i)) g, .int .i64 (siV i + smV g l (siV i))]) ∧ Below w.heap.size w w' := by
  obtain ⟨i0, i1⟩ := si_bd i
  obtain ⟨m0, m1, m2, m3, m4⟩ := sm_bd (l := l) g0 i0
  exact rsstep_go l g i (siV i) _ g0 g1 h0 h1 i0 i1 (by omega) (by omega) rfl w (Lib.hid (fun W => Span.rclamp_any i 0 1048576 W))
end Go.Proofs.Ytpenopeecfgjjaa.Slw
