/- Contracts of the document's own answers for layer 22: a clock as a value of four. -/
import Derived.Test.YtpenopeecfgjjaaClkM
namespace Go.Proofs.Ytpenopeecfgjjaa.Clk
open Go.ChangeShapes Go.WideShapes Go.ChangeAt Go.RowKit
open Go.Proofs.Ytpenopeecfgjjaa.Rw Go.Proofs.Ytpenopeecfgjjaa.Slw
set_option linter.unusedVariables false
/-- The document's clock: phase, time, what is left, how wide. -/
def rkV (p a l v : Int) : Value := .agg #[.int .i64 p, .int .i64 a, .int .i64 l, .int .i64 v]
/-- The result out of a cell, alone or with a second one. -/
theorem infoRk : (Try.prog.info? 28).map (·.size) = some 4 := by kernel_rfl
theorem results_rk1 {fn : Func} {i : Nat} (h : fn.results = #[.cell i 28]) (tmps : Array Value) (w : World) (g : Nat) (cs : Array Value)
    (hp : tmps.getD i undef = .pointer (some ⟨g, 0, none⟩)) (hg : Blk w g 28 cs) (hs : cs.size = 4) :
    (results fn tmps).run Try.prog w = .ok (.agg cs) w := by
  have hp' : tmps[i]?.getD undef = .pointer (some ⟨g, 0, none⟩) := by simpa using hp
  simp [results, h, hp', asAddr, run_loadVar_row w g 28 _ cs (0, 0) _ hg Try.underlying28 rfl (by rw [hs]; exact infoRk)]
theorem results_rk2 {fn : Func} {i j : Nat} (h : fn.results = #[.cell i 28, .tmp j]) (tmps : Array Value) (w : World) (g : Nat) (cs : Array Value) (v : Value)
    (hp : tmps.getD i undef = .pointer (some ⟨g, 0, none⟩)) (h3 : tmps.getD j undef = v) (hg : Blk w g 28 cs) (hs : cs.size = 4) :
    (results fn tmps).run Try.prog w = .ok (.tuple #[.agg cs, v]) w := by
  have hp' : tmps[i]?.getD undef = .pointer (some ⟨g, 0, none⟩) := by simpa using hp
  have h3' : tmps[j]?.getD undef = v := by simpa using h3
  simp [results, h, hp', h3', asAddr, run_loadVar_row w g 28 _ cs (0, 0) _ hg Try.underlying28 rfl (by rw [hs]; exact infoRk)]
/-- Four stores one behind the other into a box of four. -/
theorem put4 {w : World} {g : Nat} {t : TypeId} {a b c d : Value} (h : Blk w g t #[a, b, c, d]) (x y z u : Value) :
    Blk ((((w.setCell ⟨g, 0, none⟩ x).setCell ⟨g, 1, none⟩ y).setCell ⟨g, 2, none⟩ z).setCell ⟨g, 3, none⟩ u) g t #[x, y, z, u] :=
  (((h.put 0 x).put 1 y).put 2 z).put 3 u
theorem rtime_any (t : Int) (w : World) :
    Calls Try.prog 31 #[.int .i64 t] w fun e w' => e = .returned (.int .i64 (tiV t)) ∧ w = w' := by
  have CC := Lib.hid (fun W => Span.rclamp_any t 0 1152921504606846976 W)
  rw [show Span.clampV t 0 1152921504606846976 = tiV t from rfl] at CC
  generalize tiV t = v at *
  go_enter Try.func31, Try.ntmps31
  go_wp2_with fail
  refine (CC.out _).mono ?_; rintro e w' ⟨rfl, rfl⟩
  go_wp2_with fail
  go_ret
  exact ⟨rfl, rfl⟩
theorem rknew_any (m : Int) (w : World) :
    Calls Try.prog 8 #[.int .i64 m] w fun e w' => e = .returned (rkV 0 0 0 (sgV m)) ∧ Below w.heap.size w w' := by
  have CC := Lib.hid (fun W => rsnew_any m W)
  unfold rsV at CC
  generalize sgV m = v at *
  unfold rkV
  go_enter Try.func8, Try.ntmps8
  go_wp2_with fail
  refine (CC.out _).mono ?_; rintro e w' ⟨rfl, hB⟩
  have K := (Blk.new w _ _).below hB
  obtain ⟨k0, k1, k2, k3⟩ := blk4 K
  obtain ⟨f0, f1, f2, f3⟩ := free4 K
  have hB2 : Below w.heap.size w w' := ((Below.refl _ _).alloc (Nat.le_refl _) _).trans (hB.mono (by simp))
  have HK := Lib.hid (put4 K (.int .i64 0) (.int .i64 0) (.int .i64 0) (.int .i64 v))
  clear hB K
  go_wp2_with fail
  refine bodyPost_ret (results_rk1 rfl _ _ w.heap.size _ rfl HK.out rfl) rfl ⟨rfl, by go_grown⟩
theorem rboot_yes (a l v t : Int) (w : World) :
    Calls Try.prog 21 #[rkV 0 a l v, .int .i64 t] w fun e w' => e = .returned (.tuple #[rkV 2 (tiV t) l v, .int .i64 0]) ∧ Below w.heap.size w w' := by
  have CC := Lib.hid (fun W => rtime_any t W)
  generalize tiV t = x at *
  unfold rkV
  go_enter Try.func21, Try.ntmps21
  go_upto_region 3 with fail
  go_region_with (go_at_call 31; refine (CC.out _).mono ?_; rintro e W ⟨rfl, rfl⟩)
  all_goals
    go_wp2_with fail
    go_returns
    exact ⟨rfl, by go_grown⟩
theorem rboot_no (p a l v t : Int) (hp : p ≠ 0) (w : World) :
    Calls Try.prog 21 #[rkV p a l v, .int .i64 t] w fun e w' => e = .returned (.tuple #[rkV p a l v, .int .i64 14]) ∧ Below w.heap.size w w' := by
  have e1 : (p != 0) = true := bne_iff_ne.2 hp
  clear hp
  unfold rkV
  go_enter Try.func21, Try.ntmps21
  go_wp2_with fail
  go_returns
  exact ⟨rfl, by go_grown⟩
theorem rguess_yes (p a l v t : Int) (hp : p ≠ 2) (w : World) :
    Calls Try.prog 22 #[rkV p a l v, .int .i64 t] w fun e w' => e = .returned (.tuple #[rkV 1 (tiV t) l v, .int .i64 0]) ∧ Below w.heap.size w w' := by
  have CC := Lib.hid (fun W => rtime_any t W)
  generalize tiV t = x at *
  have e1 : (p == 2) = false := beq_eq_false_iff_ne.2 hp
  clear hp
  unfold rkV
  go_enter Try.func22, Try.ntmps22
  go_upto_region 3 with fail
  go_region_with (go_at_call 31; refine (CC.out _).mono ?_; rintro e W ⟨rfl, rfl⟩)
  all_goals
    go_wp2_with fail
    go_returns
    exact ⟨rfl, by go_grown⟩
theorem rguess_no (a l v t : Int) (w : World) :
    Calls Try.prog 22 #[rkV 2 a l v, .int .i64 t] w fun e w' => e = .returned (.tuple #[rkV 2 a l v, .int .i64 14]) ∧ Below w.heap.size w w' := by
  unfold rkV
  go_enter Try.func22, Try.ntmps22
  go_wp2_with fail
  go_returns
  exact ⟨rfl, by go_grown⟩
theorem rcorrect_cold (a l v d : Int) (w : World) :
    Calls Try.prog 23 #[rkV 0 a l v, .int .i64 d] w fun e w' => e = .returned (.tuple #[rkV 0 a l v, .int .i64 14]) ∧ Below w.heap.size w w' := by
  unfold rkV
  go_enter Try.func23, Try.ntmps23
  go_wp2_with fail
  go_returns
  exact ⟨rfl, by go_grown⟩
set_option maxHeartbeats 4000000 in
theorem rcorrect_rough (a l v d : Int) (a0 : 0 ≤ a) (a1 : a ≤ 1152921504606846976) (w : World) :
    Calls Try.prog 23 #[rkV 1 a l v, .int .i64 d] w fun e w' => e = .returned (.tuple #[rkV 2 (tiV (a + saV d)) l v, .int .i64 0]) ∧ Below w.heap.size w w' := by
  have CD := Lib.hid (fun W => Span.rclamp_any d (-1152921504606846976) 1152921504606846976 W)
  rw [show Span.clampV d (-1152921504606846976) 1152921504606846976 = saV d from rfl] at CD
  obtain ⟨s0, s1⟩ := sa_bd d
  generalize saV d = s at *
  have CC := Lib.hid (fun W => rtime_any (a + s) W)
  have HW : Hid (IntKind.i64.wrap (a + s) = a + s) := Lib.hid (by simp only [IntKind.wrap_i64]; omega)
  generalize tiV (a + s) = x at *
  rw [← HW.out] at CC
  unfold rkV
  go_enter Try.func23, Try.ntmps23
  go_upto_region 4 with fail
  go_region_with (first | (go_at_call 30; refine (CD.out _).mono ?_; rintro e W ⟨rfl, rfl⟩) | (go_at_call 31; refine (CC.out _).mono ?_; rintro e W ⟨rfl, rfl⟩))
  all_goals
    go_wp2_with fail
    go_returns
    exact ⟨rfl, by go_grown⟩
set_option maxHeartbeats 4000000 in
theorem rcorrect_synced (a l v d : Int) (w : World) :
    Calls Try.prog 23 #[rkV 2 a l v, .int .i64 d] w fun e w' => e = .returned (.tuple #[rkV 2 a (saV d) v, .int .i64 0]) ∧ Below w.heap.size w w' := by
  have CD := Lib.hid (fun W => rsaim_any l v d W)
  unfold rsV at CD
  generalize saV d = s at *
  unfold rkV
  go_enter Try.func23, Try.ntmps23
  go_upto_region 5 with fail
  go_region_with (go_at_call 32; refine (CD.out _).mono ?_; rintro e W ⟨rfl, hB⟩; obtain ⟨K1, K2, hB2⟩ := two_boxesd hB; obtain ⟨k0, k1, k2, k3⟩ := blk4 K1; obtain ⟨m0, m1, m2, m3⟩ := blk4 K2; obtain ⟨f0, f1, f2, f3⟩ := free4 K2; have HK := Lib.hid (put4 K2 (.int .i64 2) (.int .i64 a) (.int .i64 s) (.int .i64 v)); clear K1 K2 hB)
  all_goals
    go_wp2_with fail
    refine bodyPost_ret (results_rk2 rfl _ _ (w.heap.size + 1) _ _ rfl rfl HK.out rfl) rfl ⟨rfl, by go_grown⟩
theorem rtick_cold (a l v i : Int) (w : World) :
    Calls Try.prog 24 #[rkV 0 a l v, .int .i64 i] w fun e w' => e = .returned (.tuple #[rkV 0 a l v, .int .i64 0]) ∧ Below w.heap.size w w' := by
  unfold rkV
  go_enter Try.func24, Try.ntmps24
  go_wp2_with fail
  go_returns
  exact ⟨rfl, by go_grown⟩
end Go.Proofs.Ytpenopeecfgjjaa.Clk
