/- Contracts of package drift (layer 28): times, pace, spread, what a watch tells; the document's own times and who is told. -/
import Derived.Test.YtmkdemdeejhonaaDoorDrfR
import Derived.Test.YtmkdemdeejhonaaDoorSpanB
import Derived.Test.YtmkdemdeejhonaaDoorNodesA
import Derived.Test.YtmkdemdeejhonaaDoorOwnA
import Derived.Test.YtmkdemdeejhonaaDoorQuiB
import Derived.BigQuiet
import Derived.Deep.Cut
namespace Go.Proofs.YtmkdemdeejhonaaDoor.Drf
open Go.ChangeShapes Go.WideShapes Go.ChangeAt Go.RowKit
open Go.Proofs.YtmkdemdeejhonaaDoor.Rw
open Nodes (mem mem_mem)
set_option linter.unusedVariables false
theorem dret_b {a b : Bool} (h : a = b) : Ending.returned (.bool a) = .returned (.bool b) := by rw [h]
theorem kept_any (x : Int) (w : World) :
    Calls Tryd.prog 23 #[.int .i64 x] w fun e w' => e = .returned (.int .i64 (kp x)) ∧ w = w' := by
  have CC := Lib.hid (fun W => Span.clamp_any x 0 1152921504606846976 W)
  rw [show Span.clampV x 0 1152921504606846976 = kp x from rfl] at CC
  generalize kp x = v at *
  go_enter Tryd.func23, Tryd.ntmps23
  go_wp2_with fail
  refine (CC.out _).mono ?_; rintro e w' ⟨rfl, rfl⟩
  go_wp2_with fail
  go_ret
  exact ⟨rfl, rfl⟩
theorem rtime_any (x : Int) (w : World) :
    Calls Tryd.prog 16 #[.int .i64 x] w fun e w' => e = .returned (.int .i64 (kp x)) ∧ w = w' := by
  have CC := Lib.hid (fun W => Span.rclamp_any x 0 1152921504606846976 W)
  rw [show Span.clampV x 0 1152921504606846976 = kp x from rfl] at CC
  generalize kp x = v at *
  go_enter Tryd.func16, Tryd.ntmps16
  go_wp2_with fail
  refine (CC.out _).mono ?_; rintro e w' ⟨rfl, rfl⟩
  go_wp2_with fail
  go_ret
  exact ⟨rfl, rfl⟩
/-- A note as the document has it: its cells. -/
def ecells (t : Int) (ad : Option Addr) (len cap : Nat) (s : Nat) : Array Value := #[.int .i64 t, .slice ad len cap, .int .u64 (s : Int)]
theorem rhasN_any (t : Int) (ad : Option Addr) (len cap : Nat) (s : Nat) (hs : s < 18446744073709551616) (i : Nat) (w : World) :
    Calls Tryd.prog 15 #[.agg #[.int .i64 t, .slice ad len cap, .int .u64 (s : Int)], .int .i64 (i : Int)] w fun e w' => e = .returned (.bool (decide (i < len) && Nodes.hasN s (i : Int))) ∧ Below w.heap.size w w' := by
  have CH := Lib.hid (fun W => Nodes.rhas_any s hs (i : Int) W)
  have HB : Hid (Below w.heap.size w (w.alloc (.cells #[.int .i64 t, .slice ad len cap, .int .u64 (s : Int)] 29))) := Lib.hid ((Below.refl _ _).alloc (Nat.le_refl _) _)
  generalize Nodes.hasN s (i : Int) = q at *
  by_cases hi : i < len
  · rw [decide_eq_true hi, Bool.true_and]
    go_enter Tryd.func15, Tryd.ntmps15
    go_wp2_with fail
    refine (CH.out _).mono ?_; rintro e w' ⟨rfl, rfl⟩
    go_wp2_with fail
    go_ret
    exact ⟨rfl, HB.out⟩
  · rw [decide_eq_false hi, Bool.false_and]
    go_enter Tryd.func15, Tryd.ntmps15
    go_wp2_with fail
    go_ret
    exact ⟨rfl, HB.out⟩
/-- What nil tells. -/
theorem nworst_any (w : World) :
    Calls Tryd.prog 11 #[.pointer none] w fun e w' => e = .returned (.tuple #[.int .i64 0, .int .i64 0]) ∧ w = w' := by
  go_enter Tryd.func11, Tryd.ntmps11
  go_wp2_with fail
  go_ret2
  exact ⟨rfl, rfl⟩
theorem dncount_any (w : World) :
    Calls Tryd.prog 12 #[.pointer none] w fun e w' => e = .returned (.tuple #[.int .i64 0, .int .i64 0]) ∧ w = w' := by
  go_enter Tryd.func12, Tryd.ntmps12
  go_wp2_with fail
  go_ret2
  exact ⟨rfl, rfl⟩
theorem nfine_any (w : World) :
    Calls Tryd.prog 13 #[.pointer none] w fun e w' => e = .returned (.bool false) ∧ w = w' := by
  go_enter Tryd.func13, Tryd.ntmps13
  go_wp2_with fail
  go_ret
  exact ⟨rfl, rfl⟩
theorem nnote_any (t : Int) (v : Value) (s : Int) (w : World) :
    Calls Tryd.prog 9 #[.pointer none, .int .i64 t, v, .int .u64 s] w fun e w' => e = .returned (.bool false) ∧ w = w' := by
  go_enter Tryd.func9, Tryd.ntmps9
  go_wp2_with fail
  go_ret
  exact ⟨rfl, rfl⟩
/-- What a watch tells. -/
theorem worst_any (g : Nat) (a : Wt) (w : World) (h : WC w g a) :
    Calls Tryd.prog 11 #[.pointer (some ⟨g, 0, none⟩)] w fun e w' => e = .returned (.tuple #[.int .i64 a.gap, .int .i64 a.tick]) ∧ Below w.heap.size w w' := by
  have c1 := h.gap
  have c2 := h.tick
  have HB := Lib.hid (Below.refl w.heap.size w)
  clear h
  go_enter Tryd.func11, Tryd.ntmps11
  go_wp2_with fail
  go_region
  all_goals (
    go_wp2_with fail
    go_ret2
    exact ⟨rfl, by first | exact HB.out | exact HB.out.drew⟩)
theorem dcount_any (g : Nat) (a : Wt) (w : World) (h : WC w g a) :
    Calls Tryd.prog 12 #[.pointer (some ⟨g, 0, none⟩)] w fun e w' => e = .returned (.tuple #[.int .i64 (a.apart : Int), .int .i64 (a.pace : Int)]) ∧ Below w.heap.size w w' := by
  have c1 := h.apart
  have c2 := h.pace
  have HB := Lib.hid (Below.refl w.heap.size w)
  clear h
  go_enter Tryd.func12, Tryd.ntmps12
  go_wp2_with fail
  go_region
  all_goals (
    go_wp2_with fail
    go_ret2
    exact ⟨rfl, by first | exact HB.out | exact HB.out.drew⟩)
def fineB (a : Wt) : Bool := decide (a.apart = 0) && decide (a.pace = 0)
theorem fine_any (g : Nat) (a : Wt) (w : World) (h : WC w g a) :
    Calls Tryd.prog 13 #[.pointer (some ⟨g, 0, none⟩)] w fun e w' => e = .returned (.bool (fineB a)) ∧ w = w' := by
  have c1 := h.apart
  have c2 := h.pace
  unfold fineB
  clear h
  generalize a.apart = x at *
  generalize a.pace = y at *
  by_cases hx : x = 0
  · subst hx
    rw [decide_eq_true rfl, Bool.true_and]
    go_enter Tryd.func13, Tryd.ntmps13
    go_wp2_with fail
    go_ret
    exact ⟨dret_b (by rw [Bool.eq_iff_iff]; simp), rfl⟩
  · rw [decide_eq_false hx, Bool.false_and]
    have e : ((x : Int) == 0) = false := by simp; omega
    go_enter Tryd.func13, Tryd.ntmps13
    go_wp2_with fail
    go_ret
    exact ⟨rfl, rfl⟩
/-- A watch, changed. -/
def SetW (g : Nat) (a : Wt) (w w' : World) : Prop := WC w' g a ∧ Stay (fun k => k = g) w w'
theorem SetW.same {g : Nat} {a : Wt} {w : World} (h : WC w g a) : SetW g a w w := ⟨h, Stay.refl _ _⟩
theorem SetW.trans {g : Nat} {a b : Wt} {w w1 w2 : World} (h : SetW g a w w1) (h' : SetW g b w1 w2) : SetW g b w w2 := ⟨h'.1, h.2.snoc h'.2 (fun k _ e => e)⟩
theorem SetW.below {g : Nat} {a : Wt} {w w1 w2 : World} (h : SetW g a w w1) (hB : Below w1.heap.size w1 w2) : SetW g a w w2 :=
  ⟨h.1.below hB, h.2.snoc (Stay.of_below hB) (fun k _ e => e)⟩
theorem SetW.setGap {g : Nat} {a : Wt} {w w1 : World} (h : SetW g a w w1) (z : Int) : SetW g { a with gap := z } w (w1.setCell ⟨g, 69, none⟩ (.int .i64 z)) :=
  ⟨h.1.putGap z, h.2.snoc (Stay.of_grown (setCell_grown w1 g 69 _) (fun k e => by cases e; rfl)) (fun k _ e => e)⟩
theorem SetW.setTick {g : Nat} {a : Wt} {w w1 : World} (h : SetW g a w w1) (z : Int) : SetW g { a with tick := z } w (w1.setCell ⟨g, 70, none⟩ (.int .i64 z)) :=
  ⟨h.1.putTick z, h.2.snoc (Stay.of_grown (setCell_grown w1 g 70 _) (fun k e => by cases e; rfl)) (fun k _ e => e)⟩
theorem SetW.setApart {g : Nat} {a : Wt} {w w1 : World} (h : SetW g a w w1) (z : Nat) : SetW g { a with apart := z } w (w1.setCell ⟨g, 71, none⟩ (.int .i64 (z : Int))) :=
  ⟨h.1.putApart z, h.2.snoc (Stay.of_grown (setCell_grown w1 g 71 _) (fun k e => by cases e; rfl)) (fun k _ e => e)⟩
theorem SetW.setPace {g : Nat} {a : Wt} {w w1 : World} (h : SetW g a w w1) (z : Nat) : SetW g { a with pace := z } w (w1.setCell ⟨g, 72, none⟩ (.int .i64 (z : Int))) :=
  ⟨h.1.putPace z, h.2.snoc (Stay.of_grown (setCell_grown w1 g 72 _) (fun k e => by cases e; rfl)) (fun k _ e => e)⟩
theorem SetW.setNote {g : Nat} {a : Wt} {w w1 : World} (h : SetW g a w w1) (n : Nt) : SetW g { a with n := n } w (w1.setRow g (noted a n).toArray) :=
  ⟨h.1.putNote n, h.2.snoc (Stay.of_grown (setRow_grown w1 g _) (fun k e => by cases e; rfl)) (fun k _ e => e)⟩
/-- A watch behind a note's gap. -/
def wide (a : Wt) (gap tick : Int) : Wt :=
  let b := if a.gap < gap then { a with gap := gap, tick := tick } else a
  if a.eps < gap then { b with apart := a.apart + 1 } else b
set_option maxHeartbeats 4000000 in
theorem spread_any (g : Nat) (a : Wt) (gap tick : Int) (hap : a.apart < 1000000) (w : World) (h : WC w g a) :
    Calls Tryd.prog 19 #[.pointer (some ⟨g, 0, none⟩), .int .i64 gap, .int .i64 tick] w fun e w' => e = .returned (.bool (decide (gap ≤ a.eps))) ∧ SetW g (wide a gap tick) w w' := by
  have H0 := Lib.hid (SetW.same h)
  have c69 := h.gap
  have c70 := h.tick
  have c0 := h.eps
  have f := h.free
  have f69 := f 69
  have f70 := f 70
  have f71 := f 71
  have c71 := h.apart
  have hw : IntKind.i64.wrap ((a.apart : Int) + 1) = ((a.apart + 1 : Nat) : Int) := by rw [IntKind.wrap_i64]; omega
  clear f h
  by_cases h1 : a.gap < gap
  · have H1 := Lib.hid ((H0.out.setGap gap).setTick tick)
    have d0 := (H1.out.1).eps
    have d71 := (H1.out.1).apart
    have e71 := (H1.out.1).free 71
    by_cases h2 : a.eps < gap
    · have H2 := Lib.hid (H1.out.setApart (a.apart + 1))
      have e1 : decide (gap ≤ a.eps) = false := decide_eq_false (by omega)
      rw [e1]
      have HE : wide a gap tick = { a with gap := gap, tick := tick, apart := a.apart + 1 } := by unfold wide; rw [if_pos h1, if_pos h2]
      rw [HE]
      dsimp only at *
      generalize SetW g { a with gap := gap, tick := tick, apart := a.apart + 1 } w = Q at *
      go_enter Tryd.func19, Tryd.ntmps19
      go_wp2_with fail
      go_ret
      exact ⟨rfl, H2.out⟩
    · have e1 : decide (gap ≤ a.eps) = true := decide_eq_true (by omega)
      rw [e1]
      have HE : wide a gap tick = { a with gap := gap, tick := tick } := by unfold wide; rw [if_pos h1, if_neg h2]
      rw [HE]
      dsimp only at *
      generalize SetW g { a with gap := gap, tick := tick } w = Q at *
      go_enter Tryd.func19, Tryd.ntmps19
      go_wp2_with fail
      go_ret
      exact ⟨rfl, H1.out⟩
  · by_cases h2 : a.eps < gap
    · have H2 := Lib.hid (H0.out.setApart (a.apart + 1))
      have e1 : decide (gap ≤ a.eps) = false := decide_eq_false (by omega)
      rw [e1]
      have HE : wide a gap tick = { a with apart := a.apart + 1 } := by unfold wide; rw [if_neg h1, if_pos h2]
      rw [HE]
      generalize SetW g { a with apart := a.apart + 1 } w = Q at *
      go_enter Tryd.func19, Tryd.ntmps19
      go_wp2_with fail
      go_ret
      exact ⟨rfl, H2.out⟩
    · have e1 : decide (gap ≤ a.eps) = true := decide_eq_true (by omega)
      rw [e1]
      have HE : wide a gap tick = a := by unfold wide; rw [if_neg h1, if_neg h2]
      rw [HE]
      generalize SetW g a w = Q at *
      go_enter Tryd.func19, Tryd.ntmps19
      go_wp2_with fail
      go_ret
      exact ⟨rfl, H0.out⟩
/-- May a clock go on so? -/
theorem pace_any (g : Nat) (a : Wt) (went ticks : Int) (ht : 1 ≤ ticks) (ht' : ticks ≤ 1152921504606846976) (h1 : -1152921504606846976 ≤ went) (h2 : went ≤ 1152921504606846976) (w : World)
    (c1 : w.cell? ⟨g, 1, none⟩ = some (.int .i64 a.slow)) (c2 : w.cell? ⟨g, 2, none⟩ = some (.int .i64 a.fast)) :
    Calls Tryd.prog 27 #[.pointer (some ⟨g, 0, none⟩), .int .i64 went, .int .i64 ticks] w fun e w' => e = .returned (.bool (!badB a.slow a.fast ticks went)) ∧ ∃ n, w' = w.drewN n := by
  have HP := pace_div (slow := a.slow) (fast := a.fast) ht ht' h1 h2
  have CD := Lib.hid (fun W => Span.div_any went ticks (by omega) (by omega) W)
  have CU := Lib.hid (fun W => Span.up_any went ticks (by omega) (by omega) W)
  have HX : Hid (∀ V, (∃ n, V = w.drewN n) → V.cell? ⟨g, 1, none⟩ = some (.int .i64 a.slow) ∧ V.cell? ⟨g, 2, none⟩ = some (.int .i64 a.fast) ∧ ∃ n, V = w.drewN n) := Lib.hid (fun V hV => by
    obtain ⟨n, rfl⟩ := hV
    exact ⟨c1, c2, n, rfl⟩)
  rw [← HP]
  clear HP ht ht' h1 h2 c1 c2
  generalize Span.divV went ticks = d at *
  generalize Span.divB went ticks = db at *
  generalize Span.upV went ticks = u at *
  generalize Span.upB went ticks = ub at *
  by_cases hs : a.slow ≤ d
  · rw [decide_eq_true hs, Bool.true_and]
    go_enter Tryd.func27, Tryd.ntmps27
    go_wp2_with fail
    refine (CD.out _).mono ?_; rintro e w1 ⟨rfl, n1, rfl⟩
    go_wp2_with fail
    refine (CU.out _).mono ?_; rintro e w2 ⟨rfl, n2, rfl⟩
    obtain ⟨e1, e2, e3⟩ := HX.out ((w.drewN n1).drewN n2) ⟨n1 + n2, by rw [World.drewN_drewN]⟩
    have e3 := Lib.hid e3
    generalize (w.drewN n1).drewN n2 = V at *
    go_wp2_with fail
    go_ret
    exact ⟨dret_b (by first | rfl | (rw [decide_eq_decide])), e3.out⟩
  · rw [decide_eq_false hs, Bool.false_and]
    go_enter Tryd.func27, Tryd.ntmps27
    go_wp2_with fail
    refine (CD.out _).mono ?_; rintro e w1 ⟨rfl, n1, rfl⟩
    go_wp2_with fail
    refine (CU.out _).mono ?_; rintro e w2 ⟨rfl, n2, rfl⟩
    obtain ⟨e1, e2, e3⟩ := HX.out ((w.drewN n1).drewN n2) ⟨n1 + n2, by rw [World.drewN_drewN]⟩
    have e3 := Lib.hid e3
    generalize (w.drewN n1).drewN n2 = V at *
    go_wp2_with fail
    go_ret
    exact ⟨rfl, e3.out⟩
def wt0 (eps slow fast : Int) : Wt := ⟨max eps 0, slow, fast, nt0, 0, 0, 0, 0⟩
theorem zeroW (w : World) : (zeroValue 52).run Tryd.prog w = .ok (.agg (.int .i64 0 :: .int .i64 0 :: .int .i64 0 :: .int .i64 0 :: .int .u64 0 :: (List.replicate 64 (.int .i64 0) ++ [.int .i64 0, .int .i64 0, .int .i64 0, .int .i64 0])).toArray) w := by kernel_rfl
def NewPost (a : Wt) (w : World) (e : Ending) (w' : World) : Prop := ∃ g, e = .returned (.pointer (some ⟨g, 0, none⟩)) ∧ WC w' g a ∧ w.heap.size ≤ g ∧ Below w.heap.size w w'
theorem new_any (eps slow fast : Int) (w : World) :
    Calls Tryd.prog 6 #[.int .i64 eps, .int .i64 slow, .int .i64 fast] w (NewPost (wt0 eps slow fast) w) := by
  have HP : Hid (∀ cs : Array Value, cs = (wrow (wt0 eps slow fast)).toArray → NewPost (wt0 eps slow fast) w (.returned (.pointer (some ⟨w.heap.size, 0, none⟩))) (w.alloc (.cells cs 52))) := Lib.hid (fun cs e => by
    subst e
    exact ⟨_, rfl, Blk.new w _ _, Nat.le_refl _, (Below.refl _ _).alloc (Nat.le_refl _) _⟩)
  have HC : Hid ((wrow (wt0 eps slow fast)).toArray = (.int .i64 (max eps 0) :: .int .i64 slow :: .int .i64 fast :: .int .i64 0 :: .int .u64 0 :: (List.replicate 64 (.int .i64 0) ++ [.int .i64 0, .int .i64 0, .int .i64 0, .int .i64 0])).toArray) := Lib.hid (by
    unfold wrow wt0
    dsimp only
    rw [ncells_zero]
    have : (List.range 64).map (fun _ => Value.int .i64 0) = List.replicate 64 (.int .i64 0) := rfl
    unfold row
    rw [this]
    rfl)
  have hzz := zeroW
  generalize List.replicate 64 (Value.int .i64 0) ++ [.int .i64 0, .int .i64 0, .int .i64 0, .int .i64 0] = zs at *
  go_enter Tryd.func6, Tryd.ntmps6
  go_wp2_with fail
  go_ret
  exact HP.out _ HC.out.symm
end Go.Proofs.YtmkdemdeejhonaaDoor.Drf
