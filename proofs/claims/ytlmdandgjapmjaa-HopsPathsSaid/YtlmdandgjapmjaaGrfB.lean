/- Contracts of package graph (layer 16): are two linked, what is wrong with a link, whom is one linked with. -/
import Derived.Test.YtlmdandgjapmjaaGrfA
import Derived.Deep.Cut
import Derived.BigRegion
namespace Go.Proofs.Ytlmdandgjapmjaa.Grf
open Go.ChangeShapes Go.WideShapes Go.ChangeAt Go.RowKit
set_option linter.unusedVariables false
theorem gmap_at (L : List Pr) (a b : Int) : gmap L (min a b, max a b) = if lk L a b = true then some (.agg #[]) else none := by
  unfold gmap
  simp only [lk_minmax, show min a b ≤ max a b from by omega, true_and]
theorem inI_minmax {a b : Int} (ha : inI a) (hb : inI b) : inI (min a b) ∧ inI (max a b) := by unfold inI at *; omega
theorem ba {w W : World} (h : Below w.heap.size w W) (o : Obj) : Below w.heap.size w (W.alloc o) := h.alloc h.size o
theorem linked_nil (a b : Int) (w : World) :
    Calls Try.prog 23 #[.pointer none, .int .i64 a, .int .i64 b] w fun e w' => e = .returned (.bool false) ∧ w = w' := by
  go_enter Try.func23, Try.ntmps23
  go_wp2_with fail
  go_ret
  exact ⟨rfl, rfl⟩
theorem look_g {g b n : Nat} {L : List Pr} {W : World} {x y : Int} (h : GR W g b n L) (hx : inI x) (hy : inI y) :
    (Instr.lookup 65 (.map (some b)) (pval (min x y, max x y)) true).run Try.prog W = .ok (.tuple #[.agg #[], .bool (lk L x y)]) W := by
  obtain ⟨kl, hkl⟩ := key_read (min x y, max x y) (inI_minmax hx hy).1 (inI_minmax hx hy).2
  have e := h.map.look lawG pval_inj Try.underlying65 zeroS hkl true
  rw [if_pos rfl, gmap_at] at e
  rw [e]
  cases lk L x y <;> rfl
theorem linked_any (g b n : Nat) (L : List Pr) (x y : Int) (hx : inI x) (hy : inI y) (w : World) (h : GR w g b n L) :
    Calls Try.prog 23 #[.pointer (some ⟨g, 0, none⟩), .int .i64 x, .int .i64 y] w fun e w' => e = .returned (.bool (lk L x y)) ∧ Below w.heap.size w w' := by
  have HC : Hid (∀ W, Below w.heap.size w W → W.cell? ⟨g, 1, none⟩ = some (.map (some b)) ∧ (Instr.lookup 65 (.map (some b)) (pval (min x y, max x y)) true).run Try.prog W = .ok (.tuple #[.agg #[], .bool (lk L x y)]) W) :=
    Lib.hid (fun W hB => ⟨(h.below hB).c1, look_g (h.below hB) hx hy⟩)
  have CP := Lib.hid (fun W => pair_any x y W)
  clear h
  generalize lk L x y = r at *
  generalize pval (min x y, max x y) = pv at *
  go_enter Try.func23, Try.ntmps23
  go_upto_region 3 with fail
  go_region_held_law (fun W => Below w.heap.size w W ∧ W.cell? ⟨g, 1, none⟩ = some (.map (some b)) ∧ (Instr.lookup 65 (.map (some b)) pv true).run Try.prog W = .ok (.tuple #[.agg #[], .bool r]) W)
    ((refine ⟨?_, HC.out _ ?_⟩ <;> (repeat' (first | assumption | exact Below.refl _ _ | exact (‹Below w.heap.size w _ ∧ _›).1 | refine ba ?_ _ | refine Below.drew ?_))))
    ((go_at_call 28; (with_reducible refine (CP.out _).mono ?_); rintro e W ⟨rfl, hBW⟩; have hBW' := (‹Below w.heap.size w _ ∧ _›).1.trans (hBW.mono (‹Below w.heap.size w _ ∧ _›).1.size)))
  all_goals (
    have HF := Lib.hid (‹Below w.heap.size w _ ∧ _›).1
    clear HC CP
    go_wp2_with fail
    go_ret
    exact ⟨rfl, HF.out⟩)
theorem err_ret {a b : Int} (h : a = b) : Ending.returned (.int .i64 a) = .returned (.int .i64 b) := by rw [h]
theorem wr_node {n : Nat} {L : List Pr} {x y : Int} (h : (decide (0 ≤ x) && decide (x < (n : Int)) && (decide (0 ≤ y) && decide (y < (n : Int)))) = false) : wr n L x y = 8 := by unfold wr; rw [if_pos h]
theorem wr_same {n : Nat} {L : List Pr} {x y : Int} (h : (decide (0 ≤ x) && decide (x < (n : Int)) && (decide (0 ≤ y) && decide (y < (n : Int)))) = true) (h2 : x = y) : wr n L x y = 5 := by unfold wr; rw [if_neg (by rw [h]; simp), if_pos h2]
theorem wr_dup {n : Nat} {L : List Pr} {x y : Int} (h : (decide (0 ≤ x) && decide (x < (n : Int)) && (decide (0 ≤ y) && decide (y < (n : Int)))) = true) (h2 : x ≠ y) : wr n L x y = if lk L x y = true then 12 else 0 := by unfold wr; rw [if_neg (by rw [h]; simp), if_neg h2]
set_option maxHeartbeats 4000000 in
theorem wrong_any (g b n : Nat) (L : List Pr) (x y : Int) (hx : inI x) (hy : inI y) (w : World) (h : GR w g b n L) :
    Calls Try.prog 26 #[.pointer (some ⟨g, 0, none⟩), .int .i64 x, .int .i64 y] w fun e w' => e = .returned (.int .i64 (wr n L x y)) ∧ Below w.heap.size w w' := by
  have C1 := Lib.hid (fun W (hB : Below w.heap.size w W) => has_g g b n L x W (h.below hB))
  have C2 := Lib.hid (fun W (hB : Below w.heap.size w W) => has_g g b n L y W (h.below hB))
  have C3 := Lib.hid (linked_any g b n L x y hx hy w h)
  have H8 := Lib.hid (wr_node (n := n) (L := L) (x := x) (y := y))
  have H5 := Lib.hid (wr_same (n := n) (L := L) (x := x) (y := y))
  have HD := Lib.hid (wr_dup (n := n) (L := L) (x := x) (y := y))
  clear h hx hy
  have HB0 := Lib.hid (Below.refl w.heap.size w)
  generalize (decide (0 ≤ x) && decide (x < (n : Int))) = p at *
  generalize (decide (0 ≤ y) && decide (y < (n : Int))) = q at *
  generalize lk L x y = r at *
  cases p with
  | false =>
    have HZ := Lib.hid (H8.out rfl)
    clear H8 H5 HD C2 C3
    go_enter Try.func26, Try.ntmps26
    go_wp2_with fail
    refine (C1.out _ HB0.out).mono ?_; rintro e w' ⟨rfl, rfl⟩
    go_wp2_with fail
    go_ret
    exact ⟨err_ret HZ.out.symm, HB0.out⟩
  | true =>
    cases q with
    | false =>
      have HZ := Lib.hid (H8.out rfl)
      clear H8 H5 HD C3
      go_enter Try.func26, Try.ntmps26
      go_wp2_with fail
      refine (C1.out _ HB0.out).mono ?_; rintro e w' ⟨rfl, rfl⟩
      go_wp2_with fail
      refine (C2.out _ HB0.out).mono ?_; rintro e w' ⟨rfl, rfl⟩
      go_wp2_with fail
      go_ret
      exact ⟨err_ret HZ.out.symm, HB0.out⟩
    | true =>
      by_cases hxy : x = y
      · have HZ := Lib.hid (H5.out rfl hxy)
        subst hxy
        have hb : (x == x) = true := beq_iff_eq.2 rfl
        clear H8 H5 HD C3
        go_enter Try.func26, Try.ntmps26
        go_wp2_with fail
        refine (C1.out _ HB0.out).mono ?_; rintro e w' ⟨rfl, rfl⟩
        go_wp2_with fail
        refine (C2.out _ HB0.out).mono ?_; rintro e w' ⟨rfl, rfl⟩
        go_wp2_with fail
        go_ret
        exact ⟨err_ret HZ.out.symm, HB0.out⟩
      · have HZ := Lib.hid (HD.out rfl hxy)
        have hb : (x == y) = false := beq_eq_false_iff_ne.2 hxy
        clear H8 H5 HD hxy
        cases r with
        | true =>
          rw [if_pos rfl] at HZ
          go_enter Try.func26, Try.ntmps26
          go_wp2_with fail
          refine (C1.out _ HB0.out).mono ?_; rintro e w' ⟨rfl, rfl⟩
          go_wp2_with fail
          refine (C2.out _ HB0.out).mono ?_; rintro e w' ⟨rfl, rfl⟩
          go_wp2_with fail
          refine (C3.out).mono ?_; rintro e w' ⟨rfl, hB⟩
          go_wp2_with fail
          go_ret
          exact ⟨err_ret HZ.out.symm, hB⟩
        | false =>
          rw [if_neg (by simp)] at HZ
          go_enter Try.func26, Try.ntmps26
          go_wp2_with fail
          refine (C1.out _ HB0.out).mono ?_; rintro e w' ⟨rfl, rfl⟩
          go_wp2_with fail
          refine (C2.out _ HB0.out).mono ?_; rintro e w' ⟨rfl, rfl⟩
          go_wp2_with fail
          refine (C3.out).mono ?_; rintro e w' ⟨rfl, hB⟩
          go_wp2_with fail
          go_ret
          exact ⟨err_ret HZ.out.symm, hB⟩
end Go.Proofs.Ytlmdandgjapmjaa.Grf
