/- Contracts of package cut (layer 18): Each, which makes an iterator. -/
import Derived.Test.YtbgigimapogkcaaDoorCutL
import Derived.Deep.RegionHeldLaw
namespace Go.Proofs.YtbgigimapogkcaaDoor.Cut
open Go.RowKit Go.Shelf Go.ChangeShapes Go.WideShapes Go.ChangeAt
open Nodes (Tabs mem allN firstN andNotN bitN ofL leastN ret_int)
set_option linter.unusedVariables false
set_option linter.unusedSimpArgs false
set_option maxRecDepth 100000
/-- n kept from 0 to 64. -/
def clampN (z : Int) : Nat := min z.toNat 64
theorem clamp_le (z : Int) : clampN z ≤ 64 := Nat.min_le_right _ _
theorem clamp_nat {n : Nat} (h : n ≤ 64) : clampN (n : Int) = n := by unfold clampN; omega
theorem all_clamp (z : Int) : allN z = allN (clampN z : Int) := by
  refine Nodes.setP_congr fun j hj => ?_
  unfold clampN
  rw [Bool.eq_iff_iff]; simp; omega
theorem each_end {w w2 : World} {S : Nat} {z m : Int} (h : w2 = (w.alloc (.cells #[.int .i64 z] 3)).alloc (.cells #[.int .u64 (S : Int)] 31)) :
    Boxed (w2.setCell ⟨w.heap.size, 0, none⟩ (.int .i64 m)).drew w.heap.size 3 (.int .i64 m) ∧ Boxed (w2.setCell ⟨w.heap.size, 0, none⟩ (.int .i64 m)).drew (w.heap.size + 1) 31 (.int .u64 (S : Int)) ∧
    Below w.heap.size w (w2.setCell ⟨w.heap.size, 0, none⟩ (.int .i64 m)).drew := by
  have b1 := (Boxed.new (w.alloc (.cells #[.int .i64 z] 3)) 31 (.int .u64 (S : Int)))
  rw [← h, World.size_alloc] at b1
  have b0 := (Boxed.new w 3 (.int .i64 z)).alloc (.cells #[.int .u64 (S : Int)] 31)
  rw [← h] at b0
  refine ⟨Boxed.set _ b0, (Below.heap_setCell _ _ _ (w.heap.size + 1) (by simp)).trans b1, ?_⟩
  refine ((show Below w.heap.size w w2 from ?_).setCell (p := ⟨w.heap.size, 0, none⟩) (Nat.le_refl _) _).drew
  rw [h]
  exact (((Below.refl _ w).alloc (Nat.le_refl _) _).alloc (by simp) _)
set_option maxHeartbeats 1000000 in
theorem each_any (z most : Int) (h1 : -9223372036854775808 ≤ z) (h2 : z ≤ 9223372036854775807) (w : World) :
    Calls Tryd.prog 18 #[.int .i64 z, .int .i64 most] w fun e w' =>
      e = .returned (.func (.func 32) #[] #[.pointer (some ⟨w.heap.size, 0, none⟩), .pointer (some ⟨w.heap.size + 1, 0, none⟩)]) ∧
      Boxed w' w.heap.size 3 (.int .i64 (min most (clampN z : Int))) ∧ Boxed w' (w.heap.size + 1) 31 (.int .u64 (allN (clampN z : Int) : Nat)) ∧ Below w.heap.size w w' := by
  have C0 := Lib.hid (fun W => Nodes.all_any z h1 h2 W)
  rw [all_clamp] at C0
  have hn := clamp_le z
  generalize clampN z = n at *
  have hall : allN (n : Int) < 18446744073709551616 := Nodes.setP_lt _
  have C1 := Lib.hid (fun W => Nodes.count_any (allN (n : Int)) hall W)
  rw [show (mem (allN (n : Int))).length = n from cnt_all hn] at C1
  generalize allN (n : Int) = S at *
  go_enter Tryd.func18, Tryd.ntmps18
  go_upto_region 2 with (go_at_call 31; refine (C0.out _).mono ?_; rintro e W ⟨rfl, rfl⟩)
  have f0 := ((Boxed.new w 3 (.int .i64 most)).alloc (.cells #[.int .u64 (S : Int)] 31)).cell
  have f1 := (Boxed.new (w.alloc (.cells #[.int .i64 most] 3)) 31 (.int .u64 (S : Int))).cell
  have g0 := ((Boxed.new w 3 (.int .i64 most)).alloc (.cells #[.int .u64 (S : Int)] 31)).frozen
  rw [World.size_alloc] at f1
  obtain ⟨w2, hw2⟩ : ∃ w2, Hid (w2 = ((w.alloc (.cells #[.int .i64 most] 3)).alloc (.cells #[.int .u64 (S : Int)] 31))) := ⟨_, Lib.hid rfl⟩
  rw [← hw2.out] at f0 f1 g0 ⊢
  clear C0
  go_region_with (go_at_call 30; refine (C1.out _).mono ?_; rintro e W ⟨rfl, rfl⟩)
  all_goals (
    go_wp2_with fail
    go_ret
    obtain ⟨a0, a1, a2⟩ := each_end (m := min most (n : Int)) hw2.out
    first
      | exact ⟨rfl, a0, a1, a2⟩
      | (trace_state; sorry))
end Go.Proofs.YtbgigimapogkcaaDoor.Cut
