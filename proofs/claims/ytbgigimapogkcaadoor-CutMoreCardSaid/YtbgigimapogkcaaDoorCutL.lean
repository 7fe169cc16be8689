/- Contracts of package cut (layer 18): alike, which makes an iterator. -/
import Derived.RangeFuncBox
import Derived.Test.YtbgigimapogkcaaDoorCutA
import Derived.BigRegion
import Derived.BigQuiet
import Derived.Deep.QuietTactic
import Derived.Deep.Cut
import Derived.Deep.RegionHeldLaw
namespace Go.Proofs.YtbgigimapogkcaaDoor.Cut
open Go.RowKit Go.Shelf Go.ChangeShapes Go.WideShapes Go.ChangeAt
open Nodes (Tabs mem allN firstN andNotN bitN ofL leastN ret_int)
set_option linter.unusedVariables false
set_option linter.unusedSimpArgs false
set_option maxRecDepth 100000
theorem cell_kept' {W : World} {a : Addr} {v : Value} (o : Obj) (h : W.cell? a = some v) : (W.alloc o).cell? a = some v := by
  have hlt : a.block < W.heap.size := by
    rw [World.cell?] at h
    cases hh : W.heap[a.block]? with
    | none => rw [hh] at h; simp at h
    | some o => exact (Array.getElem?_eq_some_iff.1 hh).1
  exact (((Below.refl W.heap.size W).alloc (Nat.le_refl _) o).cell hlt).trans h
theorem alike_end {w w2 : World} {S : Nat} {k : Int} {L : Int} (h : w2 = (w.alloc (.cells #[.int .u64 (S : Int)] 31)).alloc (.cells #[.int .i64 k] 3)) :
    Ending.returned (.func (.func 46) #[] #[.pointer (some ⟨w.heap.size, 0, none⟩), .pointer (some ⟨w.heap.size + 1, 0, none⟩), .pointer (some ⟨w2.heap.size, 0, none⟩)]) =
      .returned (.func (.func 46) #[] #[.pointer (some ⟨w.heap.size, 0, none⟩), .pointer (some ⟨w.heap.size + 1, 0, none⟩), .pointer (some ⟨w.heap.size + 2, 0, none⟩)]) ∧
    Boxed (w2.alloc (.cells #[.int .u64 L] 31)).drew w.heap.size 31 (.int .u64 (S : Int)) ∧ Boxed (w2.alloc (.cells #[.int .u64 L] 31)).drew (w.heap.size + 1) 3 (.int .i64 k) ∧
    Boxed (w2.alloc (.cells #[.int .u64 L] 31)).drew (w.heap.size + 2) 31 (.int .u64 L) ∧ Below w.heap.size w (w2.alloc (.cells #[.int .u64 L] 31)).drew := by
  have hs2 : w2.heap.size = w.heap.size + 2 := by rw [h]; simp
  have b2 := Boxed.new w2 31 (.int .u64 L)
  rw [hs2] at b2 ⊢
  have b1 := (Boxed.new (w.alloc (.cells #[.int .u64 (S : Int)] 31)) 3 (.int .i64 k))
  rw [← h, World.size_alloc] at b1
  have b0 := (Boxed.new w 31 (.int .u64 (S : Int))).alloc (.cells #[.int .i64 k] 3)
  rw [← h] at b0
  refine ⟨rfl, b0.alloc _, b1.alloc _, b2, ?_⟩
  rw [h]
  exact (((((Below.refl _ w).alloc (Nat.le_refl _) _).alloc (by simp) _).alloc (by simp; omega) _)).drew
set_option maxHeartbeats 1000000 in
theorem alike_any (n k : Nat) (hk : k ≤ n) (hn : n ≤ 64) (w : World) :
    Calls Tryd.prog 33 #[.int .u64 (allN (n : Int) : Nat), .int .i64 (k : Int)] w fun e w' =>
      e = .returned (.func (.func 46) #[] #[.pointer (some ⟨w.heap.size, 0, none⟩), .pointer (some ⟨w.heap.size + 1, 0, none⟩), .pointer (some ⟨w.heap.size + 2, 0, none⟩)]) ∧
      Boxed w' w.heap.size 31 (.int .u64 (allN (n : Int) : Nat)) ∧ Boxed w' (w.heap.size + 1) 3 (.int .i64 (k : Int)) ∧ Boxed w' (w.heap.size + 2) 31 (.int .u64 (lastK n k : Nat)) ∧
      Below w.heap.size w w' := by
  have hall : allN (n : Int) < 18446744073709551616 := Nodes.setP_lt _
  have C1 := Lib.hid (fun W => Nodes.count_any (allN (n : Int)) hall W)
  rw [show (mem (allN (n : Int))).length = n from cnt_all hn] at C1
  have C2 := Lib.hid (fun W => Nodes.first_any (allN (n : Int)) hall ((n : Int) - (k : Int)) (by omega) (by omega) W)
  have HA : Hid (bits .andNot .u64 (allN (n : Int) : Nat) (firstN (allN (n : Int)) ((n : Int) - (k : Int)).toNat : Nat) = ((lastK n k : Nat) : Int)) := Lib.hid (by
    rw [show ((n : Int) - (k : Int)).toNat = n - k by omega, ← last_of hk hn]
    exact u64_andNot_nat _ _ hall (Nodes.setP_lt _))
  generalize firstN (allN (n : Int)) ((n : Int) - (k : Int)).toNat = F at *
  have HW : IntKind.i64.wrap ((n : Int) - (k : Int)) = (n : Int) - (k : Int) := by
    rw [IntKind.wrap_i64]
    omega
  rw [← HW] at C2
  clear HW
  generalize lastK n k = L at *
  generalize allN (n : Int) = S at *
  go_enter Tryd.func33, Tryd.ntmps33
  have f0 : ((w.alloc (.cells #[.int .u64 (S : Int)] 31)).alloc (.cells #[.int .i64 (k : Int)] 3)).cell? ⟨w.heap.size, 0, none⟩ = some (.int .u64 (S : Int)) := ((Boxed.new w _ _).alloc _).cell
  have f1 := (Boxed.new (w.alloc (.cells #[.int .u64 (S : Int)] 31)) 3 (.int .i64 (k : Int))).cell
  rw [World.size_alloc] at f1
  go_upto_region 1 with fail
  obtain ⟨w2, hw2⟩ : ∃ w2, Hid (w2 = ((w.alloc (.cells #[.int .u64 (S : Int)] 31)).alloc (.cells #[.int .i64 (k : Int)] 3))) := ⟨_, Lib.hid rfl⟩
  rw [← hw2.out] at f0 f1 ⊢
  go_region_held_law (fun W => W.cell? ⟨w.heap.size, 0, none⟩ = some (.int .u64 (S : Int)) ∧ W.cell? ⟨w.heap.size + 1, 0, none⟩ = some (.int .i64 (k : Int)))
    ((refine ⟨?_, ?_⟩ <;> (repeat' (first | assumption | exact f0 | exact f1 | exact (cell_kept' _ f0) | exact (cell_kept' _ f1)))))
    (first
    | (go_at_call 30; refine (C1.out _).mono ?_; rintro e W ⟨rfl, rfl⟩)
    | (go_at_call 45; refine (C2.out _).mono ?_; rintro e W ⟨rfl, rfl⟩))
  all_goals (
    go_wp2_with fail
    go_ret
    rw [HA.out]
    exact alike_end hw2.out)
end Go.Proofs.YtbgigimapogkcaaDoor.Cut
