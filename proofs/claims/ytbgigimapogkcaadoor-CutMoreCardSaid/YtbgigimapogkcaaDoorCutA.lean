/- Contracts of package cut (layer 18): the next set. -/
import Derived.Test.YtbgigimapogkcaaDoorCutN
import Derived.Test.YtbgigimapogkcaaDoorNodesC
import Derived.Test.YtbgigimapogkcaaDoorNodesD
namespace Go.Proofs.YtbgigimapogkcaaDoor.Cut
open Go.RowKit Go.Shelf Go.ChangeShapes Go.WideShapes Go.ChangeAt
open Nodes (Tabs mem allN firstN andNotN bitN ofL leastN ret_int)
set_option linter.unusedVariables false
set_option maxRecDepth 100000
theorem e64 : (2 : Nat) ^ 64 = 18446744073709551616 := by decide
theorem wrap_u64_id {x : Int} (h0 : 0 ≤ x) (h : x < 18446744073709551616) : IntKind.u64.wrap x = x := by
  show x % 18446744073709551616 = x
  omega
theorem next_any (a p r : Nat) (hr : 1 ≤ r) (h : nxt a p r < 2 ^ 64) (w : World) (hT : Tabs w) :
    Calls Tryd.prog 47 #[.int .u64 (runN a p r : Nat)] w fun e w' => e = .returned (.int .u64 (nxt a p r : Nat)) ∧ Below w.heap.size w w' := by
  have hlt := run_lt_nxt (a := a) (p := p) hr
  have hup := up_le (a := a) (p := p) (r := r)
  have hp := p_lt hr h
  have e := e64
  have hs : runN a p r < 18446744073709551616 := by omega
  have C1 := Lib.hid (Nodes.least_any (runN a p r) hs w hT)
  rw [least_run hr h] at C1
  have C2 := Lib.hid (fun ad cap W hr => Nodes.of_any ad 1 cap [(p : Int)] W rfl (by decide) hr)
  rw [of_one, bitN_pow (by omega)] at C2
  have HU : Hid (IntKind.u64.wrap ((runN a p r : Nat) + ((2 ^ p : Nat) : Int)) = ((upN a p r : Nat) : Int)) := Lib.hid (by
    rw [← Int.natCast_add, run_up hr]
    have : (upN a p r : Int) < 18446744073709551616 := by omega
    exact wrap_u64_id (by omega) this)
  have HA : Hid (bits .andNot .u64 (runN a p r : Nat) (upN a p r : Nat) = ((andNotN (runN a p r) (upN a p r) : Nat) : Int)) := Lib.hid (u64_andNot_nat (runN a p r) (upN a p r) hs (by omega))
  have C3 := Lib.hid (fun W => Nodes.count_any (andNotN (runN a p r) (upN a p r)) (Nodes.andNot_lt _ hs) W)
  rw [show (mem (andNotN (runN a p r) (upN a p r))).length = r from andNot_run hr h] at C3
  have C4 := Lib.hid (fun W => Nodes.all_any ((r : Int) - 1) (by omega) (by omega) W)
  have HOR := Lib.hid (u64_or_nat (upN a p r) (allN ((r : Int) - 1)) (by omega) (Nodes.setP_lt _))
  rw [or_nxt hr h] at HOR
  have hrl : r ≤ 64 := by omega
  have hplt : p < 64 := by omega
  clear hT hlt hup hp e h
  generalize nxt a p r = N at *
  generalize andNotN (runN a p r) (upN a p r) = D at *
  generalize runN a p r = S at *
  generalize upN a p r = U at *
  generalize allN ((r : Int) - 1) = T at *
  generalize hP : (2 : Nat) ^ p = P at *
  rw [← HA.out, ← HU.out] at C3
  rw [← HU.out] at HOR
  go_enter Tryd.func47, Tryd.ntmps47
  go_wp2_with fail
  refine (C1.out).mono ?_; rintro e w' ⟨rfl, rfl⟩
  go_wp2_with fail
  have hR1 : Nodes.Rd (w.alloc (.cells #[.int .i64 (p : Int)] 3)) (some ⟨w.heap.size, 0, none⟩) [(p : Int)] := .inr ⟨w.heap.size, 0, rfl, fun j hj => by
    obtain rfl : j = 0 := by simp at hj; omega
    simp⟩
  have hB1 : Below w.heap.size w (w.alloc (.cells #[.int .i64 (p : Int)] 3)) := (Below.refl _ _).alloc (Nat.le_refl _) _
  refine (C2.out _ _ _ hR1).mono ?_; rintro e w' ⟨rfl, rfl⟩
  go_wp2_with fail
  refine (C3.out _).mono ?_; rintro e w' ⟨rfl, rfl⟩
  go_wp2_with fail
  refine (C4.out _).mono ?_; rintro e w' ⟨rfl, rfl⟩
  go_wp2_with fail
  go_ret
  exact ⟨ret_int HOR.out, hB1⟩
end Go.Proofs.YtbgigimapogkcaaDoor.Cut
