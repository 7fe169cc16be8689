/- What the seat's condition on the package-level tables gives the walks of layer nodes (3), and a world that meets it. -/
import Derived.Test.YtljkpcckfammmaaDoorNodesI
import Derived.Test.YtljkpcckfammmaaDoorTie
import Derived.LaidMore
import Derived.MakeChecks
import Derived.Lib.LaidTab
import Derived.Stop.LaidErr
import Derived.Stop.Joined
namespace Go.Proofs.YtljkpcckfammmaaDoor.Nodes
open Go.ChangeShapes Go.WideShapes Go.ChangeAt Go.RowKit
set_option linter.unusedVariables false
def laidL : List (String × DataW Unit) := Rows.nodesOfRow.laid
theorem door_met (os : Os) (args : Array Value) : laidMetH Tryd.prog laidL ((World.doorLaid Tryd.prog 24 os).forCall (fun _ _ => 0) ⟨#[], args, []⟩).memory :=
  laidMetH_of_parts3 (fuel := 8) (laidMet_of_run' 8 (by kernel_rfl) (by kernel_rfl)) (by kernel_rfl) (by kernel_rfl)
theorem cell_lt {w : World} {a : Addr} {v : Value} (h : w.cell? a = some v) : a.block < w.heap.size := by
  by_cases hb : a.block < w.heap.size
  · exact hb
  · rw [World.cell?, Array.getElem?_eq_none (by omega)] at h
    simp at h
def tab64 : List Int := Go.Lib.deBruijn64tab.map fun n : Nat => (n : Int)
theorem tab64_at (j : Nat) (hj : j < Go.Lib.deBruijn64tab.length) : tab64.getD j 0 = ((Go.Lib.deBruijn64tab.getD j 0 : Nat) : Int) := by
  simp [tab64, List.getD, hj]
theorem tabs_of_laid {W : World} (h : laidMetH Tryd.prog laidL W) : Tabs W := by
  rw [MakeChecks.laidMetH_plain _ _ _ (by kernel_rfl)] at h
  have h1 := laidMet.tail h
  have hT := Go.Lib.tabIs_of_head (g := 0) (k := .u8) (zs := tab64) (by kernel_rfl) (by kernel_rfl) Tryd.underlying59 Tryd.underlying5 (by kernel_rfl) (by kernel_rfl) (show laidMet Tryd.prog ((_, Go.Lib.tabData .u8 tab64) :: _) W from h1)
  have hc : ∀ j, j < tab64.length → W.cell? ⟨0, j, none⟩ = some (.int .u8 (tab64.getD j 0)) := fun j hj => hT.cell (by kernel_rfl) j hj
  refine ⟨fun j hj => ?_, ?_⟩
  · rw [hc j (by rw [tab64, List.length_map]; exact hj), tab64_at j hj]
  · exact cell_lt (hc 0 (by decide))
/-- A slice that came in, cut to its first ones, reads as a list. -/
theorem rd_of_row {w : World} {a : Option Addr} {len cap : Nat} {zs : List Int} (hne : len ≠ 0)
    (h : (a = none ∧ len = 0 ∧ cap = 0 ∧ zs = []) ∨ ∃ x, a = some x ∧ len ≤ cap ∧ cap ≤ maxLen ∧ zs.length = cap ∧ (∀ i, i < zs.length → w.cell? (x.add i) = some (.int .i64 (zs.getD i 0))) ∧ ∀ n ∈ zs, (Lit.int .i64 n).wf = true) :
    ∃ b off, a = some ⟨b, off, none⟩ ∧ len ≤ cap ∧ cap ≤ 9223372036854775807 ∧ ∀ m, m ≤ len → ∃ Z : List Int, Hid (Rd w (some ⟨b, off, none⟩) Z) ∧ Hid (Z.length = m) := by
  rcases h with ⟨_, h0, _⟩ | ⟨x, rfl, hl, hm, hz, hcell, _⟩
  · exact absurd h0 hne
  · unfold maxLen at hm
    obtain ⟨b, off, rfl, hc⟩ := ints_at hcell (by omega)
    refine ⟨b, off, rfl, hl, by omega, fun m hmm => ⟨zs.take m, Lib.hid ?_, Lib.hid (by rw [List.length_take]; omega)⟩⟩
    have h : Rd w (some ⟨b, off, none⟩) zs := .inr ⟨b, off, rfl, fun i hi => by first | exact hc i hi | exact hc i (by omega)⟩
    exact h.take m
theorem nil_of_row {w : World} {a : Option Addr} {len cap : Nat} {zs : List Int}
    (h : (a = none ∧ len = 0 ∧ cap = 0 ∧ zs = []) ∨ ∃ x, a = some x ∧ len ≤ cap ∧ cap ≤ maxLen ∧ zs.length = cap ∧ (∀ i, i < zs.length → w.cell? (x.add i) = some (.int .i64 (zs.getD i 0))) ∧ ∀ n ∈ zs, (Lit.int .i64 n).wf = true) :
    Hid (a = none → cap = 0) := by
  rcases h with ⟨_, _, h0, _⟩ | ⟨x, rfl, _⟩
  · exact Lib.hid fun _ => h0
  · exact Lib.hid fun h => by cases h
theorem Rd_none (w : World) (a : Option Addr) : ∃ Z : List Int, Hid (Rd w a Z) ∧ Hid (Z.length = 0) := ⟨[], Lib.hid (.inl rfl), Lib.hid rfl⟩
/-- The first ones of a set, and what is left. -/
theorem first_facts {S : Nat} (hS : S < 18446744073709551616) (k : Nat) : andNotN (firstN S k) S = 0 ∧ firstN S k = firstN S k ∧ firstN S k < 18446744073709551616 ∧ (mem (firstN S k)).length = min k (mem S).length ∧ andNotN S (firstN S k) < 18446744073709551616 ∧
    (andNotN S (firstN S k) = 0 ∨ (andNotN S (firstN S k) ≠ 0 ∧ belowN (firstN S k) (leastN (andNotN S (firstN S k))) = min k (mem S).length)) := by
  have hf : firstN S k < 18446744073709551616 := setP_lt _
  have hb := andNot_lt (firstN S k) hS
  have hl : (mem (firstN S k)).length = min k (mem S).length := by rw [mem_first, List.length_take]
  refine ⟨?_, rfl, hf, hl, hb, ?_⟩
  · refine eq_of_bits (andNot_lt _ hf) (by omega) fun j hj => ?_
    rw [bit_andNot _ hS, Nat.zero_testBit]
    by_cases h : (firstN S k).testBit j = true
    · have : j ∈ mem (firstN S k) := mem_mem.2 ⟨hj, h⟩
      rw [mem_first] at this
      have := (mem_mem.1 (List.mem_of_mem_take this)).2
      simp [this]
    · simp at h; simp [h]
  · by_cases h0 : andNotN S (firstN S k) = 0
    · exact .inl h0
    · refine .inr ⟨h0, ?_⟩
      obtain ⟨hc, hm⟩ := least_spec hb h0
      have hle : leastN (andNotN S (firstN S k)) = (Go.Lib.ctz 64 (andNotN S (firstN S k)) : Int) := by unfold leastN; rw [if_neg h0]
      rw [hle]
      generalize Go.Lib.ctz 64 (andNotN S (firstN S k)) = c at *
      have hcm : c ∈ mem (andNotN S (firstN S k)) := by rw [hm]; simp
      have hbit := (mem_mem.1 hcm).2
      rw [bit_andNot _ hf] at hbit
      simp only [Bool.and_eq_true, Bool.not_eq_true', decide_eq_true_iff] at hbit
      have hcS : c ∈ mem S := mem_mem.2 ⟨hc, hbit.1⟩
      have hcn : ¬ c ∈ (mem S).take k := by
        rw [← mem_first]
        intro h
        have := (mem_mem.1 h).2
        rw [hbit.2.2] at this
        cases this
      have hcd : c ∈ (mem S).drop k := by
        rw [← List.take_append_drop k (mem S), List.mem_append] at hcS
        exact hcS.resolve_left hcn
      have hsp := mem_sorted S
      rw [← List.take_append_drop k (mem S), List.pairwise_append] at hsp
      unfold belowN
      rw [mem_first, List.filter_eq_self.2 (fun x hx => by have := hsp.2.2 x hx c hcd; simp; omega), List.length_take]
theorem upto_is (z : Int) : ofL ((List.range (upK z)).map fun j : Nat => (j : Int)) = allN z := ofL_upto z (upK z) (by unfold upK; omega)
theorem Rd_one (w : World) (x : Int) (t : TypeId) : Rd (w.alloc (.cells #[.int .i64 x] t)) (some ⟨w.heap.size, 0, none⟩) [x] := Rd_lit w [x] t
theorem with_one (S : Nat) (hS : S < 18446744073709551616) (x : Int) (W : World) (b : Nat) (hb : W.heap.size = b) :
    Calls Tryd.prog 17 #[.int .u64 S, .slice (some ⟨b, 0, none⟩) 1 1] (W.alloc (.cells #[.int .i64 x] 3)) fun e w' => e = .returned (.int .u64 (withN S [x])) ∧ W.alloc (.cells #[.int .i64 x] 3) = w' := by
  subst hb
  exact with_any S hS _ 1 1 [x] _ rfl (by omega) (Rd_one W x 3)
theorem without_one (S : Nat) (hS : S < 18446744073709551616) (x : Int) (W : World) (b : Nat) (hb : W.heap.size = b) :
    Calls Tryd.prog 19 #[.int .u64 S, .slice (some ⟨b, 0, none⟩) 1 1] (W.alloc (.cells #[.int .i64 x] 3)) fun e w' => e = .returned (.int .u64 (withoutN S [x])) ∧ W.alloc (.cells #[.int .i64 x] 3) = w' := by
  subst hb
  exact without_any S hS _ 1 1 [x] _ rfl (by omega) (Rd_one W x 3)
theorem back_facts (S r : Nat) (hr : r < 64) : withoutN (withN S [(r : Int)]) [(r : Int)] = withoutN S [(r : Int)] ∧ hasN (withN S [(r : Int)]) r = true ∧ hasN (withoutN S [(r : Int)]) r = false := by
  refine ⟨setP_congr fun j hj => ?_, ?_, ?_⟩
  · rw [bit_with]
    by_cases h : (j : Int) ∈ [(r : Int)]
    · simp [h]
    · simp [h, hj]
  · rw [has_nat (withN S [(r : Int)]) r (setP_lt _), bit_with]
    simp [hr]
  · rw [has_nat (withoutN S [(r : Int)]) r (setP_lt _), bit_without]
    simp
end Go.Proofs.YtljkpcckfammmaaDoor.Nodes
