/- Contracts of package nodes (layer 3): Each, an iterator (as NodesG has it, without the texts of sets: for every layer that goes over a set). -/
import Derived.RangeFuncNested
import Derived.RangeFuncBound
import Derived.RangeFuncCalls
import Derived.RangeFuncLeaves
import Derived.RangeFuncBox
import Derived.Shelf.Abstract
import Derived.Shelf.RegionOpen
import Derived.OwnWalkIn
import Derived.TacticsInMore
import Derived.LoopNIn
import Derived.LoopIn
import Derived.Test.YtmkdemdeejhonaaDoorNodesC
import Derived.Test.YtmkdemdeejhonaaDoorOwnA
import Derived.Maps.AppendAt
namespace Go.Proofs.YtmkdemdeejhonaaDoor.Nodes
open Go.RowKit Go.Shelf Go.ChangeShapes Go.WideShapes
set_option linter.unusedVariables false
theorem boxed_kept {A B : World} {row : Option Nat} {b : Nat} {t : TypeId} {v : Value} (h : Boxed A b t v) (hg : A.grownBy B row) (hr : ∀ r, row = some r → ∃ o : Obj, A.heap[r]? = some o ∧ o.isCells = false) : Boxed B b t v := by
  refine h.kept hg (fun e => ?_)
  obtain ⟨o, ho, hc⟩ := hr b e.symm
  rw [show A.heap[b]? = _ from h] at ho
  cases ho; cases hc
attribute [local go_sem] Oper.semAt_some
theorem Tabs.below0 {w w' : World} {n₀ : Nat} (h : Tabs w) (hn : 0 < n₀) (hb : Below n₀ w w') : Tabs w' :=
  ⟨fun j hj => (hb.cell (p := ⟨0, j, none⟩) hn).trans (h.1 j hj), Nat.lt_of_lt_of_le h.2 hb.size⟩
def memM (v : Value) : Nat := (mem (intOf v).toNat).length
theorem memM_int (q : Nat) : memM (.int .u64 q) = (mem q).length := by simp [memM, intOf]
/-- What the iterator hands over, of any type whose things are numbers: a subtype tells the body what they are. -/
def encV {α : Type} (val : α → Nat) (x : α) : Array Value := #[Value.int .i64 ((val x : Nat) : Int)]
set_option maxRecDepth 100000 in
set_option maxHeartbeats 1000000 in
theorem each1_of {α : Type} (val : α → Nat) (n : Nat) (hn : 1 ≤ n) (l Bn n₀ S : Nat) (hS : S < 18446744073709551616) (hval : ∀ x ∈ mem S, ∃ a, val a = x) (J Jx : List α → World → Prop)
    (hY : ∀ pre x W, J pre W → pre.length < (mem S).length → YieldAt Fence.wide (n - 1) Tryd.prog l #[.int .i64 ((val x : Nat) : Int)] W fun e W' =>
      (e = .returned (.bool true) ∧ J (pre ++ [x]) W' ∧ Below n₀ W W') ∨ (e = .returned (.bool false) ∧ Jx (pre ++ [x]) W'))
    (W : World) (hBn : W.cell? ⟨Bn, 0, none⟩ = some (.int .u64 S)) (hT : Tabs W) (hg : 0 < n₀) (h0 : J [] W) :
    CallsIn Fence.wide n Tryd.prog 30 #[.func (.yield l) #[] #[], .pointer (some ⟨Bn, 0, none⟩)] W fun e W' => (∃ v, e = .returned v) ∧
      ((∃ ys : List α, ys.map val = mem S ∧ J ys W') ∨ (∃ pre : List α, pre.map val <+: mem S ∧ Jx pre W')) := by
  refine callsIn_of_wp Tryd.func30 rfl trivial ?_ rfl
  simp only [Tryd.ntmps30, List.size_toArray, List.length_cons, List.length_nil, Nat.reduceAdd, Nat.reduceSub, Array.replicate_succ, Array.replicate_zero, List.push_toArray, List.append_toArray, List.nil_append, List.cons_append]
  gi_wp2
  gi_loopw [3] (fun r wr => ∃ (pre : List α) (q : Nat), r = .int .u64 q ∧ q < 18446744073709551616 ∧ Hid (pre.map val ++ mem q = mem S) ∧ Tabs wr ∧ J pre wr)
    (fun r _ => memM r)
  case atStart =>
    exact ⟨[], S, rfl, hS, Lib.hid rfl, hT, h0⟩
  case round =>
    obtain ⟨pre, q, rfl, hq, hx, hTr, hJs⟩ := hrel
    by_cases hq0 : q = 0
    · subst hq0
      gi_wp2
      go_end0
      exact ⟨⟨_, rfl⟩, .inl ⟨pre, by have := hx.out; rwa [mem_zero, List.append_nil] at this, hJs⟩⟩
    · obtain ⟨hk, hm⟩ := least_spec hq hq0
      obtain ⟨x, hxv⟩ := hval (Go.Lib.ctz 64 q) (by rw [← hx.out, hm]; simp)
      have hln : leastN q = ((val x : Nat) : Int) := by unfold leastN; rw [if_neg hq0, hxv]
      obtain ⟨fn, tmps, assign, body, hy, hR⟩ := hY pre x wr hJs (by have := congrArg List.length hx.out; rw [hm] at this; simp at this; omega)
      have CL := Lib.hid (least_any q hq wr hTr)
      rw [hln] at CL
      have CB := Lib.hid (fun W => butLeast_any q hq hq0 W)
      have hne : ((q : Int) != 0) = true := bne_iff_ne.2 (by omega)
      have HX := Lib.hid (show (pre ++ [x]).map val ++ mem (q &&& (q - 1)) = mem S by
        have := hx.out; rw [hm] at this; rw [← this, List.map_append, List.map_cons, List.map_nil, hxv]; simp)
      have HLT := Lib.hid (show (mem (q &&& (q - 1))).length < (mem q).length by rw [hm]; simp)
      have hq2 := and_lt (q - 1) hq
      clear hq0 hm hln hx hxv hk hval
      generalize val x = vx at *
      gi_wp2_with (refine ⟨trivial, ?_⟩; gi_at_call 26; refine (callsIn_wide.2 CL.out).mono ?_; rintro e w' ⟨rfl, rfl⟩)
      refine hR.mono ?_
      rintro e W3 (⟨rfl, hJ3, hk3⟩ | ⟨rfl, hJx3⟩)
      · have hT3 := hTr.below0 hg hk3
        gi_wp2_with (refine ⟨trivial, ?_⟩; gi_at_call 31; refine (callsIn_wide.2 (CB.out _)).mono ?_; rintro e w' ⟨rfl, rfl⟩)
        go_roundw
        case rel => exact ⟨pre ++ [x], q &&& (q - 1), rfl, hq2, HX, hT3, hJ3⟩
        case measure => rw [memM_int, memM_int]; exact HLT.out
      · gi_wp2
        refine bodyPost_ret (results_none rfl _ _ _) rfl ?_
        exact ⟨⟨_, rfl⟩, .inr ⟨pre ++ [x], ⟨_, HX.out⟩, hJx3⟩⟩

theorem each_any (S : Nat) (w : World) :
    Calls Tryd.prog 25 #[.int .u64 S] w fun e w' => e = .returned (.func (.func 30) #[] #[.pointer (some ⟨w.heap.size, 0, none⟩)]) ∧ w' = w.alloc (.cells #[.int .u64 S] 33) := by
  go_enter Tryd.func25, Tryd.ntmps25
  go_wp2
  go_ret
  exact ⟨rfl, rfl⟩
theorem each_stops_of {α : Type} (val : α → Nat) (n : Nat) (hn : 1 ≤ n) (Bn n₀ S : Nat) (hS : S < 18446744073709551616) (hval : ∀ x ∈ mem S, ∃ a, val a = x) (w : World) (hBn : Bn < w.heap.size) (hn₀ : n₀ ≤ w.heap.size)
    (hc : w.cell? ⟨Bn, 0, none⟩ = some (.int .u64 S)) (hT : Tabs w) (hg : 0 < n₀) :
    SeqStopsK Fence.wide n Tryd.prog 30 #[.pointer (some ⟨Bn, 0, none⟩)] (encV val) (Below n₀) (fun ys => ys.map val = mem S) (fun pre => pre.map val <+: mem S) (mem S).length w := fun l J Jx W hW _ _ hY h0 =>
  each1_of val n hn l Bn n₀ S hS hval J Jx hY W ((hW.cell (p := ⟨Bn, 0, none⟩) hBn).trans hc) (hT.below hW) hg h0
abbrev Nod := Fin 64
def encN (x : Nod) : Array Value := encV Fin.val x
theorem each_stops (n : Nat) (hn : 1 ≤ n) (Bn n₀ S : Nat) (hS : S < 18446744073709551616) (w : World) (hBn : Bn < w.heap.size) (hn₀ : n₀ ≤ w.heap.size)
    (hc : w.cell? ⟨Bn, 0, none⟩ = some (.int .u64 S)) (hT : Tabs w) (hg : 0 < n₀) :
    SeqStopsK Fence.wide n Tryd.prog 30 #[.pointer (some ⟨Bn, 0, none⟩)] encN (Below n₀) (fun ys => ys.map Fin.val = mem S) (fun pre => pre.map Fin.val <+: mem S) (mem S).length w :=
  each_stops_of (α := Nod) Fin.val n hn Bn n₀ S hS (fun x hx => ⟨⟨x, mem_lt x hx⟩, rfl⟩) w hBn hn₀ hc hT hg

def vals (pre : List Nod) : List Int := pre.map fun x => ((x.val : Nat) : Int)
theorem vals_len (pre : List Nod) : (vals pre).length = pre.length := by simp [vals]
theorem vals_snoc (pre : List Nod) (x : Nod) : vals (pre ++ [x]) = vals pre ++ [((x.val : Nat) : Int)] := by simp [vals]
theorem vals_all {S : Nat} {ys : List Nod} (h : ys.map Fin.val = mem S) : vals ys = memI S := by
  unfold memI vals; rw [← h, List.map_map]; rfl

end Go.Proofs.YtmkdemdeejhonaaDoor.Nodes
