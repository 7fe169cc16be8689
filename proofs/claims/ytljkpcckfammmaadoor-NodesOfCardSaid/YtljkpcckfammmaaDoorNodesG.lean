/- Contracts of package nodes (layer 3): Each, an iterator, and List, which goes over it by a range over a function. -/
import Derived.RangeFuncNested
import Derived.RangeFuncBound
import Derived.RangeFuncCalls
import Derived.RangeFuncLeaves
import Derived.RangeFuncBox
import Derived.Shelf.Abstract
import Derived.Shelf.RegionOpen
import Derived.OwnWalkIn
import Derived.TacticsInMore
import Derived.LoopNIn
import Derived.LoopIn
import Derived.Test.YtljkpcckfammmaaDoorNodesF
import Derived.Test.YtljkpcckfammmaaDoorShelf
namespace Go.Proofs.YtljkpcckfammmaaDoor.Nodes
open Go.RowKit Go.Shelf Go.ChangeShapes Go.WideShapes
set_option linter.unusedVariables false
attribute [local go_sem] Oper.semAt_some
theorem Tabs.below0 {w w' : World} {n₀ : Nat} (h : Tabs w) (hn : 0 < n₀) (hb : Below n₀ w w') : Tabs w' :=
  ⟨fun j hj => (hb.cell (p := ⟨0, j, none⟩) hn).trans (h.1 j hj), Nat.lt_of_lt_of_le h.2 hb.size⟩
abbrev Nod := Fin 64
def memM (v : Value) : Nat := (mem (intOf v).toNat).length
theorem memM_int (q : Nat) : memM (.int .u64 q) = (mem q).length := by simp [memM, intOf]
def encN (x : Nod) : Array Value := #[Value.int .i64 ((x.val : Nat) : Int)]
set_option maxRecDepth 100000 in
set_option maxHeartbeats 1000000 in
theorem each1_in (n : Nat) (hn : 1 ≤ n) (l Bn n₀ S : Nat) (hS : S < 18446744073709551616) (J Jx : List Nod → World → Prop)
    (hY : ∀ pre x W, J pre W → pre.length < (mem S).length → YieldAt Fence.wide (n - 1) Tryd.prog l #[.int .i64 ((x.val : Nat) : Int)] W fun e W' =>
      (e = .returned (.bool true) ∧ J (pre ++ [x]) W' ∧ Below n₀ W W') ∨ (e = .returned (.bool false) ∧ Jx (pre ++ [x]) W'))
    (W : World) (hBn : W.cell? ⟨Bn, 0, none⟩ = some (.int .u64 S)) (hT : Tabs W) (hg : 0 < n₀) (h0 : J [] W) :
    CallsIn Fence.wide n Tryd.prog 42 #[.func (.yield l) #[] #[], .pointer (some ⟨Bn, 0, none⟩)] W fun e W' => (∃ v, e = .returned v) ∧
      ((∃ ys : List Nod, ys.map Fin.val = mem S ∧ J ys W') ∨ (∃ pre : List Nod, pre.map Fin.val <+: mem S ∧ Jx pre W')) := by
  refine callsIn_of_wp Tryd.func42 rfl trivial ?_ rfl
  simp only [Tryd.ntmps42, List.size_toArray, List.length_cons, List.length_nil, Nat.reduceAdd, Nat.reduceSub, Array.replicate_succ, Array.replicate_zero, List.push_toArray, List.append_toArray, List.nil_append, List.cons_append]
  gi_wp2
  gi_loopw [3] (fun r wr => ∃ (pre : List Nod) (q : Nat), r = .int .u64 q ∧ q < 18446744073709551616 ∧ Hid (pre.map Fin.val ++ mem q = mem S) ∧ Tabs wr ∧ J pre wr)
    (fun r _ => memM r)
  case atStart =>
    exact ⟨[], S, rfl, hS, Lib.hid rfl, hT, h0⟩
  case round =>
    obtain ⟨pre, q, rfl, hq, hx, hTr, hJs⟩ := hrel
    by_cases hq0 : q = 0
    · subst hq0
      gi_wp2
      go_end0
      exact ⟨⟨_, rfl⟩, .inl ⟨pre, by have := hx.out; rwa [mem_zero, List.append_nil] at this, hJs⟩⟩
    · obtain ⟨hk, hm⟩ := least_spec hq hq0
      have hln : leastN q = ((⟨Go.Lib.ctz 64 q, hk⟩ : Nod).val : Int) := by unfold leastN; rw [if_neg hq0]
      obtain ⟨fn, tmps, assign, body, hy, hR⟩ := hY pre ⟨Go.Lib.ctz 64 q, hk⟩ wr hJs (by have := hx.out; rw [hm] at this; rw [← this]; simp)
      have CL := Lib.hid (least_any q hq wr hTr)
      rw [hln] at CL
      have CB := Lib.hid (fun W => butLeast_any q hq hq0 W)
      have hne : ((q : Int) != 0) = true := bne_iff_ne.2 (by omega)
      have hd : Hid (((⟨Go.Lib.ctz 64 q, hk⟩ : Nod).val : Nat) = Go.Lib.ctz 64 q) := Lib.hid rfl
      obtain ⟨x, hxv⟩ : ∃ x : Nod, Hid (x = ⟨Go.Lib.ctz 64 q, hk⟩) := ⟨_, Lib.hid rfl⟩
      rw [← hxv.out] at hy CL hR hd
      have HX := Lib.hid (show (pre ++ [x]).map Fin.val ++ mem (q &&& (q - 1)) = mem S by
        have := hx.out; rw [hm] at this; rw [← this, List.map_append, List.map_cons, List.map_nil, hd.out]; simp)
      have HLT := Lib.hid (show (mem (q &&& (q - 1))).length < (mem q).length by rw [hm]; simp)
      have hq2 := and_lt (q - 1) hq
      clear hq0 hm hln hx hxv hk
      gi_wp2_with (refine ⟨trivial, ?_⟩; gi_at_call 23; refine (callsIn_wide.2 CL.out).mono ?_; rintro e w' ⟨rfl, rfl⟩)
      refine hR.mono ?_
      rintro e W3 (⟨rfl, hJ3, hk3⟩ | ⟨rfl, hJx3⟩)
      · have hT3 := hTr.below0 hg hk3
        gi_wp2_with (refine ⟨trivial, ?_⟩; gi_at_call 41; refine (callsIn_wide.2 (CB.out _)).mono ?_; rintro e w' ⟨rfl, rfl⟩)
        go_roundw
        case rel => exact ⟨pre ++ [x], q &&& (q - 1), rfl, hq2, HX, hT3, hJ3⟩
        case measure => rw [memM_int, memM_int]; exact HLT.out
      · gi_wp2
        refine bodyPost_ret (results_none rfl _ _ _) rfl ?_
        exact ⟨⟨_, rfl⟩, .inr ⟨pre ++ [x], ⟨_, HX.out⟩, hJx3⟩⟩

theorem each_any (S : Nat) (w : World) :
    Calls Tryd.prog 32 #[.int .u64 S] w fun e w' => e = .returned (.func (.func 42) #[] #[.pointer (some ⟨w.heap.size, 0, none⟩)]) ∧ w' = w.alloc (.cells #[.int .u64 S] 24) := by
  go_enter Tryd.func32, Tryd.ntmps32
  go_wp2
  go_ret
  exact ⟨rfl, rfl⟩
theorem each_stops (n : Nat) (hn : 1 ≤ n) (Bn n₀ S : Nat) (hS : S < 18446744073709551616) (w : World) (hBn : Bn < w.heap.size) (hn₀ : n₀ ≤ w.heap.size)
    (hc : w.cell? ⟨Bn, 0, none⟩ = some (.int .u64 S)) (hT : Tabs w) (hg : 0 < n₀) :
    SeqStopsK Fence.wide n Tryd.prog 42 #[.pointer (some ⟨Bn, 0, none⟩)] encN (Below n₀) (fun ys => ys.map Fin.val = mem S) (fun pre => pre.map Fin.val <+: mem S) (mem S).length w := fun l J Jx W hW _ _ hY h0 =>
  each1_in n hn l Bn n₀ S hS J Jx hY W ((hW.cell (p := ⟨Bn, 0, none⟩) hBn).trans hc) (hT.below hW) hg h0

def vals (pre : List Nod) : List Int := pre.map fun x => ((x.val : Nat) : Int)
theorem vals_len (pre : List Nod) : (vals pre).length = pre.length := by simp [vals]
theorem vals_snoc (pre : List Nod) (x : Nod) : vals (pre ++ [x]) = vals pre ++ [((x.val : Nat) : Int)] := by simp [vals]
theorem vals_all {S : Nat} {ys : List Nod} (h : ys.map Fin.val = mem S) : vals ys = memI S := by
  unfold memI vals; rw [← h, List.map_map]; rfl

set_option maxRecDepth 100000 in
set_option maxHeartbeats 2000000 in
theorem list_in (n : Nat) (hn : 3 ≤ n) (S : Nat) (hS : S < 18446744073709551616) (w : World) (hT : Tabs w) :
    CallsIn Fence.wide n Tryd.prog 25 #[.int .u64 S] w (ListPost (memI S) w) := by
  have h1 : 1 ≤ n := by omega
  obtain ⟨i0, hi, hz0, hz1, hz2⟩ := info_parts infoInt
  have CC := Lib.hid (fun W => count_any S hS W)
  have CE := Lib.hid (fun W => each_any S W)
  have HN := mem_le S
  obtain ⟨N, hN⟩ : ∃ N, Hid ((mem S).length = N) := ⟨_, Lib.hid rfl⟩
  rw [hN.out] at CC HN
  refine callsIn_of_wp_marks Tryd.func25 rfl trivial ?_ rfl
  simp only [Tryd.ntmps25, List.size_toArray, List.length_cons, List.length_nil, Nat.reduceAdd, Nat.reduceSub, Array.replicate_succ, Array.replicate_zero, List.push_toArray, List.append_toArray, List.nil_append, List.cons_append]
  gi_wp2_with (first
    | (refine ⟨trivial, ?_⟩; gi_at_call 22; refine (callsIn_wide.2 (CC.out _)).mono ?_; rintro e w' ⟨rfl, rfl⟩)
    | (gi_at_make; refine wpListIn_make_own _ rfl _ _ 22 rfl w.heap.size 3 i0 (.int .i64 0) 1 Tryd.underlying22 hi hz0 hz1 .i64 .i64 _ N rfl rfl rfl (by rw [hz2]; omega) (by unfold maxLen; omega) (Nat.le_refl _) ?_; intro w1 hown1 hgrow1)
    | (refine ⟨trivial, ?_⟩; gi_at_call 32; refine (callsIn_wide.2 (CE.out _)).mono ?_; rintro e w' ⟨rfl, rfl⟩))
  have hsz1 := hgrow1.size
  have hlt1 : w.heap.size < w1.heap.size := by
    rcases hown1.2 with ⟨h, _⟩ | ⟨g, cap, cur, h, _, hg, _⟩
    · cases h
    · simp only [Value.slice.injEq, Option.some.injEq, Addr.mk.injEq, and_true, true_and] at h
      obtain ⟨rfl, _⟩ := h
      exact (Array.getElem?_eq_some_iff.1 hg).1
  have hB1 : Below w.heap.size w w1 := (Below.refl _ w).grown hgrow1 (Nat.le_refl _) (fun k e => by cases e)
  have bO := Boxed.new w1 22 (.slice (some ⟨w.heap.size, 0, none⟩) 0 N)
  have bS := Boxed.new (w1.alloc (.cells #[.slice (some ⟨w.heap.size, 0, none⟩) 0 N] 22)) 24 (.int .u64 S)
  rw [World.size_alloc] at bS
  have hB0 : Below w.heap.size w ((w1.alloc (.cells #[.slice (some ⟨w.heap.size, 0, none⟩) 0 N] 22)).alloc (.cells #[.int .u64 S] 24)) := (hB1.alloc (by omega) _).alloc (by simp; omega) _
  have hTL := hT.below hB0
  refine wpIn_rangeFunc_ownG rfl h1 (gf := 42) (lb := #[.pointer (some ⟨w1.heap.size + 1, 0, none⟩)]) rfl trivial (enters_of Tryd.func42 (by kernel_rfl) rfl)
    (each_stops (n - 1) (by omega) (w1.heap.size + 1) w.heap.size S hS _ (by simp) (by simp; omega) bS.cell hTL hT.2) belowK_t (belowK_b (by simp; omega)) (Below.refl _ _) (fun _ => rfl)
    (fun pre W => (∃ v, Boxed W w1.heap.size 22 v ∧ W.ownsRow w.heap.size 3 1 v (vals pre).length ((vals pre).map (Value.int .i64)) ∧ True) ∧ Below w.heap.size w W)
    (fun _ _ _ => False)
    (OwnFrom.and (Own.from (holdsRow_own w.heap.size w1.heap.size 22 3 1 (fun pre => (vals pre).length) (fun pre => (vals pre).map (Value.int .i64)) (fun _ _ => True)) _) (ownFrom_below (Nat.le_refl _) (by simp; omega)))
    (fun _ _ _ _ _ hs _ _ => hs)
    ⟨⟨_, bO.alloc _, (hown1.alloc _).alloc _, trivial⟩, hB0⟩
    (fun x => { tmps := #[.int .u64 S, undef, .slice none 0 0, .pointer (some ⟨w1.heap.size, 0, none⟩), .int .i64 ((x.val : Nat) : Int), .int .u64 S, .int .i64 N, .slice (some ⟨w.heap.size, 0, none⟩) 0 N, .int .u64 S, .func (.func 42) #[] #[.pointer (some ⟨w1.heap.size + 1, 0, none⟩)], .int .i64 ((x.val : Nat) : Int), undef, undef, undef, undef, undef], defers := [] }) ?assign ?body ?done ?stop
  case assign =>
    intro l x W K hK
    unfold encN
    gi_wp2
    exact hK
  case body =>
    rintro l pre x W ⟨⟨v, hv, hrow, _⟩, hB⟩ hlt
    rw [hN.out] at hlt
    have hc := hv.cell
    have hpl := vals_len pre
    have HP := Lib.hid hpl
    have hsz := hB.size
    rw [hpl] at hrow
    clear hpl
    gi_wp2_with (gi_at_builtin; refine wpListIn_append_own _ rfl _ _ 22 rfl w.heap.size 3 i0 (.int .i64 0) 1 8 Tryd.underlying22 hi hz0 hz1 hz2 rfl (by decide) _ _ _ rfl (hrow.alloc _) ⟨W.heap.size, 0, none⟩ 1 1 [.int .i64 ((x.val : Nat) : Int)] rfl rfl (cell_one_new _ _ _) (by simp [Value.oneCell']) (by unfold maxLen; omega) (by omega) (by simp; omega) ?_; intro v' w2 hown' hgrow _; obtain ⟨g', cap', rfl⟩ := ownsRow_succ hown'; obtain ⟨hv1, hv2, hr2, hk2, hb2⟩ := hv.appended (by decide) hrow hsz (by omega) hown' hgrow; have hc1 := hv1.cell; have hf1 := hv1.frozen)
    exact ⟨hk2.from _, hb2, ⟨_, hv2, by rw [vals_snoc, List.length_append, List.map_append, HP.out]; exact hr2, trivial⟩, hB.trans hb2⟩
  case done =>
    rintro D ys W hD hys ⟨⟨v, hv, hrow, _⟩, hB⟩ hK
    have hc := hv.cell
    gi_wp2
    refine ⟨by simp, .inl ⟨_, _, rfl, run_takeDeferred hK, ?_⟩⟩
    rw [vals_all hys] at hrow
    have hrow2 := ownsRow_putObj hrow (.deferred none) hK rfl
    obtain ⟨ad, cap, rfl, _⟩ := Own.shape hrow
    exact ⟨_, results_tmp rfl _ _ _, ad, cap, rfl, hrow2, hB.trans (belowK_b (w := w) (Nat.le_refl _) W D _ _ (by simp at hD; omega) hK rfl rfl)⟩
  case stop =>
    rintro D c pre W _ _ h _
    exact h.elim
theorem list_any (S : Nat) (hS : S < 18446744073709551616) (w : World) (hT : Tabs w) :
    Calls Tryd.prog 25 #[.int .u64 S] w (ListPost (memI S) w) := callsIn_wide.1 (list_in 3 (Nat.le_refl _) S hS w hT)
end Go.Proofs.YtljkpcckfammmaaDoor.Nodes
