/- nodes.List over EachA's iterator (for every layer that asks for a set's list; never NodesG beside it). -/
import Derived.Test.YtkcjllkhmncfdaaDoorEachA
import Derived.Test.YtkcjllkhmncfdaaDoorNodesD
namespace Go.Proofs.YtkcjllkhmncfdaaDoor.Nodes
open Go.RowKit Go.Shelf Go.ChangeShapes Go.WideShapes
set_option linter.unusedVariables false
attribute [local go_sem] Oper.semAt_some
set_option maxRecDepth 100000 in
set_option maxHeartbeats 2000000 in
theorem list_in (n : Nat) (hn : 3 ≤ n) (S : Nat) (hS : S < 18446744073709551616) (w : World) (hT : Tabs w) :
    CallsIn Fence.wide n Tryd.prog 22 #[.int .u64 S] w (ListPost (memI S) w) := by
  have h1 : 1 ≤ n := by omega
  obtain ⟨i0, hi, hz0, hz1, hz2⟩ := info_parts infoInt
  have CC := Lib.hid (fun W => count_any S hS W)
  have CE := Lib.hid (fun W => each_any S W)
  have HN := mem_le S
  obtain ⟨N, hN⟩ : ∃ N, Hid ((mem S).length = N) := ⟨_, Lib.hid rfl⟩
  rw [hN.out] at CC HN
  refine callsIn_of_wp_marks Tryd.func22 rfl trivial ?_ rfl
  simp only [Tryd.ntmps22, List.size_toArray, List.length_cons, List.length_nil, Nat.reduceAdd, Nat.reduceSub, Array.replicate_succ, Array.replicate_zero, List.push_toArray, List.append_toArray, List.nil_append, List.cons_append]
  gi_wp2_with (first
    | (refine ⟨trivial, ?_⟩; gi_at_call 26; refine (callsIn_wide.2 (CC.out _)).mono ?_; rintro e w' ⟨rfl, rfl⟩)
    | (gi_at_make; refine wpListIn_make_own _ rfl _ _ 50 rfl w.heap.size 3 i0 (.int .i64 0) 1 Tryd.underlying50 hi hz0 hz1 .i64 .i64 _ N rfl rfl rfl (by rw [hz2]; omega) (by unfold maxLen; omega) (Nat.le_refl _) ?_; intro w1 hown1 hgrow1)
    | (refine ⟨trivial, ?_⟩; gi_at_call 27; refine (callsIn_wide.2 (CE.out _)).mono ?_; rintro e w' ⟨rfl, rfl⟩))
  have hsz1 := hgrow1.size
  have hlt1 : w.heap.size < w1.heap.size := by
    rcases hown1.2 with ⟨h, _⟩ | ⟨g, cap, cur, h, _, hg, _⟩
    · cases h
    · simp only [Value.slice.injEq, Option.some.injEq, Addr.mk.injEq, and_true, true_and] at h
      obtain ⟨rfl, _⟩ := h
      exact (Array.getElem?_eq_some_iff.1 hg).1
  have hB1 : Below w.heap.size w w1 := (Below.refl _ w).grown hgrow1 (Nat.le_refl _) (fun k e => by cases e)
  have bO := Boxed.new w1 50 (.slice (some ⟨w.heap.size, 0, none⟩) 0 N)
  have bS := Boxed.new (w1.alloc (.cells #[.slice (some ⟨w.heap.size, 0, none⟩) 0 N] 50)) 30 (.int .u64 S)
  rw [World.size_alloc] at bS
  have hB0 : Below w.heap.size w ((w1.alloc (.cells #[.slice (some ⟨w.heap.size, 0, none⟩) 0 N] 50)).alloc (.cells #[.int .u64 S] 30)) := (hB1.alloc (by omega) _).alloc (by simp; omega) _
  have hTL := hT.below hB0
  refine wpIn_rangeFunc_ownG rfl h1 (gf := 32) (lb := #[.pointer (some ⟨w1.heap.size + 1, 0, none⟩)]) rfl trivial (enters_of Tryd.func32 (by kernel_rfl) rfl)
    (each_stops (n - 1) (by omega) (w1.heap.size + 1) w.heap.size S hS _ (by simp) (by simp; omega) bS.cell hTL hT.2) belowK_t (belowK_b (by simp; omega)) (Below.refl _ _) (fun _ => rfl)
    (fun pre W => (∃ v, Boxed W w1.heap.size 50 v ∧ W.ownsRow w.heap.size 3 1 v (vals pre).length ((vals pre).map (Value.int .i64)) ∧ True) ∧ Below w.heap.size w W)
    (fun _ _ _ => False)
    (OwnFrom.and (Own.from (holdsRow_own w.heap.size w1.heap.size 50 3 1 (fun pre => (vals pre).length) (fun pre => (vals pre).map (Value.int .i64)) (fun _ _ => True)) _) (ownFrom_below (Nat.le_refl _) (by simp; omega)))
    (fun _ _ _ _ _ hs _ _ => hs)
    ⟨⟨_, bO.alloc _, (hown1.alloc _).alloc _, trivial⟩, hB0⟩
    (fun x => { tmps := #[.int .u64 S, undef, .slice none 0 0, .pointer (some ⟨w1.heap.size, 0, none⟩), .int .i64 ((x.val : Nat) : Int), .int .u64 S, .int .i64 N, .slice (some ⟨w.heap.size, 0, none⟩) 0 N, .int .u64 S, .func (.func 32) #[] #[.pointer (some ⟨w1.heap.size + 1, 0, none⟩)], .int .i64 ((x.val : Nat) : Int), undef, undef, undef, undef, undef], defers := [] }) ?assign ?body ?done ?stop
  case assign =>
    intro l x W K hK
    unfold encN encV
    gi_wp2
    exact hK
  case body =>
    rintro l pre x W ⟨⟨v, hv, hrow, _⟩, hB⟩ hlt
    rw [hN.out] at hlt
    have hc := hv.cell
    have hpl := vals_len pre
    have HP := Lib.hid hpl
    have hsz := hB.size
    rw [hpl] at hrow
    clear hpl
    gi_wp2_with (gi_at_builtin; refine wpListIn_append_own _ rfl _ _ 50 rfl w.heap.size 3 i0 (.int .i64 0) 1 8 Tryd.underlying50 hi hz0 hz1 hz2 rfl (by decide) _ _ _ rfl (hrow.alloc _) ⟨W.heap.size, 0, none⟩ 1 1 [.int .i64 ((x.val : Nat) : Int)] rfl rfl (cell_one_new _ _ _) (by simp [Value.oneCell']) (by unfold maxLen; omega) (by omega) (by simp; omega) ?_; intro v' w2 hown' hgrow _; obtain ⟨g', cap', rfl⟩ := ownsRow_succ hown'; obtain ⟨hv1, hv2, hr2, hk2, hb2⟩ := hv.appended (by decide) hrow hsz (by omega) hown' hgrow; have hc1 := hv1.cell; have hf1 := hv1.frozen)
    exact ⟨hk2.from _, hb2, ⟨_, hv2, by rw [vals_snoc, List.length_append, List.map_append, HP.out]; exact hr2, trivial⟩, hB.trans hb2⟩
  case done =>
    rintro D ys W hD hys ⟨⟨v, hv, hrow, _⟩, hB⟩ hK
    have hc := hv.cell
    gi_wp2
    refine ⟨by simp, .inl ⟨_, _, rfl, run_takeDeferred hK, ?_⟩⟩
    rw [vals_all hys] at hrow
    have hrow2 := ownsRow_putObj hrow (.deferred none) hK rfl
    obtain ⟨ad, cap, rfl, _⟩ := Own.shape hrow
    exact ⟨_, results_tmp rfl _ _ _, ad, cap, rfl, hrow2, hB.trans (belowK_b (w := w) (Nat.le_refl _) W D _ _ (by simp at hD; omega) hK rfl rfl)⟩
  case stop =>
    rintro D c pre W _ _ h _
    exact h.elim
theorem list_any (S : Nat) (hS : S < 18446744073709551616) (w : World) (hT : Tabs w) :
    Calls Tryd.prog 22 #[.int .u64 S] w (ListPost (memI S) w) := callsIn_wide.1 (list_in 3 (Nat.le_refl _) S hS w hT)
end Go.Proofs.YtkcjllkhmncfdaaDoor.Nodes
