/- The law NodesEach (layer nodes, 3), up to its frame: a range over a function whose body returns, and breaks. -/
import Derived.Test.YtljkpcckfammmaaDoorNodesJ
namespace Go.Proofs.YtljkpcckfammmaaDoor.Nodes
open Go.RowKit Go.Shelf Go.ChangeShapes Go.WideShapes
set_option linter.unusedVariables false
attribute [local go_sem] Oper.semAt_some
theorem boxed_kept {A B : World} {row : Option Nat} {b : Nat} {t : TypeId} {v : Value} (h : Boxed A b t v) (hg : A.grownBy B row) (hr : ∀ r, row = some r → ∃ o : Obj, A.heap[r]? = some o ∧ o.isCells = false) : Boxed B b t v := by
  refine h.kept hg (fun e => ?_)
  obtain ⟨o, ho, hc⟩ := hr b e.symm
  rw [show A.heap[b]? = _ from h] at ho
  cases ho; cases hc
theorem Rd.kept {A B : World} {row : Option Nat} {ad : Option Addr} {zs : List Int} (h : Rd A ad zs) (hg : A.grownBy B row) (hr : ∀ r, row = some r → ∃ o : Obj, A.heap[r]? = some o ∧ o.isCells = false) : Rd B ad zs := by
  rcases h with h | ⟨b, off, e, hc⟩
  · exact .inl h
  · exact .inr ⟨b, off, e, fun i hi => cell_kept (hc i hi) hg hr⟩
theorem prefix_at {ms : List Nat} {pre : List Nod} {x : Nod} (h : pre.map Fin.val ++ [x.val] <+: ms) : ms.getD pre.length 0 = x.val := by
  obtain ⟨r, rfl⟩ := h
  simp [List.getD]
theorem eql_nil (b : Nat) (W : World) : (binOp .eql 48 (.func (.func 42) #[] #[.pointer (some ⟨b, 0, none⟩)]) .nilFunc).run Tryd.prog W = .ok (.bool false) W := by
  kernel_rfl
set_option maxRecDepth 100000 in
set_option maxHeartbeats 2000000 in
theorem eachlaw_in (n : Nat) (hn : 3 ≤ n) (S : Nat) (hS : S < 18446744073709551616) (far : Nat) (hf : far ≤ 255) (w : World) (hT : Tabs w) :
    CallsIn Fence.wide n Tryd.prog 7 #[.int .u64 S, .int .u8 far] w fun e w' => e = .returned (.bool true) ∧ Below w.heap.size w w' := by
  have h1 : 1 ≤ n := by omega
  have CL := Lib.hid (fun W => rlist_any S hS W)
  have CE := Lib.hid (fun W => each_any S W)
  obtain ⟨N, hN⟩ : ∃ N, Hid ((mem S).length = N) := ⟨_, Lib.hid rfl⟩
  have HL := Lib.hid (show (memI S).length = N by rw [memI_len]; exact hN.out)
  have HN : N ≤ 64 := by rw [← hN.out]; exact mem_le S
  refine callsIn_of_wp_marks Tryd.func7 rfl trivial ?_ rfl
  simp only [Tryd.ntmps7, List.size_toArray, List.length_cons, List.length_nil, Nat.reduceAdd, Nat.reduceSub, Array.replicate_succ, Array.replicate_zero, List.push_toArray, List.append_toArray, List.nil_append, List.cons_append]
  have hnil := eql_nil
  gi_wp2_with (first
    | (refine ⟨trivial, ?_⟩; gi_at_call 32; refine (callsIn_wide.2 (CE.out _)).mono ?_; rintro e w' ⟨rfl, rfl⟩)
    | (refine ⟨trivial, ?_⟩; gi_at_call 21; refine (callsIn_wide.2 (CL.out _)).mono ?_; rintro e w1 ⟨ad1, cap1, rfl, hown, hB1⟩))
  have hs0 : (((w.alloc (.cells #[.int .u8 far] 5)).alloc (.cells #[.bool false] 4)).alloc (.cells #[.int .u64 S] 24)).heap.size = w.heap.size + 1 + 1 + 1 := by simp
  have hsz1 := hB1.size
  rw [hs0] at hB1 hsz1
  have bF := (((Boxed.new w 5 (.int .u8 far)).alloc (.cells #[.bool false] 4)).alloc (.cells #[.int .u64 S] 24))
  have bR := ((Boxed.new (w.alloc (.cells #[.int .u8 far] 5)) 4 (.bool false)).alloc (.cells #[.int .u64 S] 24))
  have bS := Boxed.new ((w.alloc (.cells #[.int .u8 far] 5)).alloc (.cells #[.bool false] 4)) 24 (.int .u64 S)
  simp only [World.size_alloc] at bR bS
  have bF1 : Boxed w1 w.heap.size 5 (.int .u8 far) := (hB1.block _ (by omega)).trans bF
  have bR1 : Boxed w1 (w.heap.size + 1) 4 (.bool false) := (hB1.block _ (by omega)).trans bR
  have bS1 : Boxed w1 (w.heap.size + 1 + 1) 24 (.int .u64 S) := (hB1.block _ (by omega)).trans bS
  have bL := (Boxed.new w1 22 (.slice ad1 (memI S).length cap1)).alloc (.cells #[.int .i64 0] 3)
  have bA := Boxed.new (w1.alloc (.cells #[.slice ad1 (memI S).length cap1] 22)) 3 (.int .i64 0)
  rw [World.size_alloc] at bA
  have hBw1 : Below w.heap.size w w1 := ((((Below.refl _ w).alloc (Nat.le_refl _) _).alloc (by simp) _).alloc (by simp; omega) _).trans (hB1.mono (by omega))
  obtain ⟨wL, hwL⟩ : ∃ wL, (w1.alloc (.cells #[.slice ad1 (memI S).length cap1] 22)).alloc (.cells #[.int .i64 0] 3) = wL := ⟨_, rfl⟩
  have hBL1 : Below w1.heap.size w1 wL := by rw [← hwL]; exact ((Below.refl _ _).alloc (Nat.le_refl _) _).alloc (by simp) _
  have hBL : Below w.heap.size w wL := hBw1.trans (hBL1.mono hBw1.size)
  have hsL : wL.heap.size = w1.heap.size + 1 + 1 := by rw [← hwL]; simp
  have bFL : Boxed wL w.heap.size 5 (.int .u8 far) := (hBL1.block _ bF1.lt).trans bF1
  have bRL : Boxed wL (w.heap.size + 1) 4 (.bool false) := (hBL1.block _ bR1.lt).trans bR1
  have bSL : Boxed wL (w.heap.size + 1 + 1) 24 (.int .u64 S) := (hBL1.block _ bS1.lt).trans bS1
  rw [hwL] at bL bA ⊢
  have hRL := Lib.hid (hown.rd.1.below hBL1)
  have hTL := hT.below hBL
  rw [HL.out] at bL hown ⊢
  have hbound : Hid (∀ b off, ad1 = some ⟨b, off, none⟩ → b < w1.heap.size ∨ N = 0) := Lib.hid (by
    intro b off e
    by_cases h0 : N = 0
    · exact .inr h0
    · obtain ⟨g, eg, _, hg2⟩ := hown.pos.2.2 (by have := hown.pos.1; rw [HL.out] at this; omega)
      rw [e] at eg
      cases eg
      exact .inl hg2)
  clear hown hs0 bF bR bS bF1 bR1 bS1
  refine wpIn_rangeFunc_ownG rfl h1 (gf := 42) (lb := #[.pointer (some ⟨w.heap.size + 1 + 1, 0, none⟩)]) rfl trivial (enters_of Tryd.func42 (by kernel_rfl) rfl)
    (each_stops (n - 1) (by omega) (w.heap.size + 1 + 1) w.heap.size S hS wL (by omega) (by omega) bSL.cell hTL hT.2) belowK_t (belowK_b (by omega)) (Below.refl _ _) (fun _ => rfl)
    (fun pre W => (pre.length ≤ far ∧ Boxed W w.heap.size 5 (.int .u8 far) ∧ Boxed W (w.heap.size + 1) 4 (.bool false) ∧ Boxed W w1.heap.size 22 (.slice ad1 N cap1) ∧ Boxed W (w1.heap.size + 1) 3 (.int .i64 (pre.length : Nat)) ∧ Rd W ad1 (memI S)) ∧ Below w.heap.size w W)
    (fun c pre W => ((c = .ret ∧ ¬ pre.map Fin.val <+: mem S) ∨ (c = .exit 0 ∧ pre.length = far + 1 ∧ Boxed W w.heap.size 5 (.int .u8 far) ∧ Boxed W (w.heap.size + 1) 4 (.bool false) ∧ Boxed W w1.heap.size 22 (.slice ad1 N cap1) ∧ Boxed W (w1.heap.size + 1) 3 (.int .i64 (pre.length : Nat)))) ∧ Below w.heap.size w W)
    (OwnFrom.and (Own.from (fun s A B row hs hg hr => ⟨hs.1, boxed_kept hs.2.1 hg hr, boxed_kept hs.2.2.1 hg hr, boxed_kept hs.2.2.2.1 hg hr, boxed_kept hs.2.2.2.2.1 hg hr, Rd.kept hs.2.2.2.2.2 hg hr⟩) _) (ownFrom_below (Nat.le_refl _) (by omega)))
    (fun c => OwnFrom.and (Own.from (fun s A B row hs hg hr => hs.elim .inl (fun h => .inr ⟨h.1, h.2.1, boxed_kept h.2.2.1 hg hr, boxed_kept h.2.2.2.1 hg hr, boxed_kept h.2.2.2.2.1 hg hr, boxed_kept h.2.2.2.2.2 hg hr⟩)) _) (ownFrom_below (Nat.le_refl _) (by omega)))
    ⟨⟨Nat.zero_le _, bFL, bRL, bL, bA, hRL.out⟩, hBL⟩
    (fun x => { tmps := #[.int .u64 S, .int .u8 far, undef, .pointer (some ⟨w.heap.size, 0, none⟩), .pointer (some ⟨w.heap.size + 1, 0, none⟩),
      .func (.func 42) #[] #[.pointer (some ⟨w.heap.size + 1 + 1, 0, none⟩)], .pointer (some ⟨w1.heap.size, 0, none⟩), .pointer (some ⟨w1.heap.size + 1, 0, none⟩), .int .i64 ((x.val : Nat) : Int), .int .u64 S,
      .func (.func 42) #[] #[.pointer (some ⟨w.heap.size + 1 + 1, 0, none⟩)], .func (.func 42) #[] #[.pointer (some ⟨w.heap.size + 1 + 1, 0, none⟩)], .bool false, .int .u64 S, .slice ad1 N cap1,
      .func (.func 42) #[] #[.pointer (some ⟨w.heap.size + 1 + 1, 0, none⟩)], .int .i64 ((x.val : Nat) : Int), undef, undef, undef, undef, undef, undef, undef, undef, undef, undef, undef, undef, undef, undef, undef, undef, undef, undef, undef, undef, undef, undef, undef, undef, undef, undef, undef, undef, undef], defers := [] }) ?assign ?body ?done ?stop
  case assign =>
    intro l x W K hK
    unfold encN
    gi_wp2
    exact hK
  case body =>
    rintro l pre x W ⟨⟨hle, hF, hR, hL, hA, hRd⟩, hB⟩ hlt
    rw [hN.out] at hlt
    have cF := hF.cell
    have cR := hR.cell
    have fR := hR.frozen
    have cL := hL.cell
    have cA := hA.cell
    have fA := hA.frozen
    obtain ⟨b, off, rfl, hc⟩ := hRd.at (k := pre.length) (by rw [HL.out]; exact hlt)
    have hbb := (hbound.out b off rfl).resolve_right (by omega)
    have HY := Lib.hid (memI_getD (S := S) (k := pre.length) (by rw [hN.out]; exact hlt))
    have HRd := Lib.hid hRd
    clear hRd
    by_cases hyx : (memI S).getD pre.length 0 = ((x.val : Nat) : Int)
    · rw [hyx] at hc
      have HEQ := Lib.hid hyx
      have hxx : ((((x.val : Nat) : Int)) != ((x.val : Nat) : Int)) = false := by simp
      clear hyx
      have hA2 := hA.set (.int .i64 ((pre.length + 1 : Nat) : Int))
      have hcA : (W.setCell ⟨w1.heap.size + 1, 0, none⟩ (.int .i64 ((pre.length : Int) + 1))).cell? ⟨w1.heap.size + 1, 0, none⟩ = some (.int .i64 ((pre.length : Int) + 1)) := hA2.cell
      have hF2 : Boxed (W.setCell ⟨w1.heap.size + 1, 0, none⟩ (.int .i64 ((pre.length : Int) + 1))) w.heap.size 5 (.int .u8 far) := hF.other (by omega) _
      have hR2 : Boxed (W.setCell ⟨w1.heap.size + 1, 0, none⟩ (.int .i64 ((pre.length : Int) + 1))) (w.heap.size + 1) 4 (.bool false) := hR.other (by omega) _
      have hL2 : Boxed (W.setCell ⟨w1.heap.size + 1, 0, none⟩ (.int .i64 ((pre.length : Int) + 1))) w1.heap.size 22 (.slice (some ⟨b, off, none⟩) N cap1) := hL.other (by omega) _
      have hB2 := hB.setCell (p := ⟨w1.heap.size + 1, 0, none⟩) (by simp; omega) (.int .i64 ((pre.length : Int) + 1))
      have hcF := hF2.cell
      gi_wp2
      · have hfar : (far : Int) < (pre.length : Int) + 1 := by assumption
        exact ⟨(KeepsOthers.setCell _ _ _).from _, .inr ⟨rfl, by simp; omega, hF2, hR2, hL2, by rw [List.length_append]; exact hA2⟩, hB2⟩
      · have hfar : (pre.length : Int) + 1 ≤ (far : Int) := by assumption
        have hRd2 : Rd (W.setCell ⟨w1.heap.size + 1, 0, none⟩ (.int .i64 ((pre.length : Int) + 1))) (some ⟨b, off, none⟩) (memI S) := by
          rcases HRd.out with h | ⟨b', off', e, hc'⟩
          · exact .inl h
          · refine .inr ⟨b', off', e, fun i hi => ?_⟩
            cases e
            exact World.grownBy.cell (grownBy_setCell' W (w1.heap.size + 1) (.int .i64 ((pre.length : Int) + 1))) (hc' i hi) (by simp; omega)
        exact ⟨(KeepsOthers.setCell _ _ _).from _, (Below.refl _ _).setCell (p := ⟨w1.heap.size + 1, 0, none⟩) (by simp; omega) _, ⟨by simp; omega, hF2, hR2, hL2, by rw [List.length_append]; exact hA2, hRd2⟩, hB2⟩
    · have hyn : (((memI S).getD pre.length 0) != ((x.val : Nat) : Int)) = true := bne_iff_ne.2 hyx
      have HNE := Lib.hid hyx
      generalize (memI S).getD pre.length 0 = y at *
      clear hyx
      gi_wp2
      exact ⟨(KeepsOthers.setCell _ _ _).from _, .inl ⟨rfl, fun hp => by
        rw [List.map_append, List.map_cons, List.map_nil] at hp
        refine HNE.out ?_
        rw [HY.out, prefix_at hp]⟩, hB.setCell (p := ⟨w.heap.size + 1, 0, none⟩) (by simp) _⟩
  case done =>
    rintro D ys W hD hys ⟨⟨hle, hF, hR, hL, hA, _⟩, hB⟩ hK
    have hlen : ys.length = N := by
      have := congrArg List.length hys
      rw [List.length_map] at this
      exact this.trans hN.out
    rw [hlen] at hA hle
    have ht : ((N : Int) == min (N : Int) ((far : Int) + 1)) = true := by rw [beq_iff_eq]; omega
    have CW := Lib.hid (works_any W (hT.below hB))
    have cF := hF.cell
    have cR := hR.cell
    have fR := hR.frozen
    have cL := hL.cell
    have cA := hA.cell
    gi_wp2_with (refine ⟨trivial, ?_⟩; gi_at_call 16; refine (callsIn_wide.2 CW.out).mono ?_; rintro e w3 ⟨rfl, hB3⟩; have hR3 : Boxed w3 (w.heap.size + 1) 4 (.bool false) := (hB3.block _ hR.lt).trans hR; have cR3 := hR3.cell; have fR3 := hR3.frozen)
    have hK3 : w3.heap[D]? = some (.deferred (some [])) := (hB3.block D (Array.getElem?_eq_some_iff.1 hK).1).trans hK
    have hK4 := (KeepsOthers.setCell w3 ⟨w.heap.size + 1, 0, none⟩ (.bool true)).same D _ hK3 rfl
    refine ⟨by simp, .inl ⟨_, _, rfl, run_takeDeferred hK4, ?_⟩⟩
    have hc5 := cell_kept (hR3.set (.bool true)).cell (grownBy_putObj' _ D (.deferred none)) (fun r e => by cases e; exact ⟨_, hK4, rfl⟩)
    have hB4 := (hB.trans (hB3.mono hB.size)).setCell (p := ⟨w.heap.size + 1, 0, none⟩) (by simp) (.bool true)
    refine ⟨.bool true, ?_, rfl, hB4.trans (belowK_b (w := w) (Nat.le_refl _) _ D _ _ (by omega) hK4 rfl rfl)⟩
    simp [results, Tryd.f7, go_sem, hc5]
  case stop =>
    rintro D c pre W hD hpre ⟨h, hB⟩ hK
    rcases h with ⟨_, hn⟩ | ⟨rfl, hlen, hF, hR, hL, hA⟩
    · exact absurd hpre hn
    have hpl : pre.length ≤ N := by
      have := hpre.length_le
      rw [List.length_map, hN.out] at this
      exact this
    rw [hlen] at hA hpl
    have ht : (((far : Int) + 1) == min (N : Int) ((far : Int) + 1)) = true := by rw [beq_iff_eq]; omega
    have hA' : Boxed W (w1.heap.size + 1) 3 (.int .i64 ((far : Int) + 1)) := hA
    clear hA
    have hA := hA'
    have CW := Lib.hid (works_any W (hT.below hB))
    have cF := hF.cell
    have cR := hR.cell
    have fR := hR.frozen
    have cL := hL.cell
    have cA := hA.cell
    gi_wp2_with (refine ⟨trivial, ?_⟩; gi_at_call 16; refine (callsIn_wide.2 CW.out).mono ?_; rintro e w3 ⟨rfl, hB3⟩; have hR3 : Boxed w3 (w.heap.size + 1) 4 (.bool false) := (hB3.block _ hR.lt).trans hR; have cR3 := hR3.cell; have fR3 := hR3.frozen)
    have hK3 : w3.heap[D]? = some (.deferred (some [])) := (hB3.block D (Array.getElem?_eq_some_iff.1 hK).1).trans hK
    have hK4 := (KeepsOthers.setCell w3 ⟨w.heap.size + 1, 0, none⟩ (.bool true)).same D _ hK3 rfl
    refine ⟨by simp, .inl ⟨_, _, rfl, run_takeDeferred hK4, ?_⟩⟩
    have hc5 := cell_kept (hR3.set (.bool true)).cell (grownBy_putObj' _ D (.deferred none)) (fun r e => by cases e; exact ⟨_, hK4, rfl⟩)
    have hB4 := (hB.trans (hB3.mono hB.size)).setCell (p := ⟨w.heap.size + 1, 0, none⟩) (by simp) (.bool true)
    refine ⟨.bool true, ?_, rfl, hB4.trans (belowK_b (w := w) (Nat.le_refl _) _ D _ _ (by omega) hK4 rfl rfl)⟩
    simp [results, Tryd.f7, go_sem, hc5]
end Go.Proofs.YtljkpcckfammmaaDoor.Nodes
