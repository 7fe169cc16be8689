/- Contracts of package drift (layer 28): how far a note's clocks are apart. -/
import Derived.Test.YtmkdemdeejhonaaDoorDrfB
import Derived.Test.YtmkdemdeejhonaaDoorInrA
namespace Go.Proofs.YtmkdemdeejhonaaDoor.Drf
open Go.RowKit Go.Shelf Go.ChangeShapes Go.WideShapes Go.ChangeAt
open Go.Proofs.YtmkdemdeejhonaaDoor.Rw
open Nodes (Tabs encV each_any each_stops_of boxed_kept mem mem_mem ret_int)
set_option linter.unusedVariables false
attribute [local go_sem] Oper.semAt_some
theorem gap_none {n : Nt} (h : n.s = 0) : gapV n = 0 := if_pos h
set_option maxRecDepth 100000 in
set_option maxHeartbeats 4000000 in
theorem gap_in (N : Nat) (hN3 : 3 ≤ N) (b : Nat) (n : Nt) (hS : n.set < 18446744073709551616) (w : World) (h : NC w b n) (hT : Tabs w) :
    CallsIn Fence.wide N Tryd.prog 20 #[.pointer (some ⟨b, 0, none⟩)] w fun e w' => e = .returned (.int .i64 (gapV n)) ∧ Below w.heap.size w w' := by
  have h1 : 1 ≤ N := by omega
  have hss := s_lt hS
  have cS := h.set
  have hbl := h.lt
  have CE := Lib.hid (fun S W => each_any S W)
  have hBP : Below w.heap.size w (w.alloc (.cells #[.pointer (some ⟨b, 0, none⟩)] 61)) := (Below.refl _ w).alloc (Nat.le_refl _) _
  by_cases h0 : n.s = 0
  · rw [gap_none h0]
    rw [h0] at cS
    have HB := Lib.hid hBP
    clear h CE
    refine callsIn_of_wp_marks Tryd.func20 rfl trivial ?_ rfl
    simp only [Tryd.ntmps20, List.size_toArray, List.length_cons, List.length_nil, Nat.reduceAdd, Nat.reduceSub, Array.replicate_succ, Array.replicate_zero, List.push_toArray, List.append_toArray, List.nil_append, List.cons_append]
    gi_wp2_with fail
    exact ⟨_, results_tmp rfl _ _ _, rfl, HB.out⟩
  have hm := head_mem hss h0
  have HG : Hid (gapV n = hi n (Go.Lib.ctz 64 n.s) (mem n.s) - lo n (Go.Lib.ctz 64 n.s) (mem n.s)) := Lib.hid (if_neg h0)
  rw [HG.out]
  have hd64 : Go.Lib.ctz 64 n.s < 64 := (mem_mem.1 hm).1
  have HTd := Lib.hid (fun i (hi : i ∈ mem n.s) => told_at (n := n) hi)
  have CL := Lib.hid (fun W (hW : Tabs W) => Nodes.least_any n.s hss W hW)
  rw [show Nodes.leastN n.s = ((Go.Lib.ctz 64 n.s : Nat) : Int) from if_neg h0] at CL
  have cD := h.told hd64
  rw [told_at hm] at cD
  have hs0 : (((n.s : Nat) : Int) == 0) = false := by simp; omega
  have HH := Lib.hid h
  have hlo := lo_nil n (Go.Lib.ctz 64 n.s)
  have hhi := hi_nil n (Go.Lib.ctz 64 n.s)
  generalize Go.Lib.ctz 64 n.s = hd at *
  obtain ⟨sN, hsN⟩ : ∃ sN, n.s = sN := ⟨_, rfl⟩
  rw [hsN] at hss cS HTd CL hs0 h0 ⊢
  have hsN := Lib.hid hsN
  have hd0 : (0 : Int) ≤ (hd : Int) := by omega
  have hd1 : (hd : Int) < 64 := by omega
  have HB := Lib.hid hBP
  have HTB := Lib.hid (hT.below hBP)
  have bP := Boxed.new w 61 (.pointer (some ⟨b, 0, none⟩))
  clear hBP h
  refine callsIn_of_wp_marks Tryd.func20 rfl trivial ?_ rfl
  simp only [Tryd.ntmps20, List.size_toArray, List.length_cons, List.length_nil, Nat.reduceAdd, Nat.reduceSub, Array.replicate_succ, Array.replicate_zero, List.push_toArray, List.append_toArray, List.nil_append, List.cons_append]
  gi_wp2_with fail
  obtain ⟨W0, hW0⟩ : ∃ W0, w.alloc (.cells #[.pointer (some ⟨b, 0, none⟩)] 61) = W0 := ⟨_, rfl⟩
  have hz0 : W0.heap.size = w.heap.size + 1 := by rw [← hW0]; simp
  rw [hW0] at bP HB HTB ⊢
  have cS0 : W0.cell? ⟨b, 1, none⟩ = some (.int .u64 (sN : Int)) := by rw [← hW0]; rw [World.cell?_alloc_some _ _ _ (by rw [cS]; rfl)]; exact cS
  have cD0 : W0.cell? ⟨b, 2 + hd, none⟩ = some (.int .i64 (n.t hd)) := by rw [← hW0]; rw [World.cell?_alloc_some _ _ _ (by rw [cD]; rfl)]; exact cD
  have cP0 := bP.cell
  clear hW0
  have hmx : Tryd.prog.follows .mixedOrders = true := by kernel_rfl
  rename_i Q' K hKK
  have CONT : Hid (Exit.then K Q' .normal
      { tmps := #[.pointer (some ⟨b, 0, none⟩), .pointer (some ⟨w.heap.size, 0, none⟩), .int .i64 0, .pointer (some ⟨w.heap.size + 1, 0, none⟩), undef, undef, .pointer (some ⟨b, 0, none⟩), .pointer (some ⟨b, 0, none⟩), .pointer (some ⟨b, 1, none⟩),
          .int .u64 (sN : Int), .bool false, .pointer (some ⟨b, 0, none⟩), .pointer (some ⟨b, 0, none⟩), .pointer (some ⟨b, 0, none⟩), .pointer (some ⟨b, 1, none⟩), .int .u64 (sN : Int), .int .i64 (hd : Int), .pointer (some ⟨b, 0, none⟩), .pointer (some ⟨b, 2, none⟩), .pointer (some ⟨b, 2 + hd, none⟩), .int .i64 (n.t hd),
          undef, undef, undef, undef, undef, undef, undef, undef, undef, undef, undef, undef, undef, undef, undef, undef, undef, undef, undef, undef, undef, undef, undef, undef, undef, undef], defers := [] }
      (W0.alloc (.cells #[.int .i64 (n.t hd)] 2)).drew) := by
    have bP1 : Boxed (W0.alloc (.cells #[.int .i64 (n.t hd)] 2)).drew w.heap.size 61 (.pointer (some ⟨b, 0, none⟩)) := bP.alloc (.cells #[.int .i64 (n.t hd)] 2)
    have bA1 : Boxed (W0.alloc (.cells #[.int .i64 (n.t hd)] 2)).drew W0.heap.size 2 (.int .i64 (n.t hd)) := Boxed.new W0 2 (.int .i64 (n.t hd))
    have hB1 := (HB.out.alloc (by omega) (.cells #[.int .i64 (n.t hd)] 2)).drew
    have hz1 : (W0.alloc (.cells #[.int .i64 (n.t hd)] 2)).drew.heap.size = w.heap.size + 1 + 1 := by show (W0.alloc _).heap.size = _; simp [hz0]
    rw [hz0] at bA1
    obtain ⟨W1, hW1⟩ : ∃ W1, (W0.alloc (.cells #[.int .i64 (n.t hd)] 2)).drew = W1 := ⟨_, rfl⟩
    rw [hW1] at bP1 bA1 hB1 hz1 ⊢
    clear hW1 cS0 cD0 cP0 bP CL HB HTB hmx
    have cP1 := bP1.cell
    have cA1 := bA1.cell
    have cS1 := NC.set (HH.out.below hB1)
    rw [hsN.out] at cS1
    have hcs1 : (W1.alloc (.cells #[.int .i64 (n.t hd)] 2)).cell? ⟨b, 1, none⟩ = some (.int .u64 (sN : Int)) := by rw [World.cell?_alloc_some _ _ _ (by rw [cS1]; rfl)]; exact cS1
    refine hKK _ _ ?_
    clear hKK K
    gi_wp2_with (refine ⟨trivial, ?_⟩; gi_at_call 25; refine (callsIn_wide.2 (CE.out _ _)).mono ?_; rintro e w' ⟨rfl, rfl⟩)
    rename_i K2 hKK2
    have bP2 := (bP1.alloc (.cells #[.int .i64 (n.t hd)] 2)).alloc (.cells #[.int .u64 (sN : Int)] 33)
    have bA2 := (bA1.alloc (.cells #[.int .i64 (n.t hd)] 2)).alloc (.cells #[.int .u64 (sN : Int)] 33)
    have bC2 := (Boxed.new W1 2 (.int .i64 (n.t hd))).alloc (.cells #[.int .u64 (sN : Int)] 33)
    have bS := Boxed.new (W1.alloc (.cells #[.int .i64 (n.t hd)] 2)) 33 (.int .u64 (sN : Int))
    have hB2 := (hB1.alloc (by omega) (.cells #[.int .i64 (n.t hd)] 2)).alloc (by simp; omega) (.cells #[.int .u64 (sN : Int)] 33)
    simp only [World.size_alloc, hz1] at bC2 bS
    obtain ⟨V0, hV0⟩ : ∃ V0, (W1.alloc (.cells #[.int .i64 (n.t hd)] 2)).alloc (.cells #[.int .u64 (sN : Int)] 33) = V0 := ⟨_, rfl⟩
    have hs2 : V0.heap.size = w.heap.size + 1 + 1 + 1 + 1 := by rw [← hV0]; simp [hz1]
    rw [hV0] at bP2 bA2 bC2 hB2 bS ⊢
    have hTL := hT.below hB2
    have HSN := Lib.hid (fun x (hx : x ∈ mem sN) => (mem_mem.1 hx).1)
    clear hV0 bP1 bA1 hB1 cP1 cA1 cS1 hz1 hz0
    rw [← hlo] at bA2
    rw [← hhi] at bC2
    refine wpIn_rangeFunc_ownG rfl h1 (gf := 30) (lb := #[.pointer (some ⟨w.heap.size + 1 + 1 + 1, 0, none⟩)]) rfl trivial (enters_of Tryd.func30 (by kernel_rfl) rfl)
      (each_stops_of (α := In sN) Subtype.val (N - 1) (by omega) (w.heap.size + 1 + 1 + 1) w.heap.size sN hss (fun x hx => ⟨⟨x, hx⟩, rfl⟩) V0 (by omega) (by omega) bS.cell hTL hT.2) belowK_t (belowK_b (by omega)) (Below.refl _ _) (fun _ => rfl)
      (fun pre V => (Boxed V w.heap.size 61 (.pointer (some ⟨b, 0, none⟩)) ∧ Boxed V (w.heap.size + 1) 2 (.int .i64 (lo n hd (valN pre))) ∧ Boxed V (w.heap.size + 1 + 1) 2 (.int .i64 (hi n hd (valN pre)))) ∧ Below w.heap.size w V)
      (fun _ _ _ => False)
      (OwnFrom.and (Own.from (fun s A B row hs hg hr => ⟨boxed_kept hs.1 hg hr, boxed_kept hs.2.1 hg hr, boxed_kept hs.2.2 hg hr⟩) _) (ownFrom_below (Nat.le_refl _) (by omega)))
      (fun _ _ _ _ _ hs _ _ => hs)
      ⟨⟨bP2, bA2, bC2⟩, hB2⟩
      (fun x => { tmps := #[.pointer (some ⟨b, 0, none⟩), .pointer (some ⟨w.heap.size, 0, none⟩), .int .i64 0, .pointer (some ⟨w.heap.size + 1, 0, none⟩), .pointer (some ⟨w.heap.size + 1 + 1, 0, none⟩), .int .i64 ((x.1 : Nat) : Int), .pointer (some ⟨b, 0, none⟩), .pointer (some ⟨b, 0, none⟩), .pointer (some ⟨b, 1, none⟩),
          .int .u64 (sN : Int), .bool false, .pointer (some ⟨b, 0, none⟩), .pointer (some ⟨b, 0, none⟩), .pointer (some ⟨b, 0, none⟩), .pointer (some ⟨b, 1, none⟩), .int .u64 (sN : Int), .int .i64 (hd : Int), .pointer (some ⟨b, 0, none⟩), .pointer (some ⟨b, 2, none⟩), .pointer (some ⟨b, 2 + hd, none⟩), .int .i64 (n.t hd),
          .int .i64 (n.t hd), .pointer (some ⟨b, 0, none⟩), .pointer (some ⟨b, 0, none⟩), .pointer (some ⟨b, 1, none⟩), .int .u64 (sN : Int), .func (.func 30) #[] #[.pointer (some ⟨w.heap.size + 1 + 1 + 1, 0, none⟩)], .int .i64 ((x.1 : Nat) : Int),
          undef, undef, undef, undef, undef, undef, undef, undef, undef, undef, undef, undef, undef, undef, undef, undef, undef, undef, undef], defers := [] }) ?assign ?body ?done ?stop
    case assign =>
      intro l' x V K hK
      unfold encV
      gi_wp2
      exact hK
    case body =>
      rintro l' pre x V ⟨⟨hP, hA, hC⟩, hB⟩ _
      have hmx : Tryd.prog.follows .mixedOrders = true := by kernel_rfl
      have hx64 := HSN.out x.1 x.2
      have cX := NC.told (HH.out.below hB) hx64
      rw [HTd.out x.1 x.2] at cX
      have cP := hP.cell
      have cA := hA.cell
      have cC := hC.cell
      have fA := hA.frozen
      have fC := hC.frozen
      have hx64' : ((x.1 : Nat) : Int) < 64 := by omega
      have hx0 : (0 : Int) ≤ ((x.1 : Nat) : Int) := by omega
      have hne : b ≠ w.heap.size + 1 ∧ b ≠ w.heap.size + 1 + 1 := ⟨by omega, by omega⟩
      have EL := Lib.hid (lo_snoc n hd (valN pre) x.1)
      have EH := Lib.hid (hi_snoc n hd (valN pre) x.1)
      have EV : Hid (valN (pre ++ [x]) = valN pre ++ [x.1]) := Lib.hid (by unfold valN; rw [List.map_append]; rfl)
      have HF : Hid (∀ a c, a = min (lo n hd (valN pre)) (n.t x.1) → c = max (hi n hd (valN pre)) (n.t x.1) → ∀ V', V' = (V.setCell ⟨w.heap.size + 1, 0, none⟩ (.int .i64 a)).setCell ⟨w.heap.size + 1 + 1, 0, none⟩ (.int .i64 c) ∨ V' = ((V.setCell ⟨w.heap.size + 1, 0, none⟩ (.int .i64 a)).setCell ⟨w.heap.size + 1 + 1, 0, none⟩ (.int .i64 c)).drew →
          KeepsFrom V0.heap.size V V' ∧ Below w.heap.size V V' ∧ ((Boxed V' w.heap.size 61 (.pointer (some ⟨b, 0, none⟩)) ∧ Boxed V' (w.heap.size + 1) 2 (.int .i64 (lo n hd (valN (pre ++ [x])))) ∧ Boxed V' (w.heap.size + 1 + 1) 2 (.int .i64 (hi n hd (valN (pre ++ [x]))))) ∧ Below w.heap.size w V')) := Lib.hid (by
        rintro a c rfl rfl V' hV'
        rw [EV.out, EL.out, EH.out]
        generalize min (lo n hd (valN pre)) (n.t x.1) = a at *
        generalize max (hi n hd (valN pre)) (n.t x.1) = c at *
        have hb1 := ((Below.refl w.heap.size V).setCell (p := ⟨w.heap.size + 1, 0, none⟩) (show w.heap.size ≤ w.heap.size + 1 by omega) (.int .i64 a)).setCell (p := ⟨w.heap.size + 1 + 1, 0, none⟩) (show w.heap.size ≤ w.heap.size + 1 + 1 by omega) (.int .i64 c)
        have e1 := (hP.other (show w.heap.size ≠ w.heap.size + 1 by omega) (.int .i64 a)).other (show w.heap.size ≠ w.heap.size + 1 + 1 by omega) (.int .i64 c)
        have e2 := (hA.set (.int .i64 a)).other (show w.heap.size + 1 ≠ w.heap.size + 1 + 1 by omega) (.int .i64 c)
        have e3 := (hC.other (show w.heap.size + 1 + 1 ≠ w.heap.size + 1 by omega) (.int .i64 a)).set (.int .i64 c)
        have k1 : KeepsOthers V ((V.setCell ⟨w.heap.size + 1, 0, none⟩ (.int .i64 a)).setCell ⟨w.heap.size + 1 + 1, 0, none⟩ (.int .i64 c)) := (KeepsOthers.setCell _ _ _).trans (KeepsOthers.setCell _ _ _)
        rcases hV' with rfl | rfl
        · exact ⟨k1.from _, hb1, ⟨e1, e2, e3⟩, hB.trans hb1⟩
        · exact ⟨(k1.trans (KeepsOthers.drew _)).from _, hb1.drew, ⟨e1, e2, e3⟩, (hB.trans hb1).drew⟩)
      clear hP hA hC hB EL EH EV HSN HH HTd CE
      generalize n.t x.1 = tx at *
      generalize lo n hd (valN pre) = lp at *
      generalize hi n hd (valN pre) = hp at *
      gi_wp2_with fail
      --REGION7
      have HS0 : Hid (V.drew.cell? ⟨w.heap.size, 0, none⟩ = some (.pointer (some ⟨b, 0, none⟩)) ∧ V.drew.cell? ⟨b, 2 + x.1, none⟩ = some (.int .i64 tx)) := Lib.hid ⟨cP, cX⟩
      have HS1 : Hid (∀ a, (V.drew.setCell ⟨w.heap.size + 1, 0, none⟩ a).cell? ⟨w.heap.size, 0, none⟩ = some (.pointer (some ⟨b, 0, none⟩)) ∧ (V.drew.setCell ⟨w.heap.size + 1, 0, none⟩ a).cell? ⟨b, 2 + x.1, none⟩ = some (.int .i64 tx)) := Lib.hid (fun a =>
        ⟨(World.cell?_setCell_far _ _ _ _ (show w.heap.size + 1 ≠ w.heap.size by omega)).trans HS0.out.1, (World.cell?_setCell_far _ _ _ _ (show w.heap.size + 1 ≠ b by omega)).trans HS0.out.2⟩)
      have HS2 : Hid (∀ a c, ((V.drew.setCell ⟨w.heap.size + 1, 0, none⟩ a).setCell ⟨w.heap.size + 1 + 1, 0, none⟩ c).cell? ⟨w.heap.size, 0, none⟩ = some (.pointer (some ⟨b, 0, none⟩)) ∧ ((V.drew.setCell ⟨w.heap.size + 1, 0, none⟩ a).setCell ⟨w.heap.size + 1 + 1, 0, none⟩ c).cell? ⟨b, 2 + x.1, none⟩ = some (.int .i64 tx)) := Lib.hid (fun a c =>
        ⟨(World.cell?_setCell_far _ _ _ _ (show w.heap.size + 1 + 1 ≠ w.heap.size by omega)).trans (HS1.out a).1, (World.cell?_setCell_far _ _ _ _ (show w.heap.size + 1 + 1 ≠ b by omega)).trans (HS1.out a).2⟩)
      refine Inr.wpIn_region_held_round (S := (fun W => W.cell? ⟨w.heap.size, 0, none⟩ = some (.pointer (some ⟨b, 0, none⟩)) ∧ W.cell? ⟨b, 2 + x.1, none⟩ = some (.int .i64 tx))) (by kernel_rfl) (by kernel_rfl) ?_ (fun hHeld => ?_)
      · exact HS0.out
      refine wpAnyH_take (i := 1) (v := ?_) rfl (by kernel_rfl) (by kernel_rfl) (by kernel_rfl) (fun _ _ _ h => h) (Or.inl ⟨by kernel_rfl, ?_⟩) (by assumption) ?_
      rotate_left 1
      focus (intro w' hSw; obtain ⟨s1, s2⟩ := hSw; go_simp; try with_reducible rfl)
      try simp only [Act.put, List.getElem_toArray, List.getElem_cons_succ, List.getElem_cons_zero, List.setIfInBounds_toArray, List.set_cons_zero, List.set_cons_succ]
      refine wpAnyH_take (i := 2) (v := ?_) rfl (by kernel_rfl) (by kernel_rfl) (by kernel_rfl) (fun _ _ _ h => h) (Or.inl ⟨by kernel_rfl, ?_⟩) (by assumption) ?_
      rotate_left 1
      focus (intro w' hSw; clear hSw; go_simp; try with_reducible rfl)
      try simp only [Act.put, List.getElem_toArray, List.getElem_cons_succ, List.getElem_cons_zero, List.setIfInBounds_toArray, List.set_cons_zero, List.set_cons_succ]
      refine wpAnyH_take (i := 3) (v := ?_) rfl (by kernel_rfl) (by kernel_rfl) (by kernel_rfl) (fun _ _ _ h => h) (Or.inl ⟨by kernel_rfl, ?_⟩) (by assumption) ?_
      rotate_left 1
      focus (intro w' hSw; clear hSw; go_simp; try with_reducible rfl)
      try simp only [Act.put, List.getElem_toArray, List.getElem_cons_succ, List.getElem_cons_zero, List.setIfInBounds_toArray, List.set_cons_zero, List.set_cons_succ]
      refine wpAnyH_take (i := 4) (v := ?_) rfl (by kernel_rfl) (by kernel_rfl) (by kernel_rfl) (fun _ _ _ h => h) (Or.inl ⟨by kernel_rfl, ?_⟩) (by assumption) ?_
      rotate_left 1
      focus (intro w' hSw; clear hSw; go_simp; try with_reducible rfl)
      try simp only [Act.put, List.getElem_toArray, List.getElem_cons_succ, List.getElem_cons_zero, List.setIfInBounds_toArray, List.set_cons_zero, List.set_cons_succ]
      refine wpAnyH_take (i := 5) (v := ?_) rfl (by kernel_rfl) (by kernel_rfl) (by kernel_rfl) (fun _ _ _ h => h) (Or.inl ⟨by kernel_rfl, ?_⟩) (by assumption) ?_
      rotate_left 1
      focus (intro w' hSw; clear hSw; go_simp; try with_reducible rfl)
      try simp only [Act.put, List.getElem_toArray, List.getElem_cons_succ, List.getElem_cons_zero, List.setIfInBounds_toArray, List.set_cons_zero, List.set_cons_succ]
      refine wpAnyH_take (i := 6) (v := ?_) rfl (by kernel_rfl) (by kernel_rfl) (by kernel_rfl) (fun _ _ _ h => h) (Or.inl ⟨by kernel_rfl, ?_⟩) (by assumption) ?_
      rotate_left 1
      focus (intro w' hSw; obtain ⟨s1, s2⟩ := hSw; go_simp; try with_reducible rfl)
      try simp only [Act.put, List.getElem_toArray, List.getElem_cons_succ, List.getElem_cons_zero, List.setIfInBounds_toArray, List.set_cons_zero, List.set_cons_succ]
      refine wpAnyH_take (i := 9) (v := ?_) rfl (by kernel_rfl) (by kernel_rfl) (by kernel_rfl) (fun _ _ _ h => h) (Or.inl ⟨by kernel_rfl, ?_⟩) (by assumption) ?_
      rotate_left 1
      focus (intro w' hSw; obtain ⟨s1, s2⟩ := hSw; go_simp; try with_reducible rfl)
      try simp only [Act.put, List.getElem_toArray, List.getElem_cons_succ, List.getElem_cons_zero, List.setIfInBounds_toArray, List.set_cons_zero, List.set_cons_succ]
      refine wpAnyH_take (i := 10) (v := ?_) rfl (by kernel_rfl) (by kernel_rfl) (by kernel_rfl) (fun _ _ _ h => h) (Or.inl ⟨by kernel_rfl, ?_⟩) (by assumption) ?_
      rotate_left 1
      focus (intro w' hSw; clear hSw; go_simp; try with_reducible rfl)
      try simp only [Act.put, List.getElem_toArray, List.getElem_cons_succ, List.getElem_cons_zero, List.setIfInBounds_toArray, List.set_cons_zero, List.set_cons_succ]
      refine wpAnyH_take (i := 11) (v := ?_) rfl (by kernel_rfl) (by kernel_rfl) (by kernel_rfl) (fun _ _ _ h => h) (Or.inl ⟨by kernel_rfl, ?_⟩) (by assumption) ?_
      rotate_left 1
      focus (intro w' hSw; clear hSw; go_simp; try with_reducible rfl)
      try simp only [Act.put, List.getElem_toArray, List.getElem_cons_succ, List.getElem_cons_zero, List.setIfInBounds_toArray, List.set_cons_zero, List.set_cons_succ]
      refine wpAnyH_take (i := 12) (v := ?_) rfl (by kernel_rfl) (by kernel_rfl) (by kernel_rfl) (fun _ _ _ h => h) (Or.inl ⟨by kernel_rfl, ?_⟩) (by assumption) ?_
      rotate_left 1
      focus (intro w' hSw; clear hSw; go_simp; try with_reducible rfl)
      try simp only [Act.put, List.getElem_toArray, List.getElem_cons_succ, List.getElem_cons_zero, List.setIfInBounds_toArray, List.set_cons_zero, List.set_cons_succ]
      refine wpAnyH_take (i := 13) (v := ?_) rfl (by kernel_rfl) (by kernel_rfl) (by kernel_rfl) (fun _ _ _ h => h) (Or.inl ⟨by kernel_rfl, ?_⟩) (by assumption) ?_
      rotate_left 1
      focus (intro w' hSw; clear hSw; go_simp; try with_reducible rfl)
      try simp only [Act.put, List.getElem_toArray, List.getElem_cons_succ, List.getElem_cons_zero, List.setIfInBounds_toArray, List.set_cons_zero, List.set_cons_succ]
      refine wpAnyH_take (i := 14) (v := ?_) rfl (by kernel_rfl) (by kernel_rfl) (by kernel_rfl) (fun _ _ _ h => h) (Or.inl ⟨by kernel_rfl, ?_⟩) (by assumption) ?_
      rotate_left 1
      focus (intro w' hSw; obtain ⟨s1, s2⟩ := hSw; go_simp; try with_reducible rfl)
      try simp only [Act.put, List.getElem_toArray, List.getElem_cons_succ, List.getElem_cons_zero, List.setIfInBounds_toArray, List.set_cons_zero, List.set_cons_succ]
      refine wpAnyH_ready (rs := [0, 8]) (by kernel_rfl) (by simp) ?_
      refine AllReadyH.cons rfl (fun K hK => ?_) ?_
      · go_simp
        refine hK.out _ _ ?_ (fun hHeld => ?_)
        · exact HS0.out
        clear hK K
        refine wpAnyH_take (i := 7) (v := ?_) rfl (by kernel_rfl) (by kernel_rfl) (by kernel_rfl) (fun _ _ _ h => h) (Or.inl ⟨by kernel_rfl, ?_⟩) (by assumption) ?_
        rotate_left 1
        focus (intro w' hSw; clear hSw; go_simp; try with_reducible rfl)
        try simp only [Act.put, List.getElem_toArray, List.getElem_cons_succ, List.getElem_cons_zero, List.setIfInBounds_toArray, List.set_cons_zero, List.set_cons_succ]
        refine wpAnyH_ready (rs := [8, 16]) (by kernel_rfl) (by simp) ?_
        refine AllReadyH.cons rfl (fun K hK => ?_) ?_
        · go_simp
          refine hK.out _ _ ?_ (fun hHeld => ?_)
          · exact HS0.out
          clear hK K
          refine wpAnyH_take (i := 15) (v := ?_) rfl (by kernel_rfl) (by kernel_rfl) (by kernel_rfl) (fun _ _ _ h => h) (Or.inl ⟨by kernel_rfl, ?_⟩) (by assumption) ?_
          rotate_left 1
          focus (intro w' hSw; clear hSw; go_simp; try with_reducible rfl)
          try simp only [Act.put, List.getElem_toArray, List.getElem_cons_succ, List.getElem_cons_zero, List.setIfInBounds_toArray, List.set_cons_zero, List.set_cons_succ]
          refine wpAnyH_ready (rs := [16]) (by kernel_rfl) (by simp) ?_
          refine AllReadyH.cons rfl (fun K hK => ?_) ?_
          · go_simp
            refine hK.out _ _ ?_ (fun hHeld => ?_)
            · exact HS1.out _
            clear hK K
            refine wpAnyH_ready (rs := [17]) (by kernel_rfl) (by simp) ?_
            refine AllReadyH.cons rfl (fun K hK => ?_) ?_
            · go_simp
              refine hK.out _ _ ?_ (fun hHeld => ?_)
              · exact HS2.out _ _
              clear hK K
              refine wpAnyH_done (by kernel_rfl) ?_ _
              refine Inr.only_norm ?_
              clear hHeld HS0 HS1 HS2
              gi_wp2
              exact HF.out _ _ rfl rfl _ (.inr rfl)
            exact AllReadyH.nil
          exact AllReadyH.nil
        refine AllReadyH.cons rfl (fun K hK => ?_) ?_
        · go_simp
          refine hK.out _ _ ?_ (fun hHeld => ?_)
          · exact HS1.out _
          clear hK K
          refine wpAnyH_ready (rs := [8]) (by kernel_rfl) (by simp) ?_
          refine AllReadyH.cons rfl (fun K hK => ?_) ?_
          · go_simp
            refine hK.out _ _ ?_ (fun hHeld => ?_)
            · exact HS1.out _
            clear hK K
            refine wpAnyH_take (i := 15) (v := ?_) rfl (by kernel_rfl) (by kernel_rfl) (by kernel_rfl) (fun _ _ _ h => h) (Or.inl ⟨by kernel_rfl, ?_⟩) (by assumption) ?_
            rotate_left 1
            focus (intro w' hSw; clear hSw; go_simp; try with_reducible rfl)
            try simp only [Act.put, List.getElem_toArray, List.getElem_cons_succ, List.getElem_cons_zero, List.setIfInBounds_toArray, List.set_cons_zero, List.set_cons_succ]
            refine wpAnyH_ready (rs := [17]) (by kernel_rfl) (by simp) ?_
            refine AllReadyH.cons rfl (fun K hK => ?_) ?_
            · go_simp
              refine hK.out _ _ ?_ (fun hHeld => ?_)
              · exact HS2.out _ _
              clear hK K
              refine wpAnyH_done (by kernel_rfl) ?_ _
              refine Inr.only_norm ?_
              clear hHeld HS0 HS1 HS2
              gi_wp2
              exact HF.out _ _ rfl rfl _ (.inr rfl)
            exact AllReadyH.nil
          exact AllReadyH.nil
        exact AllReadyH.nil
      refine AllReadyH.cons rfl (fun K hK => ?_) ?_
      · go_simp
        refine hK.out _ _ ?_ (fun hHeld => ?_)
        · exact HS0.out
        clear hK K
        refine wpAnyH_take (i := 15) (v := ?_) rfl (by kernel_rfl) (by kernel_rfl) (by kernel_rfl) (fun _ _ _ h => h) (Or.inl ⟨by kernel_rfl, ?_⟩) (by assumption) ?_
        rotate_left 1
        focus (intro w' hSw; clear hSw; go_simp; try with_reducible rfl)
        try simp only [Act.put, List.getElem_toArray, List.getElem_cons_succ, List.getElem_cons_zero, List.setIfInBounds_toArray, List.set_cons_zero, List.set_cons_succ]
        refine wpAnyH_ready (rs := [0]) (by kernel_rfl) (by simp) ?_
        refine AllReadyH.cons rfl (fun K hK => ?_) ?_
        · go_simp
          refine hK.out _ _ ?_ (fun hHeld => ?_)
          · exact HS0.out
          clear hK K
          refine wpAnyH_take (i := 7) (v := ?_) rfl (by kernel_rfl) (by kernel_rfl) (by kernel_rfl) (fun _ _ _ h => h) (Or.inl ⟨by kernel_rfl, ?_⟩) (by assumption) ?_
          rotate_left 1
          focus (intro w' hSw; clear hSw; go_simp; try with_reducible rfl)
          try simp only [Act.put, List.getElem_toArray, List.getElem_cons_succ, List.getElem_cons_zero, List.setIfInBounds_toArray, List.set_cons_zero, List.set_cons_succ]
          refine wpAnyH_ready (rs := [16]) (by kernel_rfl) (by simp) ?_
          refine AllReadyH.cons rfl (fun K hK => ?_) ?_
          · go_simp
            refine hK.out _ _ ?_ (fun hHeld => ?_)
            · exact HS1.out _
            clear hK K
            refine wpAnyH_ready (rs := [17]) (by kernel_rfl) (by simp) ?_
            refine AllReadyH.cons rfl (fun K hK => ?_) ?_
            · go_simp
              refine hK.out _ _ ?_ (fun hHeld => ?_)
              · exact HS2.out _ _
              clear hK K
              refine wpAnyH_done (by kernel_rfl) ?_ _
              refine Inr.only_norm ?_
              clear hHeld HS0 HS1 HS2
              gi_wp2
              exact HF.out _ _ rfl rfl _ (.inr rfl)
            exact AllReadyH.nil
          exact AllReadyH.nil
        exact AllReadyH.nil
      exact AllReadyH.nil
    case done =>
      rintro D ys V hD hys ⟨⟨hP, hA, hC⟩, hB⟩ hK
      have HV : Hid (valN ys = mem sN) := Lib.hid hys
      rw [HV.out] at hA hC
      have cA := hA.cell
      have cC := hC.cell
      have b1 := lo_bd n hd (mem sN)
      have b2 := hi_bd n hd (mem sN)
      have b3 := lo_hi n hd (mem sN)
      obtain ⟨lp, hlp⟩ : ∃ lp, Hid (lo n hd (mem sN) = lp) := ⟨_, Lib.hid rfl⟩
      obtain ⟨hp, hhp⟩ : ∃ hp, Hid (hi n hd (mem sN) = hp) := ⟨_, Lib.hid rfl⟩
      rw [hlp.out] at cA b1 b3
      rw [hhp.out] at cC b2 b3
      have hwr : IntKind.i64.wrap (hp - lp) = hp - lp := by rw [IntKind.wrap_i64]; omega
      gi_wp2
      refine ⟨by simp, .inl ⟨_, _, rfl, run_takeDeferred hK, ?_⟩⟩
      exact ⟨_, results_tmp rfl _ _ _, by (have e : hi n hd (mem sN) - lo n hd (mem sN) = hp - lp := by rw [hlp.out, hhp.out]); (show Ending.returned (.int .i64 (hp - lp)) = .returned (.int .i64 (hi n hd (mem sN) - lo n hd (mem sN)))); rw [e], hB.trans (belowK_b (w := w) (Nat.le_refl _) V D _ _ (by omega) hK rfl rfl)⟩
    case stop =>
      rintro D c pre W _ _ h _
      exact h.elim
  refine wpIn_wide.2 ?_
  have hne0 := World.new_ne W0 ⟨w.heap.size, 0, none⟩ cP0
  have hne1 := World.new_ne W0 ⟨b, 1, none⟩ cS0
  have hne2 := World.new_ne W0 ⟨b, 2 + hd, none⟩ cD0
  have CL0 := Lib.hid (CL.out W0.drew HTB.out)
  have CL1 := Lib.hid (fun o => CL.out (W0.alloc o).drew (HTB.out.below ((Below.refl W0.heap.size W0).alloc (Nat.le_refl _) o).drew))
  clear hKK HTd HH bP
  go_region_held3 (fun W => W.cell? ⟨w.heap.size, 0, none⟩ = some (.pointer (some ⟨b, 0, none⟩)) ∧ W.cell? ⟨b, 1, none⟩ = some (.int .u64 (sN : Int)) ∧ W.cell? ⟨b, 2 + hd, none⟩ = some (.int .i64 (n.t hd))) (go_keep) (first
    | (go_at_call 26; (first | refine (CL0.out).mono ?_ | refine (CL1.out _).mono ?_); rintro e w' ⟨rfl, rfl⟩))
  all_goals exact CONT.out
theorem dgap_any (b : Nat) (n : Nt) (hS : n.set < 18446744073709551616) (w : World) (h : NC w b n) (hT : Tabs w) :
    Calls Tryd.prog 20 #[.pointer (some ⟨b, 0, none⟩)] w fun e w' => e = .returned (.int .i64 (gapV n)) ∧ Below w.heap.size w w' := callsIn_wide.1 (gap_in 3 (Nat.le_refl _) b n hS w h hT)
end Go.Proofs.YtmkdemdeejhonaaDoor.Drf
