/- TableNil, walked (layer 7). -/
import Derived.Test.YtolcidilnmjlmaaTblY
import Derived.Test.YtolcidilnmjlmaaTblW
namespace Go.Proofs.Ytolcidilnmjlmaa.TblL
open Go.ChangeShapes Go.WideShapes Go.ChangeAt Go.RowKit Go.Sort Go.Shelf
open Go.Proofs.Ytolcidilnmjlmaa.Key Go.Proofs.Ytolcidilnmjlmaa.Rw Go.Proofs.Ytolcidilnmjlmaa.Tbl
set_option linter.unusedVariables false
set_option linter.unusedSimpArgs false
attribute [local go_sem] Oper.semAt_some
theorem fn_eql (b : Nat) (W : World) : (binOp .eql 49 (.func (.func 37) #[] #[.pointer (some ⟨b, 0, none⟩)]) .nilFunc).run Try.prog W = .ok (.bool false) W := by
  kernel_rfl
theorem fn_neq (b : Nat) (W : World) : (binOp .neq 49 (.func (.func 37) #[] #[.pointer (some ⟨b, 0, none⟩)]) .nilFunc).run Try.prog W = .ok (.bool true) W := by
  kernel_rfl
set_option maxRecDepth 100000 in
set_option maxHeartbeats 2000000 in
theorem tableNil_any (k : Ky) (w : World) :
    Calls Try.prog 6 #[kval k] w fun e w' => e = .returned (.bool true) ∧ Below w.heap.size w w' := by
  suffices h : CallsIn Fence.wide 4 Try.prog 6 #[kval k] w fun e w' => e = .returned (.bool true) ∧ Below w.heap.size w w' from callsIn_wide.1 h
  have CA := Lib.hid (fun W => all_any none W)
  have CC := Lib.hid (fun W => nclear_any W)
  have CG := Lib.hid (fun W => nget_any k W)
  have CM := Lib.hid (fun W => nmin_any W)
  have CP := Lib.hid (fun W => npop_any W)
  have CU := Lib.hid (fun W => nput_any k 1 W)
  have CD := Lib.hid (fun W => ndel_any k W)
  have CL := Lib.hid (fun W => nlen_any W)
  have CR := Lib.hid (fun W => nroom_any W)
  have CX := Lib.hid (fun W => ndrop_any 24 #[] W)
  have CW := Lib.hid (fun W => TblN.works7_any W)
  have hne := fun b W => fn_neq b W
  obtain ⟨p, q, s⟩ := k
  unfold kval at *
  refine callsIn_of_wp_marks Try.func6 rfl trivial ?_ rfl
  simp only [Try.ntmps6, List.size_toArray, List.length_cons, List.length_nil, Nat.reduceAdd, Nat.reduceSub, Array.replicate_succ, Array.replicate_zero, List.push_toArray, List.append_toArray, List.nil_append, List.cons_append]
  gi_wp2_with (refine ⟨trivial, ?_⟩; gi_at_call 16; refine (callsIn_wide.2 (CA.out _)).mono ?_; rintro e w' ⟨rfl, rfl⟩)
  obtain ⟨wL, hwL⟩ : ∃ wL, Hid (wL = (((w.alloc (.cells #[.int .i64 p, .int .i64 q, .int .u32 s] 34)).alloc (.cells #[.bool false] 4)).alloc (.cells #[.pointer none] 23))) := ⟨_, Lib.hid rfl⟩
  rw [← hwL.out]
  have hsz : wL.heap.size = w.heap.size + 3 := by rw [hwL.out]; simp [World.size_alloc]
  have b1 : Blk wL w.heap.size 34 #[.int .i64 p, .int .i64 q, .int .u32 s] := by
    rw [hwL.out]; exact ((Blk.new w _ _).alloc _).alloc _
  have b2 : Blk wL (w.heap.size + 1) 4 #[.bool false] := by
    rw [hwL.out]
    have := (Blk.new (w.alloc (.cells #[.int .i64 p, .int .i64 q, .int .u32 s] 34)) 4 #[.bool false]).alloc (.cells #[.pointer none] 23)
    rwa [World.size_alloc] at this
  have b3 : Blk wL (w.heap.size + 1 + 1) 23 #[.pointer none] := by
    rw [hwL.out]
    have := Blk.new ((w.alloc (.cells #[.int .i64 p, .int .i64 q, .int .u32 s] 34)).alloc (.cells #[.bool false] 4)) 23 #[.pointer none]
    rwa [World.size_alloc, World.size_alloc] at this
  have hB : Below w.heap.size w wL := by rw [hwL.out]; exact (((Below.refl _ _).alloc (Nat.le_refl _) _).alloc (by simp) _).alloc (by simp; omega) _
  refine Rng.wpIn_range (F := Fence.wide) rfl (by decide) (gf := 37) (lb := #[.pointer (some ⟨w.heap.size + 1 + 1, 0, none⟩)]) rfl trivial (enters_of Try.func37 (by kernel_rfl) rfl)
    (N := 0) (encs := encR []) (I := fun _ W => Below wL.heap.size wL W) (Ix := fun _ _ => False) (fun _ => rfl)
    (fun i W W' hi hB => hi.trans hB) (fun _ _ _ hi _ => hi) (Below.refl _ _)
    (fun W hW hi => nall1_iter 3 (by decide) (w.heap.size + 1 + 1) _ _ W (fun W1 h => (b3.below h).cell 0))
    ?a1 (fun i W => W) (fun i W => Below.refl _ _) ?assign ?body ?done ?stop
  case assign =>
    intro l i W K hK
    refine wpIn_skip ?_
    exact hK
  case body =>
    intro l i W W2 hiN
    exact absurd hiN (Nat.not_lt_zero _)
  case done =>
    intro W hW hi hK
    have hBW : Below w.heap.size w W := hB.trans (hi.mono (by omega))
    have HC : Hid (∀ W', Below W.heap.size W W' → (W'.cell? ⟨w.heap.size, 0, none⟩ = some (.int .i64 p) ∧ W'.cell? ⟨w.heap.size, 1, none⟩ = some (.int .i64 q) ∧ W'.cell? ⟨w.heap.size, 2, none⟩ = some (.int .u32 s)) ∧ (W'.cell? ⟨w.heap.size + 1, 0, none⟩ = some (.bool false) ∧ W'.frozen? ⟨w.heap.size + 1, 0, none⟩ = false) ∧ Below w.heap.size w W' ∧ W'.heap[wL.heap.size]? = some (.deferred (some []))) := Lib.hid (fun W' hW' => by
      have c1 := (b1.below hi).below hW'
      have c2 := (b2.below hi).below hW'
      exact ⟨⟨c1.cell 0, c1.cell 1, c1.cell 2⟩, ⟨c2.cell 0, c2.free 0⟩, hBW.trans (hW'.mono hBW.size), (hW'.block _ hW).trans hK⟩)
    obtain ⟨⟨x0, x1, x2⟩, -⟩ := HC.out W (Below.refl _ _)
    clear b1 b2 b3 hB hi CA hBW hK hwL
    have HA : Hid (∀ w' v0 v1 v2, Below W.heap.size W w' → Below W.heap.size W (w'.alloc (.cells #[.int .i64 v0, .int .i64 v1, .int .u32 v2] 34))) := Lib.hid (fun w' _ _ _ h => h.alloc h.size _)
    gi_wp2_with (first
      | (refine ⟨trivial, ?_⟩; gi_at_call 17; refine (callsIn_wide.2 (CC.out _)).mono ?_; rintro e w2 ⟨rfl, rfl⟩)
      | (refine ⟨trivial, ?_⟩; gi_at_call 18; refine (callsIn_wide.2 (CG.out _)).mono ?_; rintro e w3 ⟨rfl, hG3⟩; have HB3 : Hid (Below W.heap.size W w3) := Lib.hid hG3.below)
      | (refine ⟨trivial, ?_⟩; gi_at_call 19; refine (callsIn_wide.2 (CM.out _)).mono ?_; rintro e w4 ⟨rfl, hG4⟩; have HB4 := Lib.hid (HA.out w4 0 0 0 (HB3.out.trans (hG4.mono HB3.out.size))))
      | (refine ⟨trivial, ?_⟩; gi_at_call 14; refine (callsIn_wide.2 (CP.out _)).mono ?_; rintro e w5 ⟨rfl, hG5⟩; have HB5 := Lib.hid (HA.out w5 0 0 0 (HB4.out.trans (hG5.mono HB4.out.size))); obtain ⟨⟨y0, y1, y2⟩, -⟩ := HC.out _ HB5.out)
      | (refine ⟨trivial, ?_⟩; gi_at_call 12; refine (callsIn_wide.2 (CU.out _)).mono ?_; rintro e w6 ⟨rfl, hG6⟩; have HB6 := Lib.hid (HB5.out.trans (hG6.below.mono HB5.out.size)); obtain ⟨⟨z0, z1, z2⟩, -⟩ := HC.out _ HB6.out)
      | (refine ⟨trivial, ?_⟩; gi_at_call 20; refine (callsIn_wide.2 (CD.out _)).mono ?_; rintro e w7 ⟨rfl, hG7⟩; have HB7 := Lib.hid (HB6.out.trans (hG7.below.mono HB6.out.size)))
      | (refine ⟨trivial, ?_⟩; gi_at_call 21; refine (callsIn_wide.2 (CL.out _)).mono ?_; rintro e w' ⟨rfl, rfl⟩)
      | (refine ⟨trivial, ?_⟩; gi_at_call 22; refine (callsIn_wide.2 (CR.out _)).mono ?_; rintro e w' ⟨rfl, rfl⟩)
      | (refine ⟨trivial, ?_⟩; gi_at_call 23; refine (callsIn_wide.2 (CX.out _)).mono ?_; rintro e w8 ⟨rfl, hG8⟩; have HB8 := Lib.hid (HB7.out.trans (hG8.mono HB7.out.size)))
      | (refine ⟨trivial, ?_⟩; gi_at_call 11; refine (callsIn_wide.2 (CW.out _)).mono ?_; rintro e w9 ⟨rfl, hG9⟩; have HB9 := Lib.hid (HB8.out.trans (hG9.mono HB8.out.size)); obtain ⟨-, ⟨t0, t1⟩, -⟩ := HC.out _ HB9.out))
    obtain ⟨-, -, hw9, hd9⟩ := HC.out _ HB9.out
    have hd : (w9.setCell ⟨w.heap.size + 1, 0, none⟩ (.bool true)).heap[wL.heap.size]? = some (.deferred (some [])) := by
      rw [Below.heap_setCell _ _ _ _ (by show wL.heap.size ≠ w.heap.size + 1; omega)]; exact hd9
    rw [hsz] at hd
    have hr : ((w9.setCell ⟨w.heap.size + 1, 0, none⟩ (.bool true)).putObj (w.heap.size + 3) (.deferred none)).cell? ⟨w.heap.size + 1, 0, none⟩ = some (.bool true) := by
      have h1 : (w9.setCell ⟨w.heap.size + 1, 0, none⟩ (.bool true)).cell? ⟨w.heap.size + 1, 0, none⟩ = some (.bool true) := by rw [World.cell?_setCell_same (h := t0)]
      rw [← h1]
      exact (Rng.below_put (m := w.heap.size + 3) _ _ (Nat.le_refl _)).cell (p := ⟨w.heap.size + 1, 0, none⟩) (by simp)
    refine ⟨by simp, .inl ⟨_, _, rfl, run_takeDeferred hd, ?_⟩⟩
    refine ⟨.bool true, by simp [results, Try.results6, go_sem, hr], rfl, (hw9.setCell (p := ⟨w.heap.size + 1, 0, none⟩) (by simp) _).trans (Rng.below_put _ _ (by simp [World.setCell]))⟩
  case stop =>
    intro c W _ hi _
    exact hi.elim
end Go.Proofs.Ytolcidilnmjlmaa.TblL
