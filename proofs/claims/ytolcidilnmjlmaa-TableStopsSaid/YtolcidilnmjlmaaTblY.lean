/- Contracts of package table (layer 7): a table that is nil. -/
import Derived.Test.YtolcidilnmjlmaaTblP
namespace Go.Proofs.Ytolcidilnmjlmaa.TblL
open Go.ChangeShapes Go.WideShapes Go.ChangeAt Go.RowKit Go.Sort Go.Shelf
open Go.Proofs.Ytolcidilnmjlmaa.Key Go.Proofs.Ytolcidilnmjlmaa.Rw Go.Proofs.Ytolcidilnmjlmaa.Tbl
set_option linter.unusedVariables false
set_option linter.unusedSimpArgs false
theorem nlen_any (w : World) : Calls Try.prog 21 #[.pointer none] w fun e w' => e = .returned (.int .i64 0) ∧ w = w' := by
  go_enter Try.func21, Try.ntmps21
  go_wp2_with fail
  go_ret
  exact ⟨rfl, rfl⟩
theorem nroom_any (w : World) : Calls Try.prog 22 #[.pointer none] w fun e w' => e = .returned (.int .i64 0) ∧ w = w' := by
  go_enter Try.func22, Try.ntmps22
  go_wp2_with fail
  go_ret
  exact ⟨rfl, rfl⟩
theorem nclear_any (w : World) : Calls Try.prog 17 #[.pointer none] w fun e w' => e = .returned (.tuple #[]) ∧ w = w' := by
  go_enter Try.func17, Try.ntmps17
  go_wp2_with fail
  refine bodyPost_ret (results_none rfl _ _ _) rfl ?_
  exact ⟨rfl, rfl⟩
theorem nkeys_any (w : World) : Calls Try.prog 38 #[.pointer none] w fun e w' => e = .returned (.slice none 0 0) ∧ w = w' := by
  go_enter Try.func38, Try.ntmps38
  go_wp2_with fail
  go_ret
  exact ⟨rfl, rfl⟩
theorem nget_any (k : Ky) (w : World) : Calls Try.prog 18 #[.pointer none, kval k] w fun e w' => e = .returned (.tuple #[.int .i64 0, .bool false]) ∧ Gr w w' := by
  have HG : Hid (∀ o, Gr w (w.alloc o)) := Lib.hid (fun o => (Gr.refl w).alloc o)
  obtain ⟨p, q, s⟩ := k
  unfold kval
  go_enter Try.func18, Try.ntmps18
  go_wp2_with fail
  go_ret2
  exact ⟨rfl, HG.out _⟩
theorem nhas_any (k : Ky) (w : World) : Calls Try.prog 33 #[.pointer none, kval k] w fun e w' => e = .returned (.bool false) ∧ Gr w w' := by
  have CG : Hid (∀ W, Gr w W → Calls Try.prog 18 #[.pointer none, kval k] W fun e w' => e = .returned (.tuple #[.int .i64 0, .bool false]) ∧ Gr w w') := Lib.hid (fun W hW => (nget_any k W).mono fun e w' h => ⟨h.1, hW.trans h.2⟩)
  have HG0 := Lib.hid (fun o => (Gr.refl w).alloc o)
  obtain ⟨p, q, s⟩ := k
  unfold kval at *
  go_enter Try.func33, Try.ntmps33
  go_wp2_with fail
  refine (CG.out _ (HG0.out _)).mono ?_; rintro e w7 ⟨rfl, hG7⟩
  have HG7 := Lib.hid hG7
  clear hG7
  go_wp2_with fail
  go_ret
  exact ⟨rfl, HG7.out⟩
theorem ndel_any (k : Ky) (w : World) : Calls Try.prog 20 #[.pointer none, kval k] w fun e w' => e = .returned (.bool false) ∧ Gr w w' := by
  have CG : Hid (∀ W, Gr w W → Calls Try.prog 33 #[.pointer none, kval k] W fun e w' => e = .returned (.bool false) ∧ Gr w w') := Lib.hid (fun W hW => (nhas_any k W).mono fun e w' h => ⟨h.1, hW.trans h.2⟩)
  have HG0 := Lib.hid (fun o => (Gr.refl w).alloc o)
  obtain ⟨p, q, s⟩ := k
  unfold kval at *
  go_enter Try.func20, Try.ntmps20
  go_wp2_with fail
  refine (CG.out _ (HG0.out _)).mono ?_; rintro e w7 ⟨rfl, hG7⟩
  have HG7 := Lib.hid hG7
  clear hG7
  go_wp2_with fail
  go_ret
  exact ⟨rfl, HG7.out⟩
theorem nput_any (k : Ky) (v : Int) (w : World) : Calls Try.prog 12 #[.pointer none, kval k, .int .i64 v] w fun e w' => e = .returned (.int .i64 1) ∧ Gr w w' := by
  have HG0 := Lib.hid (fun o => (Gr.refl w).alloc o)
  obtain ⟨p, q, s⟩ := k
  unfold kval at *
  go_enter Try.func12, Try.ntmps12
  go_wp2_with fail
  go_ret
  exact ⟨rfl, HG0.out _⟩
theorem nmin_any (w : World) : Calls Try.prog 19 #[.pointer none] w fun e w' => e = .returned (.tuple #[kval (0, 0, 0), .int .i64 0, .bool false]) ∧ Below w.heap.size w w' := by
  have CL := Lib.hid (fun W => nlen_any W)
  obtain ⟨w0, hw0⟩ : ∃ w0, Hid (w0 = w.alloc (.cells #[.int .i64 0, .int .i64 0, .int .u32 0] 34)) := ⟨_, Lib.hid rfl⟩
  have hB0 : Below w.heap.size w w0 := by rw [hw0.out]; exact box_below _ _
  have bk : Blk w0 w.heap.size 34 #[.int .i64 0, .int .i64 0, .int .u32 0] := by rw [hw0.out]; exact Blk.new _ _ _
  obtain ⟨z0, z1, z2⟩ : w0.cell? ⟨w.heap.size, 0, none⟩ = some (.int .i64 0) ∧ w0.cell? ⟨w.heap.size, 1, none⟩ = some (.int .i64 0) ∧ w0.cell? ⟨w.heap.size, 2, none⟩ = some (.int .u32 0) := ⟨bk.cell 0, bk.cell 1, bk.cell 2⟩
  have y0 := bk.free 0
  have y1 := bk.free 1
  have y2 := bk.free 2
  have HB0 := Lib.hid hB0
  clear bk hB0
  go_enter Try.func19, Try.ntmps19
  go_upto_region 1 with fail
  rw [← hw0.out]
  go_wp2_with fail
  refine (CL.out _).mono ?_; rintro e w1 ⟨rfl, rfl⟩
  go_wp2_with fail
  obtain ⟨r0, r1, r2⟩ := setC3 (u0 := .int .i64 0) (u1 := .int .i64 0) (u2 := .int .u32 0) z0 z1 z2
  refine bodyPost_ret (v := .tuple #[kval (0, 0, 0), .int .i64 0, .bool false]) (by simp [results, Try.results19, go_sem, r0, r1, r2]; rfl) rfl ?_
  exact ⟨rfl, ((HB0.out.setCell (Nat.le_refl _) _).setCell (Nat.le_refl _) _).setCell (Nat.le_refl _) _⟩
theorem npop_any (w : World) : Calls Try.prog 14 #[.pointer none] w fun e w' => e = .returned (.tuple #[kval (0, 0, 0), .int .i64 0, .bool false]) ∧ Below w.heap.size w w' := by
  have CM := Lib.hid (fun W => nmin_any W)
  obtain ⟨w0, hw0⟩ : ∃ w0, Hid (w0 = w.alloc (.cells #[.int .i64 0, .int .i64 0, .int .u32 0] 34)) := ⟨_, Lib.hid rfl⟩
  have hB0 : Below w.heap.size w w0 := by rw [hw0.out]; exact box_below _ _
  have bk : Blk w0 w.heap.size 34 #[.int .i64 0, .int .i64 0, .int .u32 0] := by rw [hw0.out]; exact Blk.new _ _ _
  have HK : Hid (∀ w1, Below w0.heap.size w0 w1 → ((w1.alloc (.cells #[.int .i64 0, .int .i64 0, .int .u32 0] 34)).cell? ⟨w1.heap.size, 0, none⟩ = some (.int .i64 0) ∧ (w1.alloc (.cells #[.int .i64 0, .int .i64 0, .int .u32 0] 34)).cell? ⟨w1.heap.size, 1, none⟩ = some (.int .i64 0) ∧ (w1.alloc (.cells #[.int .i64 0, .int .i64 0, .int .u32 0] 34)).cell? ⟨w1.heap.size, 2, none⟩ = some (.int .u32 0)) ∧
      Below w.heap.size w (w1.alloc (.cells #[.int .i64 0, .int .i64 0, .int .u32 0] 34)) ∧ Blk (w1.alloc (.cells #[.int .i64 0, .int .i64 0, .int .u32 0] 34)) w.heap.size 34 #[.int .i64 0, .int .i64 0, .int .u32 0]) := Lib.hid (fun w1 hB => by
    have b := Blk.new w1 34 #[.int .i64 0, .int .i64 0, .int .u32 0]
    have hBB := hB0.trans (hB.mono hB0.size)
    exact ⟨⟨b.cell 0, b.cell 1, b.cell 2⟩, hBB.alloc hBB.size _, (bk.below hB).alloc _⟩)
  clear bk hB0
  unfold kval at *
  go_enter Try.func14, Try.ntmps14
  go_upto_region 1 with fail
  rw [← hw0.out]
  go_wp2_with fail
  refine (CM.out _).mono ?_; rintro e w1 ⟨rfl, hB1⟩
  obtain ⟨⟨c0, c1, c2⟩, hBB, bz⟩ := HK.out w1 hB1
  have z0 : (w1.alloc (.cells #[.int .i64 0, .int .i64 0, .int .u32 0] 34)).cell? ⟨w.heap.size, 0, none⟩ = some (.int .i64 0) := bz.cell 0
  have z1 : (w1.alloc (.cells #[.int .i64 0, .int .i64 0, .int .u32 0] 34)).cell? ⟨w.heap.size, 1, none⟩ = some (.int .i64 0) := bz.cell 1
  have z2 : (w1.alloc (.cells #[.int .i64 0, .int .i64 0, .int .u32 0] 34)).cell? ⟨w.heap.size, 2, none⟩ = some (.int .u32 0) := bz.cell 2
  have y0 := bz.free 0
  have y1 := bz.free 1
  have y2 := bz.free 2
  have HBB := Lib.hid hBB
  clear bz hBB hB1 HK
  go_wp2_with fail
  obtain ⟨r0, r1, r2⟩ := setC3 (u0 := .int .i64 0) (u1 := .int .i64 0) (u2 := .int .u32 0) z0 z1 z2
  refine bodyPost_ret (v := .tuple #[kval (0, 0, 0), .int .i64 0, .bool false]) (by simp [results, Try.results14, go_sem, r0, r1, r2]; rfl) rfl ?_
  exact ⟨rfl, ((HBB.out.setCell (p := ⟨w.heap.size, 0, none⟩) (Nat.le_refl _) _).setCell (p := ⟨w.heap.size, 1, none⟩) (Nat.le_refl _) _).setCell (p := ⟨w.heap.size, 2, none⟩) (Nat.le_refl _) _⟩
attribute [local go_sem] Oper.semAt_some
set_option maxRecDepth 100000 in
set_option maxHeartbeats 2000000 in
/-- Going over nothing. -/
theorem nall1_iter (n : Nat) (hn : 1 ≤ n) (Bn : Nat) (encs : Nat → Array Value) (I : Nat → World → Prop) (W : World) (hR : ∀ W1, I 0 W1 → W1.cell? ⟨Bn, 0, none⟩ = some (.pointer none)) :
    Rng.Iter Fence.wide n Try.prog 37 #[.pointer (some ⟨Bn, 0, none⟩)] 0 encs I W := by
  intro l J Jx hJI hJB hY hJ0
  have CK := Lib.hid (fun W => nkeys_any W)
  have c0 := hR W (hJI 0 W hJ0)
  have HJ0 := Lib.hid hJ0
  clear hJI hJB hY hJ0 hR
  refine callsIn_of_wp Try.func37 rfl trivial ?_ rfl
  simp only [Try.ntmps37, List.size_toArray, List.length_cons, List.length_nil, Nat.reduceAdd, Nat.reduceSub, Array.replicate_succ, Array.replicate_zero, List.push_toArray, List.append_toArray, List.nil_append, List.cons_append]
  gi_wp2_with (refine ⟨trivial, ?_⟩; gi_at_call 38; refine (callsIn_wide.2 (CK.out _)).mono ?_; rintro e w1 ⟨rfl, rfl⟩)
  gi_loopw [10] (fun x wr => x = .int .i64 0 ∧ wr = W) (fun x _ => 0)
  case atStart => exact ⟨rfl, rfl⟩
  case round =>
    obtain ⟨rfl, rfl⟩ := hrel
    gi_wp2
    go_end0
    exact ⟨⟨_, rfl⟩, .inl HJ0.out⟩
set_option maxRecDepth 100000 in
set_option maxHeartbeats 2000000 in
theorem ndrop_in (n : Nat) (hn : 3 ≤ n) (nf : Nat) (nb : Array Value) (w : World) :
    CallsIn Fence.wide n Try.prog 23 #[.pointer none, .func (.func nf) #[] nb] w fun e w' => e = .returned (.int .i64 0) ∧ Below w.heap.size w w' := by
  have h1 : 1 ≤ n := by omega
  have CA := Lib.hid (fun W => all_any none W)
  refine callsIn_of_wp_marks Try.func23 rfl trivial ?_ rfl
  simp only [Try.ntmps23, List.size_toArray, List.length_cons, List.length_nil, Nat.reduceAdd, Nat.reduceSub, Array.replicate_succ, Array.replicate_zero, List.push_toArray, List.append_toArray, List.nil_append, List.cons_append]
  gi_wp2_with (refine ⟨trivial, ?_⟩; gi_at_call 16; refine (callsIn_wide.2 (CA.out _)).mono ?_; rintro e w' ⟨rfl, rfl⟩)
  obtain ⟨wL, hwL⟩ : ∃ wL, Hid (wL = (((w.alloc (.cells #[.pointer none] 23)).alloc (.cells #[.func (.func nf) #[] nb] 57)).alloc (.cells #[.int .i64 0] 3)).alloc (.cells #[.pointer none] 23)) := ⟨_, Lib.hid rfl⟩
  rw [← hwL.out]
  have hsz : wL.heap.size = w.heap.size + 4 := by rw [hwL.out]; simp [World.size_alloc]
  have b5 : Blk wL (w.heap.size + 1 + 1) 3 #[.int .i64 0] := by
    rw [hwL.out]
    have := (Blk.new ((w.alloc (.cells #[.pointer none] 23)).alloc (.cells #[.func (.func nf) #[] nb] 57)) 3 #[.int .i64 0]).alloc (.cells #[.pointer none] 23)
    rwa [World.size_alloc, World.size_alloc] at this
  have b6 : Blk wL (w.heap.size + 1 + 1 + 1) 23 #[.pointer none] := by
    rw [hwL.out]
    have := Blk.new (((w.alloc (.cells #[.pointer none] 23)).alloc (.cells #[.func (.func nf) #[] nb] 57)).alloc (.cells #[.int .i64 0] 3)) 23 #[.pointer none]
    rwa [World.size_alloc, World.size_alloc, World.size_alloc] at this
  have hB : Below w.heap.size w wL := by rw [hwL.out]; exact ((((Below.refl _ _).alloc (Nat.le_refl _) _).alloc (by simp) _).alloc (by simp; omega) _).alloc (by simp; omega) _
  refine Rng.wpIn_range (F := Fence.wide) rfl h1 (gf := 37) (lb := #[.pointer (some ⟨w.heap.size + 1 + 1 + 1, 0, none⟩)]) rfl trivial (enters_of Try.func37 (by kernel_rfl) rfl)
    (N := 0) (encs := encR []) (I := fun _ W => Below wL.heap.size wL W) (Ix := fun _ _ => False) (fun _ => rfl)
    (fun i W W' hi hB => hi.trans hB) (fun _ _ _ hi _ => hi) (Below.refl _ _)
    (fun W hW hi => nall1_iter (n - 1) (by omega) (w.heap.size + 1 + 1 + 1) _ _ W (fun W1 h => (b6.below h).cell 0))
    (fun i W => { tmps := #[.pointer none, .func (.func nf) #[] nb, .pointer (some ⟨w.heap.size, 0, none⟩), .pointer (some ⟨w.heap.size + 1, 0, none⟩), .int .i64 0, .pointer (some ⟨w.heap.size + 1 + 1, 0, none⟩), .pointer (some ⟨W.heap.size, 0, none⟩), .int .i64 (rowAt [] i).2,
      .pointer none, .func (.func 37) #[] #[.pointer (some ⟨w.heap.size + 1 + 1 + 1, 0, none⟩)], kval (rowAt [] i).1, .int .i64 (rowAt [] i).2, undef, undef, undef, undef, undef, undef, undef, undef, undef, undef, undef, undef], defers := [] })
    (fun i W => W.alloc (.cells #[.int .i64 (rowAt [] i).1.1, .int .i64 (rowAt [] i).1.2.1, .int .u32 (rowAt [] i).1.2.2] 34)) (fun i W => box_below _ _) ?assign ?body ?done ?stop
  case assign =>
    intro l i W K hK
    unfold encR
    generalize rowAt [] i = r at *
    obtain ⟨⟨p, q, s⟩, v⟩ := r
    unfold kval at *
    simp only at hK
    gi_wp2
    exact hK
  case body =>
    intro l i W W2 hiN
    exact absurd hiN (Nat.not_lt_zero _)
  case done =>
    intro W hW hi hK
    have c5 : W.cell? ⟨w.heap.size + 1 + 1, 0, none⟩ = some (.int .i64 0) := (b5.below hi).cell 0
    have HP : Hid (Below w.heap.size w (W.putObj wL.heap.size (.deferred none))) := Lib.hid (hB.trans ((hi.mono (by omega)).trans (Rng.below_put _ _ (by omega))))
    clear b5 b6 hB hi CA
    gi_wp2
    refine ⟨by simp, .inl ⟨_, _, rfl, run_takeDeferred hK, ?_⟩⟩
    exact ⟨_, results_tmp rfl _ _ _, rfl, HP.out⟩
  case stop =>
    intro c W _ hi _
    exact hi.elim
theorem ndrop_any (nf : Nat) (nb : Array Value) (w : World) :
    Calls Try.prog 23 #[.pointer none, .func (.func nf) #[] nb] w fun e w' => e = .returned (.int .i64 0) ∧ Below w.heap.size w w' :=
  callsIn_wide.1 (ndrop_in 3 (Nat.le_refl _) nf nb w)
end Go.Proofs.Ytolcidilnmjlmaa.TblL
