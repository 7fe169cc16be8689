/- The chapter's example (layer 11); a probe and its echo. -/
import Derived.Test.YtocfamocemmihaaPulD
import Derived.Test.YtocfamocemmihaaPulH
namespace Go.Proofs.Ytocfamocemmihaa.Pul
open Go.ChangeShapes Go.WideShapes Go.ChangeAt Go.RowKit Go.Deep
open Go.Proofs.Ytocfamocemmihaa.Byt Go.Proofs.Ytocfamocemmihaa.Key Go.Proofs.Ytocfamocemmihaa.Buf Go.Proofs.Ytocfamocemmihaa.Hed Go.Proofs.Ytocfamocemmihaa.Dat Go.Proofs.Ytocfamocemmihaa.BufM
set_option linter.unusedVariables false
set_option linter.unusedSimpArgs false
theorem probe_good (x : Int) : pulG (probeP x) = true := by
  rw [pulG_probe _ rfl, show probeP (probeP x).stamp = probeP x from rfl, eqP_self, (gd_iff1 (probeP x) (.inl rfl)).2 ⟨rfl, rfl⟩]
  rfl
theorem echo_good (x y : Int) : pulG (echoP x y) = true := by
  rw [pulG_echo _ rfl, show echoP (echoP x y).stamp (echoP x y).value = echoP x y from rfl, eqP_self, (gd_iff1 (echoP x y) (.inr rfl)).2 ⟨rfl, rfl⟩]
  rfl
theorem probe_has (x : Int) : echoB (probeP x) = true := by
  unfold echoB
  rw [probe_good]
  rfl
theorem probe_echo (x y : Int) : echoV (probeP x) y = echoP x y := by
  unfold echoV
  rw [if_pos (probe_has x)]
  rfl
theorem echo_none (x y : Int) : echoB (echoP x y) = false := rfl
/-- An echo of a probe. -/
theorem echo_probe (x y : Int) (w : World) :
    Calls Try.prog 8 #[pval (probeP x), .int .i64 y] w fun e w' => e = .returned (.tuple #[pval (echoP x y), .bool true]) ∧ Below w.heap.size w w' := by
  have h := echo_any (probeP x) y w (.inl rfl)
  rwa [probe_echo, probe_has] at h
/-- An echo of an echo. -/
theorem echo_echo (x y z : Int) (w : World) :
    Calls Try.prog 8 #[pval (echoP x y), .int .i64 z] w fun e w' => e = .returned (.tuple #[pval zero, .bool false]) ∧ Below w.heap.size w w' := by
  have h := echo_any (echoP x y) z w (.inl rfl)
  rwa [show echoV (echoP x y) z = zero from rfl, echo_none] at h
set_option maxRecDepth 100000 in
set_option maxHeartbeats 2000000 in
theorem pworks_any (w : World) :
    Calls Try.prog 16 #[] w fun e w' => e = .returned (.bool true) ∧ Below w.heap.size w w' := by
  have CP := Lib.hid (fun W => probe_any (-1) W)
  have CE := Lib.hid (fun W => echo_probe (-1) 5 W)
  have CG : Hid (∀ W, Calls Try.prog 17 #[pval (probeP (-1))] W fun e w' => e = .returned (.bool true) ∧ Below W.heap.size W w') := Lib.hid (fun W => by
    have h := pgood_any (probeP (-1)) W (.inl rfl)
    rwa [probe_good] at h)
  have CH : Hid (∀ W, Calls Try.prog 17 #[pval (echoP (-1) 5)] W fun e w' => e = .returned (.bool true) ∧ Below W.heap.size W w') := Lib.hid (fun W => by
    have h := pgood_any (echoP (-1) 5) W (.inl rfl)
    rwa [echo_good] at h)
  unfold probeP pval Pk.cells at CP CE CG
  unfold echoP pval Pk.cells at CH
  unfold echoP at CE
  simp only [List.length_nil] at CP CE CG CH
  have HZ : Hid (∀ (W : World) (b : Nat), Blk W b 27 (Pk.cells (probeP (-1))) → _) := Lib.hid (fun W b h => blk_cells h)
  have HY : Hid (∀ (W : World) (b : Nat), Blk W b 27 (Pk.cells (echoP (-1) 5)) → _) := Lib.hid (fun W b h => blk_cells h)
  unfold probeP Pk.cells at HZ
  unfold echoP Pk.cells at HY
  simp only [List.length_nil] at HZ HY
  go_enter Try.func16, Try.ntmps16
  go_wp2_with fail
  refine (CP.out _).mono ?_; rintro e w1 ⟨rfl, hB1⟩
  have HB1 := Lib.hid hB1
  clear hB1 CP
  go_upto_region 2 with fail
  obtain ⟨W2, hW2⟩ : ∃ W2, Hid (W2 = w1.alloc (.cells #[.int .i64 1, .int .i64 0, .int .i64 0, .int .u32 0, .int .i64 0, .int .i64 0, .int .i64 0, .int .i64 0, .int .i64 0, .int .i64 (-1), .int .i64 0, .slice none 0 0] 27)) := ⟨_, Lib.hid rfl⟩
  rw [← hW2.out]
  have hX := one_box w1 W2 _ _ hW2.out
  have HB2 := Lib.hid (HB1.out.trans (hX.1.mono HB1.out.size))
  have HP2 := Lib.hid hX.2
  clear hX hW2 HB1
  obtain ⟨c0, c1, c2, c3, c4, c5, c6, c7, c8, c9, c10, c11⟩ := HZ.out _ _ HP2.out
  go_wp2_with fail
  refine (CE.out _).mono ?_; rintro e w3 ⟨rfl, hB3⟩
  have HB3 := Lib.hid (HB2.out.trans (hB3.mono HB2.out.size))
  have HP3 := Lib.hid (HP2.out.below hB3)
  clear hB3 CE HB2 HP2 c0 c1 c2 c3 c4 c5 c6 c7 c8 c9 c10 c11
  go_upto_region 3 with fail
  obtain ⟨W4, hW4⟩ : ∃ W4, Hid (W4 = w3.alloc (.cells #[.int .i64 2, .int .i64 0, .int .i64 0, .int .u32 0, .int .i64 0, .int .i64 0, .int .i64 0, .int .i64 0, .int .i64 0, .int .i64 (-1), .int .i64 5, .slice none 0 0] 27)) := ⟨_, Lib.hid rfl⟩
  rw [← hW4.out]
  have hX := one_box w3 W4 _ _ hW4.out
  have HB4 := Lib.hid (HB3.out.trans (hX.1.mono HB3.out.size))
  have HP4 := Lib.hid (HP3.out.below hX.1)
  have HQ4 := Lib.hid hX.2
  clear hX hW4 HB3 HP3
  obtain ⟨c0, c1, c2, c3, c4, c5, c6, c7, c8, c9, c10, c11⟩ := HZ.out _ _ HP4.out
  go_wp2_with fail
  refine (CG.out _).mono ?_; rintro e w5 ⟨rfl, hB5⟩
  have HB5 := Lib.hid (HB4.out.trans (hB5.mono HB4.out.size))
  have HQ5 := Lib.hid (HQ4.out.below hB5)
  clear hB5 CG HB4 HP4 HQ4 c0 c1 c2 c3 c4 c5 c6 c7 c8 c9 c10 c11
  obtain ⟨c0, c1, c2, c3, c4, c5, c6, c7, c8, c9, c10, c11⟩ := HY.out _ _ HQ5.out
  go_wp2_with fail
  refine (CH.out _).mono ?_; rintro e w6 ⟨rfl, hB6⟩
  have HB6 := Lib.hid (HB5.out.trans (hB6.mono HB5.out.size))
  clear hB6
  go_wp2_with fail
  go_ret
  exact ⟨rfl, HB6.out⟩
end Go.Proofs.Ytocfamocemmihaa.Pul
