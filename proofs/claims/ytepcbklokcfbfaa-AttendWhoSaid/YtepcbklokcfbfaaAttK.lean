/- The chapter's example (layer 12). -/
import Derived.Test.YtepcbklokcfbfaaAttN
import Derived.Test.YtepcbklokcfbfaaAttD
import Derived.Test.YtepcbklokcfbfaaAttW
namespace Go.Proofs.Ytepcbklokcfbfaa.Att
open Go.ChangeShapes Go.WideShapes Go.ChangeAt Go.RowKit Go.Deep
open Go.Proofs.Ytepcbklokcfbfaa.Byt Go.Proofs.Ytepcbklokcfbfaa.Key Go.Proofs.Ytepcbklokcfbfaa.Buf Go.Proofs.Ytepcbklokcfbfaa.Hed Go.Proofs.Ytepcbklokcfbfaa.Dat Go.Proofs.Ytepcbklokcfbfaa.BufM Go.Proofs.Ytepcbklokcfbfaa.Pkt
set_option linter.unusedVariables false
set_option linter.unusedSimpArgs false
/-- The example's attendance. -/
def exA : Pk := attP (30, 2, 4) 1 3
theorem exA_good : attG exA = true := by
  refine (attG_iff _).2 ⟨rfl, ?_, ⟨by decide, by decide⟩, rfl, rfl, rfl, rfl, rfl, rfl⟩
  rw [gd_flood (flo_yes (by decide))]
  rfl
theorem exA_who : whoN 3 [exA] = 4 := by
  have h : tst 3 exA = true := by unfold tst; rw [exA_good]; rfl
  have := who_yes (l := []) h
  rw [List.nil_append] at this
  rw [this]
  rfl
theorem exA_put : wNum (9 : Int).toNat (0, []) (un exA.no) = (0, [3]) := by
  have : sev (un 3) = [3] := by rw [show un 3 = 3 from rfl, sev_small (by omega)]; rfl
  unfold wNum
  rw [show exA.no = 3 from rfl, this, wByte_fits _ rfl (by decide)]
  rfl
/-- Who of one alone, in a slice laid for it. -/
theorem who1_any (no : Int) (p : Pk) (W : World) (hb : p.body = []) :
    Calls Try.prog 24 #[.int .i64 no, .slice (some ⟨W.heap.size, 0, none⟩) 1 1] (W.alloc (.cells p.cells 27)) fun e w' => e = .returned (.int .u64 (whoN no [p])) ∧ Below W.heap.size W w' := by
  obtain ⟨W1, hW1⟩ : ∃ W1, W1 = W.alloc (.cells p.cells 27) := ⟨_, rfl⟩
  have hX := one_box W W1 _ _ hW1
  have hat : Rw.At encP W1 W.heap.size 0 p := by
    rw [hW1]
    exact Rw.At.box (enc := encP) (e := 27) W p p.cells rfl
  have hsz : W.heap.size < W1.heap.size := by rw [hW1, World.size_alloc]; omega
  rw [← hW1]
  refine (awho_any no (some ⟨W.heap.size, 0, none⟩) 1 1 [p] W1 rfl (by omega) (.inr ⟨_, 0, rfl, hsz, fun i hi => ?_⟩) (fun t ht => ?_)).mono fun e w' h => ⟨h.1, hX.1.trans (h.2.mono hX.1.size)⟩
  · have : i = 0 := by simp at hi; omega
    subst this
    exact hat
  · rw [List.mem_singleton] at ht
    subst ht
    exact .inl hb
set_option maxRecDepth 100000 in
set_option maxHeartbeats 2000000 in
theorem aworks_any (w : World) :
    Calls Try.prog 13 #[] w fun e w' => e = .returned (.bool true) ∧ Below w.heap.size w w' := by
  have CN := Lib.hid (fun W => anew_any (30, 2, 4) 3 W)
  have CB := Lib.hid (fun W => Buf.new_any 9 (by omega) W)
  have CP : Hid (∀ W g, WR W g g (9 : Int).toNat (0, []) none → Calls Try.prog 15 #[.pointer (some ⟨g, 0, none⟩), pval exA] W (WPost W g g (9 : Int).toNat none (0, [3]))) := Lib.hid (fun W g h => by
    have := aput_any exA g g (9 : Int).toNat (0, []) none W h (by simp)
    rwa [exA_put] at this)
  have CD : Hid (∀ W g row, WR W g g (9 : Int).toNat (0, [3]) row → Calls Try.prog 16 #[.pointer (some ⟨g, 0, none⟩)] W (fun e w2 => ∃ ad cap, e = .returned (.tuple #[.slice ad 1 cap, .int .i64 0]) ∧ Hid (OwnB w2 W.heap.size (.slice ad 1 cap) [3]) ∧ Hid (Below W.heap.size W w2))) := Lib.hid (fun W g row h => (done_any g g (9 : Int).toNat _ row W h (by simp)).mono fun e w2 hx => by
    obtain ⟨v, rfl, ho, hB⟩ := hx
    simp only [if_true] at ho
    obtain ⟨ad, cap, rfl, _⟩ := Own.shape ho
    exact ⟨ad, cap, rfl, Lib.hid ho, Lib.hid hB⟩)
  have CU : Hid (∀ W, Calls Try.prog 25 #[.int .i64 3, .int .i64 10] W fun e w' => e = .returned (.tuple #[.int .i64 30, .bool true]) ∧ W = w') := Lib.hid (fun W => adue_any 3 10 W (by omega) (by omega))
  have CG : Hid (∀ W, Calls Try.prog 11 #[pval exA] W fun e w' => e = .returned (.bool true) ∧ Below W.heap.size W w') := Lib.hid (fun W => by
    have h := agood_any exA W (.inl rfl)
    rwa [exA_good] at h)
  have CW : Hid (∀ W, Calls Try.prog 24 #[.int .i64 3, .slice (some ⟨W.heap.size, 0, none⟩) 1 1] (W.alloc (.cells exA.cells 27)) fun e w' => e = .returned (.int .u64 4) ∧ Below W.heap.size W w') := Lib.hid (fun W => by
    have h := who1_any 3 exA W rfl
    rwa [exA_who] at h)
  have HZ : Hid (∀ (W : World) (b : Nat), Blk W b 27 (Pk.cells exA) → _) := Lib.hid (fun W b h => blk_cells h)
  unfold kval pval attP Pk.cells at CN
  unfold exA attP pval Pk.cells at CP CG
  unfold exA attP Pk.cells at CW HZ
  simp only [List.length_nil] at CN CP CG CW HZ
  go_enter Try.func13, Try.ntmps13
  go_wp2_with fail
  refine (CN.out _).mono ?_; rintro e w1 ⟨rfl, hB1⟩
  have HB1 := Lib.hid hB1
  clear hB1 CN
  go_upto_region 2 with fail
  obtain ⟨W2, hW2⟩ : ∃ W2, Hid (W2 = w1.alloc (.cells #[.int .i64 5, .int .i64 30, .int .i64 2, .int .u32 4, .int .i64 1, .int .i64 3, .int .i64 0, .int .i64 0, .int .i64 0, .int .i64 0, .int .i64 0, .slice none 0 0] 27)) := ⟨_, Lib.hid rfl⟩
  rw [← hW2.out]
  have hX := one_box w1 W2 _ _ hW2.out
  have HB2 := Lib.hid (HB1.out.trans (hX.1.mono HB1.out.size))
  have HP2 := Lib.hid hX.2
  clear hX hW2 HB1
  go_wp2_with fail
  refine (CB.out _).mono ?_; rintro e w3 ⟨rfl, hr3, hB3, -⟩
  have HB3 := Lib.hid (HB2.out.trans (hB3.mono HB2.out.size))
  have HP3 := Lib.hid (HP2.out.below hB3)
  have CP3 := Lib.hid (CP.out w3 _ hr3)
  obtain ⟨c0, c1, c2, c3, c4, c5, c6, c7, c8, c9, c10, c11⟩ := HZ.out _ _ HP3.out
  have HG3 := Lib.hid (Nat.ne_of_lt HP2.out.lt)
  clear hB3 CB CP hr3 HP2
  go_wp2_with fail
  refine (CP3.out).mono ?_; rintro e w4 ⟨rfl, row4, hr4, hst4⟩
  have CD4 := Lib.hid (CD.out w4 _ _ hr4)
  have HB4 := Lib.hid (hst4.below.mono HB2.out.size)
  have HP4 := Lib.hid ((hst4.block _ HP3.out.lt HG3.out (by simp)).trans HP3.out)
  have HB4b := Lib.hid (HB3.out.trans HB4.out)
  clear hr4 CD c0 c1 c2 c3 c4 c5 c6 c7 c8 c9 c10 c11 CP3 hst4 HP3 HB3 HB4 HB2
  go_wp2_with fail
  refine (CD4.out).mono ?_; rintro e w5 ⟨ad, cap, rfl, HO5, HBx⟩
  have HB5 := Lib.hid (HB4b.out.trans (HBx.out.mono HB4b.out.size))
  have HP5 := Lib.hid (Blk.below HP4.out HBx.out)
  have hR : (convert 25 9 (.slice ad 1 cap)).run Try.prog w5 = .ok (.string ⟨#[3]⟩) w5 := HO5.out.str (Below.refl _ _)
  obtain ⟨c0, c1, c2, c3, c4, c5, c6, c7, c8, c9, c10, c11⟩ := HZ.out _ _ HP5.out
  clear HBx HP4 HB4b CD4
  go_wp2_with fail
  refine (CU.out _).mono ?_; rintro e w6 ⟨rfl, rfl⟩
  go_wp2_with fail
  refine (CG.out _).mono ?_; rintro e w7 ⟨rfl, hB7⟩
  have HB7 := Lib.hid (HB5.out.trans (hB7.mono HB5.out.size))
  have HP7 := Lib.hid (HP5.out.below hB7)
  clear hB7 HB5 HP5 c0 c1 c2 c3 c4 c5 c6 c7 c8 c9 c10 c11 hR HO5
  obtain ⟨c0, c1, c2, c3, c4, c5, c6, c7, c8, c9, c10, c11⟩ := HZ.out _ _ HP7.out
  go_wp2_with fail
  refine (CW.out _).mono ?_; rintro e w8 ⟨rfl, hB8⟩
  have HB8 := Lib.hid (HB7.out.trans (hB8.mono HB7.out.size))
  clear hB8
  go_wp2_with fail
  go_ret
  exact ⟨rfl, HB8.out⟩
end Go.Proofs.Ytepcbklokcfbfaa.Att
