/- The statements' helper same of layer trim (24); the chapter's example. -/
import Derived.Test.YtldlgonpkeekdaaTrmD
import Derived.Test.YtldlgonpkeekdaaTrmG
namespace Go.Proofs.Ytldlgonpkeekdaa.Trm
open Go.ChangeShapes Go.WideShapes Go.ChangeAt Go.RowKit
open I64s (In64 Sl OwnL ListPost app_one app_all)
set_option linter.unusedVariables false
/-- Two slices that read as the same list are the same. -/
theorem tsame_yes (ad1 ad2 : Option Addr) (cap1 cap2 : Nat) (zs : List Int) (w : World) (h1 : Sl w ad1 cap1 zs) (h2 : Sl w ad2 cap2 zs) (hm : zs.length ≤ 1000) :
    Calls Try.prog 9 #[.slice ad1 zs.length cap1, .slice ad2 zs.length cap2] w fun e w' => e = .returned (.bool true) ∧ Below w.heap.size w w' := by
  obtain ⟨n, hn⟩ : ∃ n, zs.length = n := ⟨_, rfl⟩
  have HA := Lib.hid (fun k (hk : k < n) => h1.at (k := k) (by omega))
  have HB := Lib.hid (fun k (hk : k < n) => h2.at (k := k) (by omega))
  rw [hn] at hm ⊢
  clear h1 h2 hn
  go_enter Try.func9, Try.ntmps9
  go_wp2_with fail
  go_loopw [13] (fun i wr => ∃ k : Nat, k ≤ n ∧ i = .int .i64 k ∧ Hid (Below w.heap.size w wr)) (fun i _ => n - (intOf i).toNat)
  case atStart => exact ⟨0, Nat.zero_le _, rfl, Lib.hid (Below.refl _ _)⟩
  case round =>
    obtain ⟨k, hk, rfl, HW⟩ := hrel
    by_cases hlt : k < n
    · obtain ⟨b, off, rfl, hc⟩ := HA.out k hlt
      obtain ⟨b', off', rfl, hc'⟩ := HB.out k hlt
      have c1 := hc wr HW.out
      have c2 := hc' wr HW.out
      clear hc hc' HA HB
      generalize zs.getD k 0 = z at *
      go_upto_region 6 with fail
      go_quiet (fail)
      go_wp2_with fail
      go_roundw
      case rel => exact ⟨k + 1, by omega, by go_num, Lib.hid (Own.below_drewN HW.out _)⟩
      case measure => simp [intOf]; omega
    · obtain rfl : k = n := by omega
      go_wp2_with fail
      go_ret
      exact ⟨rfl, HW.out⟩
/-- The example's readings. -/
def exL : List Int := [5, -100, 7, 6]
theorem ex_sl (w : World) : Sl (w.alloc (.cells #[.int .i64 5, .int .i64 (-100), .int .i64 7, .int .i64 6] 2)) (some ⟨w.heap.size, 0, none⟩) 4 exL := by
  have h : OwnL (w.alloc (.cells #[.int .i64 5, .int .i64 (-100), .int .i64 7, .int .i64 6] 2)) w.heap.size (.slice (some ⟨w.heap.size, 0, none⟩) 4 4) exL := World.ownsRow_lit (size := 1) w #[.int .i64 5, .int .i64 (-100), .int .i64 7, .int .i64 6] 4 (Nat.le_refl _) (by unfold maxLen; omega) rfl
  exact h.sl
theorem ex_trm : trm 1 exL = [5, 6] := by unfold trm; rw [← ins_srt]; decide
theorem ex_mid : midV 1 exL = 5 ∧ midB exL = true := by
  refine ⟨?_, by decide⟩
  unfold midV
  rw [ex_trm]
  decide
theorem ex_64 : In64 exL := by unfold exL; intro x hx; simp at hx; omega
theorem works24_any (w : World) : Calls Try.prog 14 #[] w fun e w' => e = .returned (.bool true) ∧ Below w.heap.size w w' := by
  have C1 : Hid (∀ W : World, Calls Try.prog 12 #[.int .i64 1, .slice (some ⟨W.heap.size, 0, none⟩) 4 4] (W.alloc (.cells #[.int .i64 5, .int .i64 (-100), .int .i64 7, .int .i64 6] 2)) (PartPost [5, 6] (W.alloc (.cells #[.int .i64 5, .int .i64 (-100), .int .i64 7, .int .i64 6] 2)))) := Lib.hid (fun W => by
    have := ttrim_any 1 _ 4 exL _ (ex_sl W) (by decide)
    rwa [ex_trm] at this)
  have C2 : Hid (∀ W : World, Calls Try.prog 17 #[.int .i64 1, .slice (some ⟨W.heap.size, 0, none⟩) 4 4] (W.alloc (.cells #[.int .i64 5, .int .i64 (-100), .int .i64 7, .int .i64 6] 2)) fun e w' => e = .returned (.tuple #[.int .i64 5, .bool true]) ∧ Below (W.heap.size + 1) (W.alloc (.cells #[.int .i64 5, .int .i64 (-100), .int .i64 7, .int .i64 6] 2)) w') := Lib.hid (fun W => by
    have := tmid_any 1 _ 4 exL _ (ex_sl W) (by decide) ex_64
    rw [ex_mid.1, ex_mid.2, World.size_alloc] at this
    exact this)
  have C3 : Hid (∀ W, Calls Try.prog 15 #[.int .i64 4, .int .i64 3] W fun e w' => e = .returned (.int .i64 1) ∧ W = w') := Lib.hid (fun W => fault_nat 4 3 (by omega) W)
  unfold PartPost at C1
  go_enter Try.func14, Try.ntmps14
  go_wp2_with fail
  refine (C1.out _).mono ?_; rintro e w1 ⟨ad1, cap1, rfl, hs1, hB1⟩
  have B1 : Hid (Below w.heap.size w w1) := Lib.hid (((Below.refl _ _).alloc (Nat.le_refl _) _).trans (hB1.mono (by simp)))
  obtain ⟨b, off, rfl, q0⟩ := hs1.at (k := 0) (by decide)
  obtain ⟨b', off', e', q1⟩ := hs1.at (k := 1) (by decide)
  simp only [Option.some.injEq, Addr.mk.injEq] at e'
  obtain ⟨rfl, rfl, -⟩ := e'
  rw [Nat.add_zero] at q0
  have HQ : Hid (∀ W, Below w1.heap.size w1 W → W.cell? ⟨b, off, none⟩ = some (.int .i64 5) ∧ W.cell? ⟨b, off + 1, none⟩ = some (.int .i64 6)) := Lib.hid (fun W hW => ⟨q0 W hW, q1 W hW⟩)
  have HC : Hid (2 ≤ cap1) := Lib.hid hs1.le
  clear hs1 q0 q1 hB1
  go_wp2_with fail
  refine (C2.out _).mono ?_; rintro e w2 ⟨rfl, hB2⟩
  have hB3 : Below w1.heap.size w1 w2 := ((Below.refl _ _).alloc (Nat.le_refl _) _).trans (hB2.mono (by omega))
  obtain ⟨c0, c1⟩ := HQ.out w2 hB3
  have B2 := Lib.hid (B1.out.trans (hB3.mono B1.out.size))
  clear hB2 hB3 HQ
  go_wp2_with fail
  refine (C3.out _).mono ?_; rintro e w' ⟨rfl, rfl⟩
  go_wp2_with fail
  go_ret
  exact ⟨rfl, B2.out⟩
end Go.Proofs.Ytldlgonpkeekdaa.Trm
