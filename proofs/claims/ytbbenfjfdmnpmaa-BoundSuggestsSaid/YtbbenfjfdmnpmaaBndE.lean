/- Contracts of package bound (layer 26): Of of any configuration; the chapter's example. -/
import Derived.Test.YtbbenfjfdmnpmaaBndO
namespace Go.Proofs.Ytbbenfjfdmnpmaa.Bnd
open Go.ChangeShapes Go.WideShapes Go.ChangeAt Go.RowKit
open Go.Proofs.Ytbbenfjfdmnpmaa.Rw
set_option linter.unusedVariables false
set_option linter.unusedSimpArgs false
set_option maxRecDepth 100000 in
set_option maxHeartbeats 4000000 in
theorem bof_bad (c : Cf) (hn : -9223372036854775808 ≤ c.n ∧ c.n ≤ 9223372036854775807) (g0 : goodC c = false) (w : World) :
    Calls Try.prog 8 #[cval c] w fun e w' => e = .returned (.tuple #[nval nm0, .int .i64 17]) ∧ Below w.heap.size w w' := by
  have CG := Lib.hid (fun W => bgood_any c hn W)
  rw [g0] at CG
  clear g0 hn
  obtain ⟨n, lk, lL, lC, lS, fl, a, b, r, v, pr, pw, pa, x1, x2, x3, x4, x5⟩ := c
  unfold cval ccells at *
  dsimp only at CG ⊢
  have HO : Hid ((ncells nm0).all (·.oneCell') = true) := Lib.hid (nm_one nm0)
  unfold nval nm0 ncells at *
  dsimp only at HO ⊢
  go_enter Try.func8, Try.ntmps8
  go_wp2_with fail
  refine (CG.out _).mono ?_; rintro e w1 ⟨rfl, hB⟩
  obtain ⟨hk1, hk2, hb1, hs1⟩ := boxes2 hB
  have K2 := Lib.hid hk2
  have B1 := Lib.hid hb1
  clear hB hs1 hk1 hk2 hb1
  go_wp2_with (refine store_nm rfl _ _ rfl (w.heap.size + 1) #[.int .i64 0, .int .i64 0, .int .i64 0, .int .i64 0, .int .i64 0, .int .i64 0, .int .i64 0, .int .i64 0, .int .i64 0, .int .i64 0, .int .i64 0, .int .i64 0, .int .i64 0, .int .i64 0] rfl rfl rfl HO.out _ K2.out rfl ?_)
  exact bodyPost_ret (results_nm rfl _ _ (w.heap.size + 1) _ _ rfl rfl (K2.out.setRow _) rfl) rfl ⟨rfl, below_setRow B1.out (by omega) _⟩
theorem bof_any (c : Cf) (hn : -9223372036854775808 ≤ c.n ∧ c.n ≤ 9223372036854775807) (w : World) :
    Calls Try.prog 8 #[cval c] w fun e w' => e = .returned (.tuple #[nval (ofN c), .int .i64 (ofE c)]) ∧ Below w.heap.size w w' := by
  unfold ofN ofE
  cases hg : goodC c with
  | false => exact bof_bad c hn hg w
  | true => exact bof_good c (good_yes hg) w
def exC : Cf := ⟨3, none, 0, 0, [], 0, 1, 1, 0, 32, 65536, 16384, 65536, 0, 0, 0, 0, 0⟩
theorem exC_good : goodC exC = true := by decide +kernel
theorem exC_num : (num exC).fast = 1056 ∧ (num exC).read = 0 ∧ (num exC).agree = 2 ∧ (num exC).eps = 2116 ∧ (num exC).delta = 8456 := by decide +kernel
set_option maxRecDepth 100000 in
theorem example_any (w : World) :
    Calls Try.prog 28 #[] w fun e w' => e = .returned (cval exC) ∧ Below w.heap.size w w' := by
  unfold cval ccells exC
  dsimp only
  go_enter Try.func28, Try.ntmps28
  go_wp2_with fail
  go_returns
  exact ⟨rfl, by go_grown⟩
set_option maxRecDepth 100000 in
set_option maxHeartbeats 4000000 in
/-- The chapter's example. -/
theorem works26_any (w : World) :
    Calls Try.prog 11 #[] w fun e w' => e = .returned (.bool true) ∧ Below w.heap.size w w' := by
  have C1 := Lib.hid (fun W => example_any W)
  have C2 := Lib.hid (fun W => bof_good exC (good_yes exC_good) W)
  obtain ⟨h1, h2, h3, h4, h5⟩ := exC_num
  obtain ⟨m, hm⟩ : ∃ m, num exC = m := ⟨_, rfl⟩
  rw [hm] at C2 h1 h2 h3 h4 h5
  clear hm
  obtain ⟨m0, m1, m2, m3, m4, m5, m6, m7, m8, m9, m10, m11, m12, m13⟩ := m
  dsimp only at h1 h2 h3 h4 h5
  subst h1 h2 h3 h4 h5
  unfold nval ncells at C2
  dsimp only at C2
  generalize cval exC = v at *
  go_enter Try.func11, Try.ntmps11
  go_wp2_with fail
  refine (C1.out _).mono ?_; rintro e w1 ⟨rfl, hB⟩
  have B1 := Lib.hid hB
  clear hB
  go_wp2_with fail
  refine (C2.out _).mono ?_; rintro e w2 ⟨rfl, hB⟩
  have B2 := Lib.hid (B1.out.trans (hB.mono B1.out.size))
  clear hB B1
  go_wp2_with fail
  go_ret
  exact ⟨rfl, B2.out.alloc B2.out.size _⟩
end Go.Proofs.Ytbbenfjfdmnpmaa.Bnd
