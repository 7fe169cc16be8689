/- The statements' 'times' of layer 26; what a suggestion is worth. -/
import Derived.Test.YtbbenfjfdmnpmaaBndU
namespace Go.Proofs.Ytbbenfjfdmnpmaa.Bnd
open Go.ChangeShapes Go.WideShapes Go.ChangeAt Go.RowKit
set_option linter.unusedVariables false
theorem fst_ok {c : Cf} : ∀ m k j, fstK c k m = some j → okR c (2 ^ j) = true
  | 0, _, _, h => by cases h
  | m + 1, k, j, h => by
    have h' : (if okR c (2 ^ k) = true then some k else fstK c (k + 1) m) = some j := h
    by_cases hk : okR c (2 ^ k) = true
    · rw [if_pos hk] at h'
      cases h'
      exact hk
    · rw [if_neg hk] at h'
      exact fst_ok m (k + 1) j h'
theorem ans_lnk (c : Cf) (ad : Option Addr) (cap : Nat) (K : Option Nat) : ansK (lnk c ad c.linksL cap) K = lnk (ansK c K) ad (ansK c K).linksL cap := by
  cases K <;> rfl
theorem ans_n (c : Cf) (K : Option Nat) : (ansK c K).n = c.n := by cases K <;> rfl
theorem ans_ok (c : Cf) (h : (fstK c 12 29).isSome = true) : enB (ansK c (fstK c 12 29)) = true := by
  cases hK : fstK c 12 29 with
  | none => rw [hK] at h; cases h
  | some k => exact fst_ok 29 12 k hK
set_option maxRecDepth 100000 in
set_option maxHeartbeats 4000000 in
theorem times26_any (d : Cf) (ad : Option Addr) (cap : Nat) (w : World) :
    Calls Try.prog 17 #[cval (lnk d ad d.linksL cap), cval d] w fun e w' => e = .returned (.bool true) ∧ Below w.heap.size w w' := by
  obtain ⟨n, lk, lL, lC, lS, fl, a, b, r, v, pr, pw, pa, x1, x2, x3, x4, x5⟩ := d
  unfold cval lnk ccells
  dsimp only
  have hl : ((lL : Int) == (lL : Int)) = true := beq_iff_eq.2 rfl
  have hl2 : (lL == lL) = true := beq_iff_eq.2 rfl
  go_enter Try.func17, Try.ntmps17
  go_wp2_with fail
  go_ret
  exact ⟨rfl, by go_grown⟩
end Go.Proofs.Ytbbenfjfdmnpmaa.Bnd
