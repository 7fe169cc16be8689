/- Small calls of chunk (layer 13): isNo, isNode, isPlace, found. -/
import Derived.Test.YtidfdlpdacbkoaaChuM
import Derived.Test.YtidfdlpdacbkoaaHedL
namespace Go.Proofs.Ytidfdlpdacbkoaa.Chu
open Go.ChangeShapes Go.WideShapes Go.ChangeAt Go.RowKit Go.Deep
open Go.Proofs.Ytidfdlpdacbkoaa.Byt Go.Proofs.Ytidfdlpdacbkoaa.Key Go.Proofs.Ytidfdlpdacbkoaa.Buf Go.Proofs.Ytidfdlpdacbkoaa.Hed Go.Proofs.Ytidfdlpdacbkoaa.Dat Go.Proofs.Ytidfdlpdacbkoaa.BufM Go.Proofs.Ytidfdlpdacbkoaa.Pkt
set_option linter.unusedVariables false
set_option linter.unusedSimpArgs false
theorem cisno_any (n : Int) (w : World) :
    Calls Try.prog 26 #[.int .i64 n] w fun e w' => e = .returned (.bool (noOk n)) ∧ w = w' := by
  unfold noOk
  obtain ⟨a, ha⟩ : ∃ a, decide (0 ≤ n) = a := ⟨_, rfl⟩
  obtain ⟨b, hb⟩ : ∃ b, decide (n ≤ 1152921504606846976) = b := ⟨_, rfl⟩
  have ha2 : decide (n ≥ 0) = a := ha
  rw [ha, hb]
  cases a with
  | false =>
    go_enter Try.func26, Try.ntmps26
    go_wp2_with fail
    go_ret
    exact ⟨rfl, rfl⟩
  | true =>
    go_enter Try.func26, Try.ntmps26
    go_wp2_with fail
    go_ret
    exact ⟨by simp, rfl⟩
theorem cisnode_any (n : Int) (w : World) :
    Calls Try.prog 27 #[.int .i64 n] w fun e w' => e = .returned (.bool (ndOk n)) ∧ w = w' := by
  unfold ndOk
  obtain ⟨a, ha⟩ : ∃ a, decide (0 ≤ n) = a := ⟨_, rfl⟩
  obtain ⟨b, hb⟩ : ∃ b, decide (n < 64) = b := ⟨_, rfl⟩
  have ha2 : decide (n ≥ 0) = a := ha
  rw [ha, hb]
  cases a with
  | false =>
    go_enter Try.func27, Try.ntmps27
    go_wp2_with fail
    go_ret
    exact ⟨rfl, rfl⟩
  | true =>
    go_enter Try.func27, Try.ntmps27
    go_wp2_with fail
    go_ret
    exact ⟨by simp, rfl⟩
set_option maxRecDepth 100000 in
theorem cisplace_any (i t : Int) (w : World) :
    Calls Try.prog 28 #[.int .i64 i, .int .i64 t] w fun e w' => e = .returned (.bool (plOk i t)) ∧ w = w' := by
  unfold plOk
  obtain ⟨a, ha⟩ : ∃ a, decide (1 ≤ t) = a := ⟨_, rfl⟩
  obtain ⟨b, hb⟩ : ∃ b, decide (t ≤ 255) = b := ⟨_, rfl⟩
  obtain ⟨c, hc⟩ : ∃ c, decide (0 ≤ i) = c := ⟨_, rfl⟩
  obtain ⟨d, hd⟩ : ∃ d, decide (i < t) = d := ⟨_, rfl⟩
  have ha2 : decide (t ≥ 1) = a := ha
  have hc2 : decide (i ≥ 0) = c := hc
  rw [ha, hb, hc, hd]
  cases a with
  | false =>
    go_enter Try.func28, Try.ntmps28
    go_wp2_with fail
    go_ret
    exact ⟨by simp, rfl⟩
  | true =>
    cases b with
    | false =>
      go_enter Try.func28, Try.ntmps28
      go_wp2_with fail
      go_ret
      exact ⟨by simp, rfl⟩
    | true =>
      cases c with
      | false =>
        go_enter Try.func28, Try.ntmps28
        go_wp2_with fail
        go_ret
        exact ⟨by simp, rfl⟩
      | true =>
        go_enter Try.func28, Try.ntmps28
        go_wp2_with fail
        go_ret
        exact ⟨by simp, rfl⟩
set_option maxRecDepth 100000 in
theorem cfound_any (g : Nat) (s : St) (b : Bool) (wr : Int) (w : World) (h : RR w g s) :
    Calls Try.prog 48 #[.pointer (some ⟨g, 0, none⟩), .bool b, .int .i64 wr] w fun e w' => e = .returned (.int .i64 (fnd s b wr)) ∧ w = w' := by
  have CE := Lib.hid (Buf.err_any g s w h)
  unfold fnd
  generalize s.1 = e0 at *
  clear h
  by_cases he : e0 = 0
  · subst he
    rw [if_pos rfl]
    cases b with
    | true =>
      rw [if_pos rfl]
      go_enter Try.func48, Try.ntmps48
      go_wp2_with fail
      refine (CE.out).mono ?_; rintro e w' ⟨rfl, rfl⟩
      go_wp2_with fail
      go_ret
      exact ⟨rfl, rfl⟩
    | false =>
      rw [if_neg (by decide)]
      go_enter Try.func48, Try.ntmps48
      go_wp2_with fail
      refine (CE.out).mono ?_; rintro e w' ⟨rfl, rfl⟩
      go_wp2_with fail
      go_ret
      exact ⟨rfl, rfl⟩
  · rw [if_neg he]
    have hne : (e0 != 0) = true := by simpa using he
    clear he
    go_enter Try.func48, Try.ntmps48
    go_wp2_with fail
    refine (CE.out).mono ?_; rintro e w' ⟨rfl, rfl⟩
    go_wp2_with fail
    go_ret
    exact ⟨rfl, rfl⟩
end Go.Proofs.Ytidfdlpdacbkoaa.Chu
