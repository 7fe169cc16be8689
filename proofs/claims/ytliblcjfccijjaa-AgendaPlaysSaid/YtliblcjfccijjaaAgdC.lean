/- Contracts of package agenda (layer 8) at int64: next, rise, sink. -/
import Derived.Test.YtliblcjfccijjaaAgdB
import Derived.Deep.QuietTactic
import Derived.BigQuiet
import Derived.OwnWalkIn
namespace Go.Proofs.Ytliblcjfccijjaa.AgdL
open Go.ChangeShapes Go.WideShapes Go.ChangeAt Go.RowKit
open Go.Proofs.Ytliblcjfccijjaa.Rw Go.Proofs.Ytliblcjfccijjaa.Agd
set_option linter.unusedVariables false
set_option linter.unusedSimpArgs false
set_option maxHeartbeats 4000000 in
theorem next_any (g b : Nat) (most : Int) (add cap : Nat) (l : List Th) (w : World) (h : RowL w g b most add cap l) (hN : l.length ≤ 1000000) (i : Nat) (hi : i ≤ 1000000) :
    Calls Try.prog 83 #[.pointer (some ⟨g, 0, none⟩), .int .i64 i] w fun e w' => e = .returned (.int .i64 (nx l i)) ∧ Below w.heap.size w w' := by
  have HC : Hid (∀ W, Below w.heap.size w W → W.cell? ⟨g, 2, none⟩ = some (.slice (some ⟨b, 0, none⟩) l.length cap)) := Lib.hid (fun W hW => (h.below hW).cells.2.2)
  have CA : Hid (∀ W, Below w.heap.size w W → 2 * i + 2 < l.length → Calls Try.prog 72 #[.pointer (some ⟨b, (2 * i + 2) * 3, none⟩), .pointer (some ⟨b, (2 * i + 1) * 3, none⟩)] W fun e w' => e = .returned (.bool (bef (gt l (2 * i + 2)) (gt l (2 * i + 1)))) ∧ Below w.heap.size w w') := Lib.hid (fun W hW h1 => (ahead_any g b most add cap l W (h.below hW) (2 * i + 2) (2 * i + 1) h1 (by omega)).mono fun e w' hh => ⟨hh.1, hW.trans (hh.2.mono hW.size)⟩)
  have c2 := HC.out w (Below.refl _ _)
  have hcap := h.len
  unfold maxLen at hcap
  have hX : Hid (nx l i = if l.length ≤ 2 * i + 1 then -1 else if 2 * i + 2 < l.length ∧ bef (gt l (2 * i + 2)) (gt l (2 * i + 1)) = true then ((2 * i + 2 : Nat) : Int) else ((2 * i + 1 : Nat) : Int)) := Lib.hid rfl
  rw [hX.out]
  clear h hX
  generalize bef (gt l (2 * i + 2)) (gt l (2 * i + 1)) = v at *
  generalize l.length = n at *
  have hi2 : 2 * i + 2 ≤ 2000002 := by omega
  by_cases h1 : n ≤ 2 * i + 1
  · have e1 : decide ((2 * (i : Int) + 1) ≥ (n : Int)) = true := by simp; omega
    rw [if_pos h1]
    go_enter Try.func83, Try.ntmps83
    go_wp2_with fail
    go_ret
    exact ⟨rfl, Below.refl _ _⟩
  · rw [if_neg h1]
    have h1' : ¬ ((2 * (i : Int) + 1) ≥ (n : Int)) := by omega
    by_cases h2 : 2 * i + 2 < n
    · have CB := Lib.hid (fun W hW => CA.out W hW h2)
      have h2' : (2 * (i : Int) + 2) < (n : Int) := by omega
      clear CA
      cases v with
      | true =>
        rw [if_pos ⟨h2, rfl⟩]
        go_enter Try.func83, Try.ntmps83
        go_wp2_with fail
        refine wp_region_noPanic ?_
        go_region_held_law (fun W => Below w.heap.size w W ∧ W.cell? ⟨g, 2, none⟩ = some (.slice (some ⟨b, 0, none⟩) n cap)) ((refine ⟨?_, HC.out _ ?_⟩ <;> (repeat' (first | assumption | exact Below.refl _ _ | exact (‹Below w.heap.size w _ ∧ _›).1 | refine Below.drew ?_))))
          ((go_at_call 72; refine (CB.out _ ?_).mono ?_; (focus (first | assumption | exact (‹Below w.heap.size w _ ∧ _›).1 | exact (Below.refl _ _).drew)); rintro e w7 ⟨rfl, hB7⟩))
        all_goals
          rename_i hHeld
          obtain ⟨hG8, -⟩ := hHeld
          have HG8 := Lib.hid hG8
          clear hG8 c2
          refine NoPanic.normal ?_
          go_wp2_with fail
          go_ret
          exact ⟨rfl, HG8.out⟩
      | false =>
        rw [if_neg (by simp)]
        go_enter Try.func83, Try.ntmps83
        go_wp2_with fail
        refine wp_region_noPanic ?_
        go_region_held_law (fun W => Below w.heap.size w W ∧ W.cell? ⟨g, 2, none⟩ = some (.slice (some ⟨b, 0, none⟩) n cap)) ((refine ⟨?_, HC.out _ ?_⟩ <;> (repeat' (first | assumption | exact Below.refl _ _ | exact (‹Below w.heap.size w _ ∧ _›).1 | refine Below.drew ?_))))
          ((go_at_call 72; refine (CB.out _ ?_).mono ?_; (focus (first | assumption | exact (‹Below w.heap.size w _ ∧ _›).1 | exact (Below.refl _ _).drew)); rintro e w7 ⟨rfl, hB7⟩))
        all_goals
          rename_i hHeld
          obtain ⟨hG8, -⟩ := hHeld
          have HG8 := Lib.hid hG8
          clear hG8 c2
          refine NoPanic.normal ?_
          go_wp2_with fail
          go_ret
          exact ⟨rfl, HG8.out⟩
    · clear CA
      have H5 : Hid (¬ ((2 * (i : Int) + 2) < (n : Int))) := Lib.hid (by omega)
      have H6 : Hid ((n : Int) ≤ 2 * (i : Int) + 2) := Lib.hid (by omega)
      rw [if_neg (fun h => h2 h.1)]
      have HD : Hid (Below w.heap.size w w.drew) := Lib.hid (Below.refl _ _).drew
      go_enter Try.func83, Try.ntmps83
      go_wp2_with fail
      have h5 : decide ((2 * (i : Int) + 2) < (n : Int)) = false := by have := H6.out; simp; omega
      go_quiet (fail)
      go_wp2_with fail
      go_ret
      exact ⟨rfl, Own.below_drewN (Below.refl _ _) _⟩
end Go.Proofs.Ytliblcjfccijjaa.AgdL
