/- Contracts of package head (layer 9) and of the document's own: Flood, Name, Good. -/
import Derived.Test.YtepcbklokcfbfaaHedA
import Derived.Deep.Cut
namespace Go.Proofs.Ytepcbklokcfbfaa.Hed
open Go.ChangeShapes Go.WideShapes Go.ChangeAt Go.RowKit Go.Deep
open Go.Proofs.Ytepcbklokcfbfaa.Byt Go.Proofs.Ytepcbklokcfbfaa.Key
set_option linter.unusedVariables false
set_option linter.unusedSimpArgs false
/-- Which kinds are flooded. -/
def flo (k : Int) : Bool := decide (3 ≤ k ∧ k ≤ 6)
/-- What a kind is called. -/
def nm (k : Int) : ByteArray :=
  if k = 1 then ⟨#[112, 114, 111, 98, 101]⟩ else if k = 2 then ⟨#[101, 99, 104, 111]⟩ else if k = 3 then ⟨#[98, 101, 97, 99, 111, 110]⟩
  else if k = 4 then ⟨#[100, 97, 116, 97]⟩ else if k = 5 then ⟨#[97, 116, 116, 101, 110, 100]⟩ else if k = 6 then ⟨#[99, 104, 117, 110, 107]⟩ else ⟨#[63]⟩
def okHops (h : Int) : Bool := decide (1 ≤ h ∧ h ≤ 63)
/-- May the packet's head be? -/
def gd (p : Pk) : Bool := if flo p.kind then (okHops p.hops && goodK p.key) else (decide (1 ≤ p.kind ∧ p.kind ≤ 2) && decide (p.hops = 0) && eqK p.key (0, 0, 0))
theorem flo_yes {k : Int} (h : 3 ≤ k ∧ k ≤ 6) : flo k = true := decide_eq_true h
theorem flo_no {k : Int} (h : ¬ (3 ≤ k ∧ k ≤ 6)) : flo k = false := decide_eq_false h
theorem flood_any (k : Int) (w : World) :
    Calls Try.prog 38 #[.int .i64 k] w fun e w' => e = .returned (.bool (flo k)) ∧ w = w' := by
  by_cases h : 3 ≤ k ∧ k ≤ 6
  · rw [flo_yes h]
    obtain rfl | rfl | rfl | rfl : k = 3 ∨ k = 4 ∨ k = 5 ∨ k = 6 := by omega
    all_goals
      go_enter Try.func38, Try.ntmps38
      go_wp2_with fail
      go_ret
      exact ⟨rfl, rfl⟩
  · rw [flo_no h]
    have h3 : (k == 3) = false := by simp; omega
    have h4 : (k == 4) = false := by simp; omega
    have h5 : (k == 5) = false := by simp; omega
    have h6 : (k == 6) = false := by simp; omega
    clear h
    go_enter Try.func38, Try.ntmps38
    go_wp2_with fail
    go_ret
    exact ⟨rfl, rfl⟩
theorem rflood_any (k : Int) (w : World) :
    Calls Try.prog 44 #[.int .i64 k] w fun e w' => e = .returned (.bool (flo k)) ∧ w = w' := by
  by_cases h1 : k > 2
  · have e : flo k = decide (k < 7) := by unfold flo; congr 1; apply propext; omega
    rw [e]
    go_enter Try.func44, Try.ntmps44
    go_wp2_with fail
    go_ret
    exact ⟨rfl, rfl⟩
  · have e : flo k = false := flo_no (by omega)
    rw [e]
    go_enter Try.func44, Try.ntmps44
    go_wp2_with fail
    go_ret
    exact ⟨rfl, rfl⟩
theorem iskind_any (k : Int) (w : World) :
    Calls Try.prog 41 #[.int .i64 k] w fun e w' => e = .returned (.bool (decide (1 ≤ k ∧ k ≤ 6))) ∧ w = w' := by
  by_cases h1 : k ≥ 1
  · have e : decide (1 ≤ k ∧ k ≤ 6) = decide (k ≤ 6) := by congr 1; apply propext; omega
    rw [e]
    go_enter Try.func41, Try.ntmps41
    go_wp2_with fail
    go_ret
    exact ⟨rfl, rfl⟩
  · have e : decide (1 ≤ k ∧ k ≤ 6) = false := decide_eq_false (by omega)
    rw [e]
    go_enter Try.func41, Try.ntmps41
    go_wp2_with fail
    go_ret
    exact ⟨rfl, rfl⟩
theorem ishops_any (k : Int) (w : World) :
    Calls Try.prog 39 #[.int .i64 k] w fun e w' => e = .returned (.bool (okHops k)) ∧ w = w' := by
  unfold okHops
  by_cases h1 : k ≥ 1
  · have e : decide (1 ≤ k ∧ k ≤ 63) = decide (k ≤ 63) := by congr 1; apply propext; omega
    rw [e]
    go_enter Try.func39, Try.ntmps39
    go_wp2_with fail
    go_ret
    exact ⟨rfl, rfl⟩
  · have e : decide (1 ≤ k ∧ k ≤ 63) = false := decide_eq_false (by omega)
    rw [e]
    go_enter Try.func39, Try.ntmps39
    go_wp2_with fail
    go_ret
    exact ⟨rfl, rfl⟩
end Go.Proofs.Ytepcbklokcfbfaa.Hed
