/- Plain: when an attendance may be, what stands behind its head (layer 12). -/
import Derived.Test.YtepcbklokcfbfaaPktA
namespace Go.Proofs.Ytepcbklokcfbfaa.Att
open Go.ChangeShapes Go.WideShapes Go.ChangeAt Go.RowKit Go.Deep
open Go.Proofs.Ytepcbklokcfbfaa.Byt Go.Proofs.Ytepcbklokcfbfaa.Key Go.Proofs.Ytepcbklokcfbfaa.Buf Go.Proofs.Ytepcbklokcfbfaa.Hed Go.Proofs.Ytepcbklokcfbfaa.Dat Go.Proofs.Ytepcbklokcfbfaa.BufM Go.Proofs.Ytepcbklokcfbfaa.Pkt
set_option linter.unusedVariables false
set_option linter.unusedSimpArgs false
/-- An attendance. -/
def attP (k : Ky) (h n : Int) : Pk := ⟨5, k, h, n, 0, 0, 0, 0, 0, none, 0, []⟩
/-- May the packet be one? -/
def attG (p : Pk) : Bool := gd p && (noOk p.no && eqP p (attP p.key p.hops p.no))
theorem attG_iff (p : Pk) : attG p = true ↔ p.kind = 5 ∧ gd p = true ∧ (0 ≤ p.no ∧ p.no ≤ 1152921504606846976) ∧ p.to = 0 ∧ p.index = 0 ∧ p.total = 0 ∧ p.stamp = 0 ∧ p.value = 0 ∧ p.body = [] := by
  unfold attG
  simp only [Bool.and_eq_true, noOk_iff, eqP_iff]
  unfold attP
  simp only
  constructor
  · rintro ⟨h1, h2, h3, -, -, -, h4⟩
    exact ⟨h3, h1, h2, h4⟩
  · rintro ⟨h3, h1, h2, h4⟩
    exact ⟨h1, h2, h3, trivial, trivial, trivial, h4⟩
/-- In the program's order. -/
theorem attG_a (p : Pk) : attG p = (gd p && (decide (0 ≤ p.no) && (decide (p.no ≤ 1152921504606846976) && eqP p (attP p.key p.hops p.no)))) := by
  unfold attG noOk
  rw [Bool.and_assoc]
/-- In the document's order. -/
theorem attG_b (p : Pk) : attG p = (eqP p (attP p.key p.hops p.no) && (gd p && (decide (0 ≤ p.no) && decide (p.no ≤ 1152921504606846976)))) := by
  rw [attG_a]
  cases gd p <;> cases decide (0 ≤ p.no) <;> cases decide (p.no ≤ 1152921504606846976) <;> cases eqP p (attP p.key p.hops p.no) <;> rfl
/-- A good packet is from a node. -/
theorem attG_from {p : Pk} (h : attG p = true) : 0 ≤ p.key.2.1 ∧ p.key.2.1 < 64 := by
  have h := (attG_iff p).1 h
  have hg := h.2.1
  rw [gd_flood (flo_yes (by omega))] at hg
  simp only [Bool.and_eq_true] at hg
  have := hg.2
  unfold goodK at this
  simp only [Bool.and_eq_true, decide_eq_true_eq] at this
  omega
end Go.Proofs.Ytepcbklokcfbfaa.Att
