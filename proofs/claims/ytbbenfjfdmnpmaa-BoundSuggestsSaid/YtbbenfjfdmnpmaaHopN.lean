/- Plain mathematics of layer 19: numbers of links and delays. -/
import Derived.Test.YtbbenfjfdmnpmaaRows
import Derived.Lib.Hide
namespace Go.Proofs.Ytbbenfjfdmnpmaa.Hop
set_option linter.unusedVariables false

/-- Whether links, delays may be. -/
def gdB (h a b : Int) : Bool := decide (0 ≤ h ∧ h ≤ 63 ∧ 0 ≤ a ∧ a ≤ b ∧ b ≤ 64)
theorem gd_yes {h a b : Int} (g : gdB h a b = true) : 0 ≤ h ∧ h ≤ 63 ∧ 0 ≤ a ∧ a ≤ b ∧ b ≤ 64 := of_decide_eq_true g
def loV (h a b : Int) : Int := if gdB h a b = true then h * a else 0
def hiV (h a b : Int) : Int := if gdB h a b = true then h * b else 0
def midV (h a b : Int) : Int := if gdB h a b = true then h * (a + b) * 512 else 0
def erB (h a b r : Int) : Bool := gdB h a b && decide (0 ≤ r ∧ r ≤ 64)
def errV (h a b r : Int) : Int := if erB h a b r = true then h * ((b - a) * 512 + r * b) else 0
theorem mul_bd {h a : Int} (h0 : 0 ≤ h) (h1 : h ≤ 63) (a0 : 0 ≤ a) (a1 : a ≤ 64) : 0 ≤ h * a ∧ h * a ≤ 4032 :=
  ⟨Int.mul_nonneg h0 a0, by have := Int.mul_le_mul h1 a1 a0 (by omega : (0 : Int) ≤ 63); omega⟩
theorem mid_num (h a b : Int) : (h * a * 1024 + h * b * 1024) / 2 = h * (a + b) * 512 := by
  rw [Int.mul_add]
  generalize h * a = x
  generalize h * b = y
  omega
theorem err_num (h a b r : Int) : (h * b - h * a) * 512 + r * (h * b) = h * ((b - a) * 512 + r * b) := by
  rw [Int.mul_add, Int.mul_left_comm h r b, ← Int.mul_assoc h (b - a) 512, Int.mul_sub]
theorem mul_bd2 {r q : Int} (r0 : 0 ≤ r) (r1 : r ≤ 64) (q0 : 0 ≤ q) (q1 : q ≤ 4032) : 0 ≤ r * q ∧ r * q ≤ 258048 :=
  ⟨Int.mul_nonneg r0 q0, by have := Int.mul_le_mul r1 q1 q0 (by omega : (0 : Int) ≤ 64); omega⟩
/-- What HopsTrue says, in plain words: ticks of h links, grains of so many ticks. -/
theorem way_true {h a b r T g : Int} (h0 : 0 ≤ h) (a0 : 0 ≤ a) (ab : a ≤ b) (r0 : 0 ≤ r) (t0 : h * a ≤ T) (t1 : T ≤ h * b) (g0 : 1024 * T - r * T ≤ g) (g1 : g ≤ 1024 * T + r * T) :
    g - h * (a + b) * 512 ≤ h * ((b - a) * 512 + r * b) ∧ h * (a + b) * 512 - g ≤ h * ((b - a) * 512 + r * b) := by
  have e1 := err_num h a b r
  have e2 : h * (a + b) * 512 = (h * a + h * b) * 512 := by rw [Int.mul_add]
  have e3 : r * T ≤ r * (h * b) := Int.mul_le_mul_of_nonneg_left t1 r0
  rw [← e1, e2]
  generalize h * a = x at *
  generalize h * b = y at *
  generalize r * y = z at *
  generalize r * T = u at *
  omega
end Go.Proofs.Ytbbenfjfdmnpmaa.Hop
