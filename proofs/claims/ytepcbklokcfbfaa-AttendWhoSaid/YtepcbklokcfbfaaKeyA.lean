/- Contracts of the document's own answers for layer key (6): which key is ahead, may a key be, is it in a list; how keys lie in memory. -/
import Derived.Test.YtepcbklokcfbfaaRowA
import Derived.Test.YtepcbklokcfbfaaProg
import Derived.WalkKit
import Derived.ProofKit
import Derived.OpenShut
import Derived.Below
import Derived.Laws.StructEq
import Derived.Lib.Hide
import Derived.Lib.Small
import Derived.TacticsInMore
namespace Go.Proofs.Ytepcbklokcfbfaa.Key
open Go.ChangeShapes Go.WideShapes Go.ChangeAt Go.RowKit
set_option linter.unusedVariables false
abbrev Ky := Int × Int × Int
def enc (x : Ky) : List Value := [.int .i64 x.1, .int .i64 x.2.1, .int .u32 x.2.2]
def kval (x : Ky) : Value := .agg #[.int .i64 x.1, .int .i64 x.2.1, .int .u32 x.2.2]
/-- What a key's type holds. -/
def ok (x : Ky) : Prop := (-9223372036854775808 ≤ x.1 ∧ x.1 ≤ 9223372036854775807) ∧ (-9223372036854775808 ≤ x.2.1 ∧ x.2.1 ≤ 9223372036854775807) ∧ (0 ≤ x.2.2 ∧ x.2.2 ≤ 4294967295)
def ltK (x y : Ky) : Bool := decide (x.1 < y.1 ∨ (x.1 = y.1 ∧ (x.2.1 < y.2.1 ∨ (x.2.1 = y.2.1 ∧ x.2.2 < y.2.2))))
def eqK (x y : Ky) : Bool := decide (x = y)
def goodK (x : Ky) : Bool := decide (0 ≤ x.1 ∧ x.1 ≤ 1152921504606846976 ∧ 0 ≤ x.2.1 ∧ x.2.1 < 64)
theorem kval_inj {x y : Ky} (h : kval x = kval y) : x = y := by
  obtain ⟨a, b, c⟩ := x
  obtain ⟨d, e, f⟩ := y
  simp [kval] at h
  obtain ⟨rfl, rfl, rfl⟩ := h
  rfl
theorem enc_len (x : Ky) : (enc x).length = 3 := rfl
theorem enc_one (x : Ky) : ∀ v ∈ enc x, v.oneCell' = true := fun v hv => by simp [enc] at hv; rcases hv with rfl | rfl | rfl <;> rfl
/-- A slice reads as a list of keys. -/
abbrev RdK (w : World) (ad : Option Addr) (l : List Ky) : Prop := Rw.Rd enc 3 w ad l
abbrev OwnK (w : World) (base : Nat) (v : Value) (l : List Ky) : Prop := Rw.OwnS enc 3 24 w base v l
abbrev PostK (l : List Ky) (w : World) (x : Ending) (w' : World) : Prop := Rw.Post enc 3 24 l w x w'
theorem at3 {w : World} {b o : Nat} {x : Ky} (h : Rw.At enc w b o x) : w.cell? ⟨b, o, none⟩ = some (.int .i64 x.1) ∧ w.cell? ⟨b, o + 1, none⟩ = some (.int .i64 x.2.1) ∧ w.cell? ⟨b, o + 2, none⟩ = some (.int .u32 x.2.2) := ⟨h 0 _ rfl, h 1 _ rfl, h 2 _ rfl⟩
@[go_sem high] theorem eq_rule (a b c d e f : Int) (w : World) : (Op.equalIn 10000 24 (.agg #[.int .i64 a, .int .i64 b, .int .u32 c]) (.agg #[.int .i64 d, .int .i64 e, .int .u32 f])).run Try.prog w = .ok (eqK (a, b, c) (d, e, f)) w := by
  have hS : Try.prog.underlying 24 = some (.struct (Try.prog.fieldsOf 24)) := by kernel_rfl
  have hp : Try.prog.stoodInHeld 24 = false := by kernel_rfl
  rw [show (10000 : Nat) = 9999 + 1 from rfl, run_equalIn_struct w 9999 24 _ _ hS hp]
  simp only [Program.fieldsOf, Try.underlying24]
  go_simp
  by_cases h1 : a = d <;> by_cases h2 : b = e <;> by_cases h3 : c = f <;> simp [h1, h2, h3, eqK]
theorem rgood_any (x : Ky) (w : World) :
    Calls Try.prog 45 #[kval x] w fun e w' => e = .returned (.bool (goodK x)) ∧ Below w.heap.size w w' := by
  obtain ⟨a, b, c⟩ := x
  have hB : Below w.heap.size w (w.alloc (.cells #[.int .i64 a, .int .i64 b, .int .u32 c] 24)) := (Below.refl _ _).alloc (Nat.le_refl _) _
  unfold kval
  by_cases h1 : 0 ≤ a
  · by_cases h2 : a ≤ 1152921504606846976
    · by_cases h3 : 0 ≤ b
      · have hv : goodK (a, b, c) = decide (b < 64) := by simp [goodK, h1, h2, h3]
        rw [hv]
        go_enter Try.func45, Try.ntmps45
        go_wp2_with fail
        go_ret
        exact ⟨rfl, hB⟩
      · have hv : goodK (a, b, c) = false := by simp [goodK, h1, h2, h3]
        rw [hv]
        go_enter Try.func45, Try.ntmps45
        go_wp2_with fail
        go_ret
        exact ⟨rfl, hB⟩
    · have hv : goodK (a, b, c) = false := by simp [goodK, h1, h2]
      rw [hv]
      go_enter Try.func45, Try.ntmps45
      go_wp2_with fail
      go_ret
      exact ⟨rfl, hB⟩
  · have hv : goodK (a, b, c) = false := by simp [goodK, h1]
    rw [hv]
    go_enter Try.func45, Try.ntmps45
    go_wp2_with fail
    go_ret
    exact ⟨rfl, hB⟩
end Go.Proofs.Ytepcbklokcfbfaa.Key
