/- An array of two numbers that came in (layer 19). -/
import Derived.Test.YtecgohdpdkpeoaaHopA
import Derived.Deep.Slices
import Derived.Deep.Fields
import Derived.OpenShut
namespace Go.Proofs.Ytecgohdpdkpeoaa.Hop
open Go.ChangeShapes Go.WideShapes Go.ChangeAt Go.RowKit Go.Deep
set_option linter.unusedVariables false
def two (t : Int × Int) : Value := .agg #[.int .i64 t.1, .int .i64 t.2]
theorem cellsTwo : Try.prog.cellsOf 26 = 2 := by kernel_rfl
section
variable {H : Type} {enc0 : TypeId × Value → H} {w : World}
set_option maxRecDepth 100000 in
theorem open_two64 {r : Reach} {b0 : Nat} {v : Value} {d : DataW H} {p : List MemPlace} (hv : Value.okWide Try.prog w r b0 26 v) (h : DataW.Trod enc0 Try.prog w 0 (fun _ => true) true 26 v d p) :
    ∃ t : Int × Int, v = two t ∧ (-9223372036854775808 ≤ t.1 ∧ t.1 ≤ 9223372036854775807) ∧ (-9223372036854775808 ≤ t.2 ∧ t.2 ≤ 9223372036854775807) := by
  simp only [Value.okWide, Try.underlying26] at hv
  obtain ⟨cs, rfl, hs, _⟩ := hv
  rw [cellsTwo] at hs
  obtain ⟨n, hn⟩ := h
  obtain ⟨l⟩ := cs
  match l, hs with
  | [c0, c1], _ =>
    obtain ⟨ys, n', _, _, hlen, hys, hf⟩ := DataW.trod_array Try.underlying26 hn
    rw [show Try.prog.cellsOf 2 = 1 from by kernel_rfl] at hf
    match ys, hys with
    | [y0, y1], _ =>
      have h0 : DataW.trod enc0 Try.prog w 0 (fun _ => true) true n' 2 [c0] = some y0 := hf 0 (by omega)
      have h1 : DataW.trod enc0 Try.prog w 0 (fun _ => true) true n' 2 [c1] = some y1 := hf 1 (by omega)
      obtain ⟨a, e0, _, w0⟩ := DataW.trod_int Try.underlying2 h0
      obtain ⟨b, e1, _, w1⟩ := DataW.trod_int Try.underlying2 h1
      simp only [List.cons.injEq, and_true] at e0 e1
      subst e0 e1
      exact ⟨(a, b), rfl, bounds_i64 w0, bounds_i64 w1⟩
end
end Go.Proofs.Ytecgohdpdkpeoaa.Hop
