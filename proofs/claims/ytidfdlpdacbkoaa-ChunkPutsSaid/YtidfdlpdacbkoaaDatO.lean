/- append(s, x...) of bytes as one step of a region that draws its order (for every layer with []byte). -/
import Derived.Test.YtidfdlpdacbkoaaDatM
namespace Go.Proofs.Ytidfdlpdacbkoaa.Dat
open Go.ChangeShapes Go.WideShapes Go.ChangeAt Go.RowKit
open Go.Proofs.Ytidfdlpdacbkoaa.Byt Go.Proofs.Ytidfdlpdacbkoaa.Buf
set_option linter.unusedVariables false
set_option linter.unusedSimpArgs false
theorem step_app2 {ops : Array Oper} {o : Oper} {a : Act} {K : Act → World → Prop} {Q : Exit → Act → World → Prop} {E : Prop} {W : World} (hgd : o.guard = none) (s x : Operand)
    (ho : o.op = .call { callee := .builtin .append, args := #[s, x], argTypes := #[25, 25] })
    (B : Nat) (v : Value) (l : List UInt8) (hs : a.eval s = v) (hown : OwnB W B v l) (ad : Option Addr) (n c : Nat) (m : List UInt8) (hx : a.eval x = .slice ad n c) (hn : n = m.length) (hrd : RdB W ad m) (hnil : ad = none → c = 0) (hlen : l.length + n ≤ 1000000) (hB : B ≤ W.heap.size)
    (h : ∀ ad' cap' w1, OwnB w1 B (.slice ad' (l ++ m).length cap') (l ++ m) → Below B W w1 → K (a.put o.dst (.slice ad' (l ++ m).length cap')) w1) :
    if Region.wanted o (yielded ops a.tmps) = true then Oper.wp Try.prog o a W K Q else E := by
  have hw : Region.wanted o (yielded ops a.tmps) = true := by simp [Region.wanted, hgd]
  rw [if_pos hw]
  obtain ⟨i0, hi, hz0, hz1, hz2⟩ := info_parts infoByte
  have hown' := hown
  unfold OwnB at hown'
  cases ad with
  | none =>
    obtain ⟨rfl, rfl⟩ := nil_none hn.symm hrd hnil rfl
    obtain rfl : m = [] := List.eq_nil_of_length_eq_zero hn.symm
    have hrun := run_append_owned_none (P := Try.prog) W B 25 o.type 5 i0 1 Try.underlying25 hi v l.length (bvs l) hown'
    obtain ⟨ad', cap', e, -⟩ := Own.shape hown'
    subst e
    unfold Oper.wp
    simp [execOp, ho, resolve, invoke, builtin, hs, hx, hrun, Result.andThen]
    have := h ad' cap' W
    rw [List.append_nil] at this
    exact this hown (Below.refl _ _)
  | some adr =>
    obtain ⟨v', w1, hrun, r1, r2, -, -⟩ := Own.run_append2 (P := Try.prog) (w := W) (base := B) (e := 5) (size := 1) 25 o.type i0 (.int .u8 0) 1 Try.underlying25 hi hz0 hz1 hz2 rfl (by decide) v l.length (bvs l) hown' adr n c (bvs m) (by rw [bvs_len, Nat.mul_one, hn]) (RdB.cells hrd adr rfl) (bvs_oneCell _) (by unfold maxLen; omega) (by omega) hB
    have ho1 : OwnB w1 B v' (l ++ m) := by
      unfold OwnB
      rw [bvs_append, List.length_append, ← hn]
      exact r1
    obtain ⟨ad', cap', e, -⟩ := Own.shape ho1
    rw [List.length_append, ← hn] at e
    subst e
    unfold Oper.wp
    simp [execOp, ho, resolve, invoke, builtin, hs, hx, hrun, Result.andThen]
    have := h ad' cap' w1 (by rw [List.length_append, ← hn]; exact ho1) ((Below.refl _ _).grown r2 hB fun k e => (own_at hown e).1)
    rw [List.length_append, ← hn] at this
    exact this
end Go.Proofs.Ytidfdlpdacbkoaa.Dat
