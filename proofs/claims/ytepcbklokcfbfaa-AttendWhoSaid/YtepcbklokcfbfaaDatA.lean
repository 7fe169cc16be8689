/- An append to a slice of no room (x[:0:0]) as one step (layer 10; for every layer whose copies come of three-index slices). -/
import Derived.Test.YtepcbklokcfbfaaBufH
namespace Go.Proofs.Ytepcbklokcfbfaa.Dat
open Go.ChangeShapes Go.WideShapes Go.ChangeAt Go.RowKit
open Go.Proofs.Ytepcbklokcfbfaa.Byt Go.Proofs.Ytepcbklokcfbfaa.Buf
set_option linter.unusedVariables false
set_option linter.unusedSimpArgs false
theorem three_step {W : World} {ops : Array Oper} {rest : List Oper} {o : Oper} {a : Act} {Q : Exit → Act → World → Prop} (hgd : o.guard = none) (s x : Operand)
    (ho : o.op = .call { callee := .builtin .append, args := #[s, x], argTypes := #[25, 25] })
    (b : Addr) (hs : a.eval s = .slice (some b) 0 0) (ad : Addr) (n c : Nat) (m : List UInt8) (hx : a.eval x = .slice (some ad) n c) (hn : n = m.length) (h0 : 0 < n) (hrd : RdB W (some ad) m) (hlen : n ≤ 140737488355328)
    (h : ∀ ad' cap' w1, OwnB w1 W.heap.size (.slice ad' n cap') m → Below W.heap.size W w1 → wpList Try.prog ops Q rest (a.put o.dst (.slice ad' n cap')) w1) :
    wpList Try.prog ops Q (o :: rest) a W := by
  obtain ⟨i0, hi, hz0, hz1, hz2⟩ := info_parts infoByte
  obtain ⟨v', w1, hrun, r1, r2⟩ := run_append_arg_grows (P := Try.prog) (w := W) 25 o.type 5 i0 (.int .u8 0) 1 1 Try.underlying25 hi hz0 hz1 hz2 rfl (by decide) b 0 0 [] (by simp) (by simp) ad n c (bvs m) (by rw [bvs_len, Nat.mul_one, hn]) (RdB.cells hrd ad rfl) (by omega) (by unfold maxLen; omega) (by omega)
  refine wpList_plain hgd fun K hK' => ?_
  have hr1 : OwnB w1 W.heap.size v' m := by
    unfold OwnB
    rw [← hn]
    simpa using r1
  obtain ⟨ad', cap', e, -⟩ := Own.shape hr1
  rw [← hn] at e
  subst e
  unfold Oper.wp
  simp [execOp, ho, resolve, invoke, builtin, hs, hx, hrun, Result.andThen]
  exact hK' _ _ (h ad' cap' w1 hr1 ⟨r2.os, r2.tape, r2.output, r2.size, fun k hk => r2.block k hk (by simp)⟩)
end Go.Proofs.Ytepcbklokcfbfaa.Dat
