/- How much a packet's body weighs that came in (layer 9). -/
import Derived.Test.YtepcbklokcfbfaaHedA
import Derived.SizedLaws
namespace Go.Proofs.Ytepcbklokcfbfaa.Hed
open Go.ChangeShapes Go.WideShapes Go.ChangeAt Go.RowKit Go.Deep
open Go.Proofs.Ytepcbklokcfbfaa.Byt Go.Proofs.Ytepcbklokcfbfaa.Key
set_option linter.unusedVariables false
set_option linter.unusedSimpArgs false
section
variable {H : Type} {enc0 : TypeId × Value → H} {w : World}
theorem sized_at {P : Program} {ts : List TypeId} {ds : List (DataW H)} (h : (DataW.weightsEach P ts ds).all (· ≤ reachBytes) = true) {j : Nat} {t : TypeId} {d : DataW H} (ht : ts[j]? = some t) (hd : ds[j]? = some d) : (d.weights P t).all (· ≤ reachBytes) = true :=
  List.all_eq_true.2 fun x hx => List.all_eq_true.1 h _ (DataW.weights_mem_each ht hd x hx)
theorem bytes1 : Try.prog.bytesOf 5 = 1 := by kernel_rfl
set_option maxRecDepth 100000 in
theorem cap_sized {p : Pk} {d : DataW H} {pl : List MemPlace} (h : DataW.Trod enc0 Try.prog w 0 (fun _ => true) true 27 (pval p) d pl) (hs : (d.weights Try.prog 27).all (· ≤ reachBytes) = true) : p.cap ≤ 140737488351232 := by
  obtain ⟨n, hn⟩ := h
  obtain ⟨ys, n', _, hx, hlen, hys, hf⟩ := DataW.trod_struct Try.underlying27 hn
  match ys, hys with
  | [y0, y1, y2, y3, y4, y5, y6, y7, y8, y9], _ =>
    have h9 : DataW.trod enc0 Try.prog w 0 (fun _ => true) true n' 25 (([.int .i64 p.kind, .int .i64 p.key.1, .int .i64 p.key.2.1, .int .u32 p.key.2.2, .int .i64 p.hops, .int .i64 p.no, .int .i64 p.to, .int .i64 p.index, .int .i64 p.total, .int .i64 p.stamp, .int .i64 p.value, .slice p.ad p.body.length p.cap].drop 11).take (Try.prog.cellsOf 25)) = some y9 := hf 9 _ rfl
    rw [show Try.prog.cellsOf 25 = 1 from by kernel_rfl] at h9
    simp only [List.drop_succ_cons, List.drop_zero, List.take_succ_cons, List.take_zero] at h9
    rcases open_ints Try.underlying25 Try.underlying5 (by kernel_rfl) h9 with ⟨hcs, _⟩ | ⟨a, l, c, zs, hcs, _, hl, hm, hz, hy, _⟩
    · simp at hcs
      omega
    · simp only [List.cons.injEq, Value.slice.injEq, and_true] at hcs
      obtain ⟨_, rfl, rfl⟩ := hcs
      simp only [if_true] at hz
      simp only [Prod.mk.injEq] at hx
      rw [hx.1] at hs
      have hs' := List.all_eq_true.1 hs p.cap (by
        simp only [List.map_cons, List.map_nil, DataW.weights, Try.underlying27, DataW.weightsEach, hy, Try.underlying25, bytes1]
        simp [lits, hz]
        omega)
      simp only [reachBytes, decide_eq_true_eq] at hs'
      exact of_decide_eq_true hs'
end
end Go.Proofs.Ytepcbklokcfbfaa.Hed
