/- A packet that came in, the ranges of its numbers told (layer 11; layers 12, 13 likewise). -/
import Derived.Test.YtanfnhgaooafeaaGreatDoorHedX
namespace Go.Proofs.YtanfnhgaooafeaaGreatDoor.Pul
open Go.ChangeShapes Go.WideShapes Go.ChangeAt Go.RowKit Go.Deep
open Go.Proofs.YtanfnhgaooafeaaGreatDoor.Byt Go.Proofs.YtanfnhgaooafeaaGreatDoor.Key Go.Proofs.YtanfnhgaooafeaaGreatDoor.Buf Go.Proofs.YtanfnhgaooafeaaGreatDoor.Hed
set_option linter.unusedVariables false
set_option linter.unusedSimpArgs false
/-- What a packet's type holds, its numbers' ranges told. -/
structure Okx (w : World) (p : Pk) : Prop where
  ok : Ok w p
  no : -9223372036854775808 ≤ p.no ∧ p.no ≤ 9223372036854775807
  stamp : -9223372036854775808 ≤ p.stamp ∧ p.stamp ≤ 9223372036854775807
  value : -9223372036854775808 ≤ p.value ∧ p.value ≤ 9223372036854775807
section
variable {H : Type} {enc0 : TypeId × Value → H} {w : World}
set_option maxRecDepth 100000 in
theorem nums_trod {n : Nat} {cs : List Value} {x : DataW H × List MemPlace} (h : DataW.trod enc0 Tryz.prog w 0 (fun _ => true) true n 27 cs = some x) (p : Pk) (hp : cs = p.cells.toList) (hok : Ok w p) : Okx w p := by
  obtain ⟨ys, n', _, _, hlen, hys, hf⟩ := DataW.trod_struct Tryz.underlying27 h
  rw [cellsP] at hlen
  match cs, hlen, ys, hys with
  | [c0, c1, c2, c3, c4, c5, c6, c7, c8, c9, c10, c11], _, [y0, y1, y2, y3, y4, y5, y6, y7, y8, y9], _ =>
    have h3 : DataW.trod enc0 Tryz.prog w 0 (fun _ => true) true n' 2 (([c0, c1, c2, c3, c4, c5, c6, c7, c8, c9, c10, c11].drop 5).take (Tryz.prog.cellsOf 2)) = some y3 := hf 3 _ rfl
    rw [show Tryz.prog.cellsOf 2 = 1 from by kernel_rfl] at h3
    simp only [List.drop_succ_cons, List.drop_zero, List.take_succ_cons, List.take_zero] at h3
    have h7 : DataW.trod enc0 Tryz.prog w 0 (fun _ => true) true n' 2 (([c0, c1, c2, c3, c4, c5, c6, c7, c8, c9, c10, c11].drop 9).take (Tryz.prog.cellsOf 2)) = some y7 := hf 7 _ rfl
    rw [show Tryz.prog.cellsOf 2 = 1 from by kernel_rfl] at h7
    simp only [List.drop_succ_cons, List.drop_zero, List.take_succ_cons, List.take_zero] at h7
    have h8 : DataW.trod enc0 Tryz.prog w 0 (fun _ => true) true n' 2 (([c0, c1, c2, c3, c4, c5, c6, c7, c8, c9, c10, c11].drop 10).take (Tryz.prog.cellsOf 2)) = some y8 := hf 8 _ rfl
    rw [show Tryz.prog.cellsOf 2 = 1 from by kernel_rfl] at h8
    simp only [List.drop_succ_cons, List.drop_zero, List.take_succ_cons, List.take_zero] at h8
    obtain ⟨k3, e3, _, w3⟩ := DataW.trod_int Tryz.underlying2 h3
    obtain ⟨k7, e7, _, w7⟩ := DataW.trod_int Tryz.underlying2 h7
    obtain ⟨k8, e8, _, w8⟩ := DataW.trod_int Tryz.underlying2 h8
    unfold Pk.cells at hp
    simp only [List.cons.injEq, and_true] at hp e3 e7 e8
    obtain ⟨-, -, -, -, -, p5, -, -, -, p9, p10, -⟩ := hp
    rw [e3] at p5
    rw [e7] at p9
    rw [e8] at p10
    simp only [Value.int.injEq, true_and] at p5 p9 p10
    exact ⟨hok, p5 ▸ bounds_i64 w3, p9 ▸ bounds_i64 w7, p10 ▸ bounds_i64 w8⟩
set_option maxRecDepth 100000 in
theorem open_pkx {r : Reach} {b0 : Nat} {v : Value} {d : DataW H} {pl : List MemPlace} (hv : Value.okWide Tryz.prog w r b0 27 v) (h : DataW.Trod enc0 Tryz.prog w 0 (fun _ => true) true 27 v d pl) : ∃ p : Pk, v = pval p ∧ Okx w p := by
  obtain ⟨cs, rfl, hs⟩ := okWide_struct Tryz.underlying27 hv
  obtain ⟨n, hn⟩ := h
  obtain ⟨t, ht, hok⟩ := open_cells hn
  refine ⟨t, ?_, nums_trod hn t ht hok⟩
  unfold pval
  congr 1
  exact Array.toList_inj.1 ht
end
end Go.Proofs.YtanfnhgaooafeaaGreatDoor.Pul
