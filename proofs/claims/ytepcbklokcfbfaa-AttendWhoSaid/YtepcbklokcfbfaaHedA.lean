/- A packet (layer 9): its twelve cells; a packet that came in, opened. -/
import Derived.Test.YtepcbklokcfbfaaBufA
import Derived.Test.YtepcbklokcfbfaaBytA
import Derived.Test.YtepcbklokcfbfaaKeyE
import Derived.Deep.Slices
import Derived.Deep.Fields
import Derived.OpenShut
namespace Go.Proofs.Ytepcbklokcfbfaa.Hed
open Go.ChangeShapes Go.WideShapes Go.ChangeAt Go.RowKit Go.Deep
open Go.Proofs.Ytepcbklokcfbfaa.Byt Go.Proofs.Ytepcbklokcfbfaa.Key
set_option linter.unusedVariables false
set_option linter.unusedSimpArgs false
/-- A packet: its numbers, its key, where its body lies, its body. -/
structure Pk where
  kind : Int
  key : Ky
  hops : Int
  no : Int
  to : Int
  index : Int
  total : Int
  stamp : Int
  value : Int
  ad : Option Addr
  cap : Nat
  body : List UInt8
def Pk.cells (p : Pk) : Array Value := #[.int .i64 p.kind, .int .i64 p.key.1, .int .i64 p.key.2.1, .int .u32 p.key.2.2, .int .i64 p.hops, .int .i64 p.no, .int .i64 p.to, .int .i64 p.index, .int .i64 p.total, .int .i64 p.stamp, .int .i64 p.value, .slice p.ad p.body.length p.cap]
def pval (p : Pk) : Value := .agg p.cells
/-- What a packet's type holds, its body lying in the world. -/
structure Ok (w : World) (p : Pk) : Prop where
  kind : -9223372036854775808 ≤ p.kind ∧ p.kind ≤ 9223372036854775807
  key : Key.ok p.key
  hops : -9223372036854775808 ≤ p.hops ∧ p.hops ≤ 9223372036854775807
  rd : RdB w p.ad p.body
  nil : p.ad = none → p.cap = 0
  le : p.body.length ≤ p.cap
  max : p.cap ≤ 9223372036854775807
  form : p.body.length = 0 ∨ ∃ b off, p.ad = some ⟨b, off, none⟩
theorem Ok.below {w w' : World} {p : Pk} (h : Ok w p) (hb : Below w.heap.size w w') : Ok w' p := ⟨h.kind, h.key, h.hops, h.rd.below hb, h.nil, h.le, h.max, h.form⟩
theorem cellsP : Try.prog.cellsOf 27 = 12 := by kernel_rfl
section
variable {H : Type} {enc0 : TypeId × Value → H} {w : World}
theorem cellsK : Try.prog.cellsOf 24 = 3 := by kernel_rfl
set_option maxRecDepth 100000 in
theorem open_kcells {n : Nat} {cs : List Value} {x : DataW H × List MemPlace} (h : DataW.trod enc0 Try.prog w 0 (fun _ => true) true n 24 cs = some x) : ∃ t : Ky, cs = Key.enc t ∧ Key.ok t := by
  obtain ⟨ys, n', _, _, hlen, hys, hf⟩ := DataW.trod_struct Try.underlying24 h
  rw [cellsK] at hlen
  match cs, hlen, ys, hys with
  | [c0, c1, c2], _, [y0, y1, y2], _ =>
    have h0 : DataW.trod enc0 Try.prog w 0 (fun _ => true) true n' 2 (([c0, c1, c2].drop 0).take (Try.prog.cellsOf 2)) = some y0 := hf 0 _ rfl
    rw [show Try.prog.cellsOf 2 = 1 from by kernel_rfl] at h0
    simp only [List.drop_zero, List.take_succ_cons, List.take_zero] at h0
    have h1 : DataW.trod enc0 Try.prog w 0 (fun _ => true) true n' 3 (([c0, c1, c2].drop 1).take (Try.prog.cellsOf 3)) = some y1 := hf 1 _ rfl
    rw [show Try.prog.cellsOf 3 = 1 from by kernel_rfl] at h1
    simp only [List.drop_succ_cons, List.drop_zero, List.take_succ_cons, List.take_zero] at h1
    have h2 : DataW.trod enc0 Try.prog w 0 (fun _ => true) true n' 22 (([c0, c1, c2].drop 2).take (Try.prog.cellsOf 22)) = some y2 := hf 2 _ rfl
    rw [show Try.prog.cellsOf 22 = 1 from by kernel_rfl] at h2
    simp only [List.drop_succ_cons, List.drop_zero, List.take_succ_cons, List.take_zero] at h2
    obtain ⟨a, e0, _, w0⟩ := DataW.trod_int Try.underlying2 h0
    obtain ⟨b, e1, _, w1⟩ := DataW.trod_int Try.underlying3 h1
    obtain ⟨c, e2, _, w2⟩ := DataW.trod_int Try.underlying22 h2
    obtain ⟨k0, k1⟩ := bounds_i64 w0
    obtain ⟨x0, x1⟩ := bounds_i64 w1
    obtain ⟨m0, m1⟩ := bounds_u32 w2
    refine ⟨(a, b, c), ?_, ⟨k0, k1⟩, ⟨x0, x1⟩, m0, by simp only; omega⟩
    simp only [List.cons.injEq, and_true] at e0 e1 e2
    rw [e0, e1, e2]
    rfl

set_option maxRecDepth 100000 in
theorem open_cells {n : Nat} {cs : List Value} {x : DataW H × List MemPlace} (h : DataW.trod enc0 Try.prog w 0 (fun _ => true) true n 27 cs = some x) : ∃ p : Pk, cs = p.cells.toList ∧ Ok w p := by
  obtain ⟨ys, n', _, _, hlen, hys, hf⟩ := DataW.trod_struct Try.underlying27 h
  rw [cellsP] at hlen
  match cs, hlen, ys, hys with
  | [c0, c1, c2, c3, c4, c5, c6, c7, c8, c9, c10, c11], _, [y0, y1, y2, y3, y4, y5, y6, y7, y8, y9], _ =>
    have h0 : DataW.trod enc0 Try.prog w 0 (fun _ => true) true n' 3 (([c0, c1, c2, c3, c4, c5, c6, c7, c8, c9, c10, c11].drop 0).take (Try.prog.cellsOf 3)) = some y0 := hf 0 _ rfl
    rw [show Try.prog.cellsOf 3 = 1 from by kernel_rfl] at h0
    simp only [List.drop_succ_cons, List.drop_zero, List.take_succ_cons, List.take_zero] at h0
    have h1 : DataW.trod enc0 Try.prog w 0 (fun _ => true) true n' 24 (([c0, c1, c2, c3, c4, c5, c6, c7, c8, c9, c10, c11].drop 1).take (Try.prog.cellsOf 24)) = some y1 := hf 1 _ rfl
    rw [show Try.prog.cellsOf 24 = 3 from by kernel_rfl] at h1
    simp only [List.drop_succ_cons, List.drop_zero, List.take_succ_cons, List.take_zero] at h1
    have h2 : DataW.trod enc0 Try.prog w 0 (fun _ => true) true n' 3 (([c0, c1, c2, c3, c4, c5, c6, c7, c8, c9, c10, c11].drop 4).take (Try.prog.cellsOf 3)) = some y2 := hf 2 _ rfl
    rw [show Try.prog.cellsOf 3 = 1 from by kernel_rfl] at h2
    simp only [List.drop_succ_cons, List.drop_zero, List.take_succ_cons, List.take_zero] at h2
    have h3 : DataW.trod enc0 Try.prog w 0 (fun _ => true) true n' 2 (([c0, c1, c2, c3, c4, c5, c6, c7, c8, c9, c10, c11].drop 5).take (Try.prog.cellsOf 2)) = some y3 := hf 3 _ rfl
    rw [show Try.prog.cellsOf 2 = 1 from by kernel_rfl] at h3
    simp only [List.drop_succ_cons, List.drop_zero, List.take_succ_cons, List.take_zero] at h3
    have h4 : DataW.trod enc0 Try.prog w 0 (fun _ => true) true n' 3 (([c0, c1, c2, c3, c4, c5, c6, c7, c8, c9, c10, c11].drop 6).take (Try.prog.cellsOf 3)) = some y4 := hf 4 _ rfl
    rw [show Try.prog.cellsOf 3 = 1 from by kernel_rfl] at h4
    simp only [List.drop_succ_cons, List.drop_zero, List.take_succ_cons, List.take_zero] at h4
    have h5 : DataW.trod enc0 Try.prog w 0 (fun _ => true) true n' 3 (([c0, c1, c2, c3, c4, c5, c6, c7, c8, c9, c10, c11].drop 7).take (Try.prog.cellsOf 3)) = some y5 := hf 5 _ rfl
    rw [show Try.prog.cellsOf 3 = 1 from by kernel_rfl] at h5
    simp only [List.drop_succ_cons, List.drop_zero, List.take_succ_cons, List.take_zero] at h5
    have h6 : DataW.trod enc0 Try.prog w 0 (fun _ => true) true n' 3 (([c0, c1, c2, c3, c4, c5, c6, c7, c8, c9, c10, c11].drop 8).take (Try.prog.cellsOf 3)) = some y6 := hf 6 _ rfl
    rw [show Try.prog.cellsOf 3 = 1 from by kernel_rfl] at h6
    simp only [List.drop_succ_cons, List.drop_zero, List.take_succ_cons, List.take_zero] at h6
    have h7 : DataW.trod enc0 Try.prog w 0 (fun _ => true) true n' 2 (([c0, c1, c2, c3, c4, c5, c6, c7, c8, c9, c10, c11].drop 9).take (Try.prog.cellsOf 2)) = some y7 := hf 7 _ rfl
    rw [show Try.prog.cellsOf 2 = 1 from by kernel_rfl] at h7
    simp only [List.drop_succ_cons, List.drop_zero, List.take_succ_cons, List.take_zero] at h7
    have h8 : DataW.trod enc0 Try.prog w 0 (fun _ => true) true n' 2 (([c0, c1, c2, c3, c4, c5, c6, c7, c8, c9, c10, c11].drop 10).take (Try.prog.cellsOf 2)) = some y8 := hf 8 _ rfl
    rw [show Try.prog.cellsOf 2 = 1 from by kernel_rfl] at h8
    simp only [List.drop_succ_cons, List.drop_zero, List.take_succ_cons, List.take_zero] at h8
    have h9 : DataW.trod enc0 Try.prog w 0 (fun _ => true) true n' 25 (([c0, c1, c2, c3, c4, c5, c6, c7, c8, c9, c10, c11].drop 11).take (Try.prog.cellsOf 25)) = some y9 := hf 9 _ rfl
    rw [show Try.prog.cellsOf 25 = 1 from by kernel_rfl] at h9
    simp only [List.drop_succ_cons, List.drop_zero, List.take_succ_cons, List.take_zero] at h9
    obtain ⟨k0, e0, _, w0⟩ := DataW.trod_int Try.underlying3 h0
    obtain ⟨k1, e1, w1⟩ := open_kcells h1
    obtain ⟨k2, e2, _, w2⟩ := DataW.trod_int Try.underlying3 h2
    obtain ⟨k3, e3, _, w3⟩ := DataW.trod_int Try.underlying2 h3
    obtain ⟨k4, e4, _, w4⟩ := DataW.trod_int Try.underlying3 h4
    obtain ⟨k5, e5, _, w5⟩ := DataW.trod_int Try.underlying3 h5
    obtain ⟨k6, e6, _, w6⟩ := DataW.trod_int Try.underlying3 h6
    obtain ⟨k7, e7, _, w7⟩ := DataW.trod_int Try.underlying2 h7
    obtain ⟨k8, e8, _, w8⟩ := DataW.trod_int Try.underlying2 h8
    have hsl : ∃ (a : Option Addr) (len cap : Nat) (zs : List Int), c11 = .slice a len cap ∧ ((a = none ∧ len = 0 ∧ cap = 0 ∧ zs = []) ∨ ∃ x, a = some x ∧ len ≤ cap ∧ cap ≤ maxLen ∧ zs.length = cap ∧ (∀ i, i < zs.length → w.cell? (x.add i) = some (.int .u8 (zs.getD i 0))) ∧ ∀ n ∈ zs, (Lit.int .u8 n).wf = true) := by
      rcases open_ints Try.underlying25 Try.underlying5 (by kernel_rfl) h9 with ⟨hcs, _⟩ | ⟨x, l, c, zs, hcs, _, hl, hm, hz, _, hcell, hwz⟩
      · exact ⟨none, 0, 0, [], by simpa using hcs, .inl ⟨rfl, rfl, rfl, rfl⟩⟩
      · exact ⟨some x, l, c, zs, by simpa using hcs, .inr ⟨x, rfl, hl, hm, by simpa using hz, hcell, hwz⟩⟩
    obtain ⟨a, len, cap, zs, e9, hz⟩ := hsl
    obtain ⟨bd, hb1, hb2, hb3, hb4, hb5, hb6⟩ := rd_of_row hz
    have hb2 := hb2.out
    refine ⟨⟨k0, k1, k2, k3, k4, k5, k6, k7, k8, a, cap, bd⟩, ?_, ⟨bounds_i64 w0, w1, bounds_i64 w2, hb1.out, hb5.out, by simp only; omega, hb4, by simp only; rw [hb2]; exact hb6⟩⟩
    unfold Key.enc at e1
    simp only [List.cons.injEq, and_true] at e0 e1 e2 e3 e4 e5 e6 e7 e8
    obtain ⟨e1, e1', e1''⟩ := e1
    rw [e0, e1, e1', e1'', e2, e3, e4, e5, e6, e7, e8, e9, ← hb2]
    rfl
set_option maxRecDepth 100000 in
theorem open_pk {r : Reach} {b0 : Nat} {v : Value} {d : DataW H} {pl : List MemPlace} (hv : Value.okWide Try.prog w r b0 27 v) (h : DataW.Trod enc0 Try.prog w 0 (fun _ => true) true 27 v d pl) : ∃ p : Pk, v = pval p ∧ Ok w p := by
  obtain ⟨cs, rfl, hs⟩ := okWide_struct Try.underlying27 hv
  obtain ⟨n, hn⟩ := h
  obtain ⟨t, ht, hok⟩ := open_cells hn
  refine ⟨t, ?_, hok⟩
  unfold pval
  congr 1
  exact Array.toList_inj.1 ht
end
end Go.Proofs.Ytepcbklokcfbfaa.Hed
