/- A probe's trip that came in (layer 23's law). -/
import Derived.Test.YtecgohdpdkpeoaaHopA
import Derived.Test.YtecgohdpdkpeoaaIntK
import Derived.Deep.Slices
import Derived.Deep.Fields
import Derived.OpenShut
import Derived.Deep.WholeRow
namespace Go.Proofs.Ytecgohdpdkpeoaa.Rdg
open Go.ChangeShapes Go.WideShapes Go.ChangeAt Go.RowKit Go.Deep
set_option linter.unusedVariables false
set_option linter.unusedSimpArgs false
structure Tr where
  dmin : Int
  dmax : Int
  rho : Int
  slew : Int
  there : Int
  back : Int
  own : Option Addr
  ownL : Nat
  ownC : Nat
  ownS : List Int
  oth : Option Addr
  othL : Nat
  othC : Nat
  othS : List Int
  sent : Int
  val : Int
def trcells (a : Tr) : Array Value := #[.int .u8 a.dmin, .int .u8 a.dmax, .int .u8 a.rho, .int .u8 a.slew, .int .u8 a.there, .int .u8 a.back, .slice a.own a.ownL a.ownC, .slice a.oth a.othL a.othC, .int .u32 a.sent, .int .u32 a.val]
def trval (a : Tr) : Value := .agg (trcells a)
structure OkTr (w : World) (a : Tr) : Prop where
  dmin : (Lit.int .u8 a.dmin).wf = true
  dmax : (Lit.int .u8 a.dmax).wf = true
  rho : (Lit.int .u8 a.rho).wf = true
  slew : (Lit.int .u8 a.slew).wf = true
  there : (Lit.int .u8 a.there).wf = true
  back : (Lit.int .u8 a.back).wf = true
  own : IntK.RowK .i16 w a.own a.ownL a.ownC a.ownS
  oth : IntK.RowK .i16 w a.oth a.othL a.othC a.othS
  sent : (Lit.int .u32 a.sent).wf = true
  val : (Lit.int .u32 a.val).wf = true
section
variable {H : Type} {enc0 : TypeId × Value → H} {w : World}
theorem cellsTr : Try.prog.cellsOf 34 = 10 := by kernel_rfl
set_option maxRecDepth 100000 in
theorem open_tr {r : Reach} {b0 : Nat} {v : Value} {d : DataW H} {pl : List MemPlace} (hv : Value.okWide Try.prog w r b0 34 v) (h : DataW.Trod enc0 Try.prog w 0 (fun _ => true) true 34 v d pl) : ∃ a : Tr, v = trval a ∧ OkTr w a := by
  obtain ⟨cs, rfl, hs⟩ := okWide_struct Try.underlying34 hv
  obtain ⟨n, hn⟩ := h
  obtain ⟨ys, n', _, _, hlen, hys, hf⟩ := DataW.trod_struct Try.underlying34 hn
  rw [cellsTr] at hlen
  obtain ⟨cs⟩ := cs
  match cs, hlen, ys, hys with
  | [c0, c1, c2, c3, c4, c5, c6, c7, c8, c9], _, [y0, y1, y2, y3, y4, y5, y6, y7, y8, y9], _ =>
    have h0 : DataW.trod enc0 Try.prog w 0 (fun _ => true) true n' 5 (([c0, c1, c2, c3, c4, c5, c6, c7, c8, c9].drop 0).take (Try.prog.cellsOf 5)) = some y0 := hf 0 _ rfl
    rw [show Try.prog.cellsOf 5 = 1 from by kernel_rfl] at h0
    simp only [List.drop_succ_cons, List.drop_zero, List.take_succ_cons, List.take_zero] at h0
    have h1 : DataW.trod enc0 Try.prog w 0 (fun _ => true) true n' 5 (([c0, c1, c2, c3, c4, c5, c6, c7, c8, c9].drop 1).take (Try.prog.cellsOf 5)) = some y1 := hf 1 _ rfl
    rw [show Try.prog.cellsOf 5 = 1 from by kernel_rfl] at h1
    simp only [List.drop_succ_cons, List.drop_zero, List.take_succ_cons, List.take_zero] at h1
    have h2 : DataW.trod enc0 Try.prog w 0 (fun _ => true) true n' 5 (([c0, c1, c2, c3, c4, c5, c6, c7, c8, c9].drop 2).take (Try.prog.cellsOf 5)) = some y2 := hf 2 _ rfl
    rw [show Try.prog.cellsOf 5 = 1 from by kernel_rfl] at h2
    simp only [List.drop_succ_cons, List.drop_zero, List.take_succ_cons, List.take_zero] at h2
    have h3 : DataW.trod enc0 Try.prog w 0 (fun _ => true) true n' 5 (([c0, c1, c2, c3, c4, c5, c6, c7, c8, c9].drop 3).take (Try.prog.cellsOf 5)) = some y3 := hf 3 _ rfl
    rw [show Try.prog.cellsOf 5 = 1 from by kernel_rfl] at h3
    simp only [List.drop_succ_cons, List.drop_zero, List.take_succ_cons, List.take_zero] at h3
    have h4 : DataW.trod enc0 Try.prog w 0 (fun _ => true) true n' 5 (([c0, c1, c2, c3, c4, c5, c6, c7, c8, c9].drop 4).take (Try.prog.cellsOf 5)) = some y4 := hf 4 _ rfl
    rw [show Try.prog.cellsOf 5 = 1 from by kernel_rfl] at h4
    simp only [List.drop_succ_cons, List.drop_zero, List.take_succ_cons, List.take_zero] at h4
    have h5 : DataW.trod enc0 Try.prog w 0 (fun _ => true) true n' 5 (([c0, c1, c2, c3, c4, c5, c6, c7, c8, c9].drop 5).take (Try.prog.cellsOf 5)) = some y5 := hf 5 _ rfl
    rw [show Try.prog.cellsOf 5 = 1 from by kernel_rfl] at h5
    simp only [List.drop_succ_cons, List.drop_zero, List.take_succ_cons, List.take_zero] at h5
    have h6 : DataW.trod enc0 Try.prog w 0 (fun _ => true) true n' 31 (([c0, c1, c2, c3, c4, c5, c6, c7, c8, c9].drop 6).take (Try.prog.cellsOf 31)) = some y6 := hf 6 _ rfl
    rw [show Try.prog.cellsOf 31 = 1 from by kernel_rfl] at h6
    simp only [List.drop_succ_cons, List.drop_zero, List.take_succ_cons, List.take_zero] at h6
    have h7 : DataW.trod enc0 Try.prog w 0 (fun _ => true) true n' 31 (([c0, c1, c2, c3, c4, c5, c6, c7, c8, c9].drop 7).take (Try.prog.cellsOf 31)) = some y7 := hf 7 _ rfl
    rw [show Try.prog.cellsOf 31 = 1 from by kernel_rfl] at h7
    simp only [List.drop_succ_cons, List.drop_zero, List.take_succ_cons, List.take_zero] at h7
    have h8 : DataW.trod enc0 Try.prog w 0 (fun _ => true) true n' 32 (([c0, c1, c2, c3, c4, c5, c6, c7, c8, c9].drop 8).take (Try.prog.cellsOf 32)) = some y8 := hf 8 _ rfl
    rw [show Try.prog.cellsOf 32 = 1 from by kernel_rfl] at h8
    simp only [List.drop_succ_cons, List.drop_zero, List.take_succ_cons, List.take_zero] at h8
    have h9 : DataW.trod enc0 Try.prog w 0 (fun _ => true) true n' 32 (([c0, c1, c2, c3, c4, c5, c6, c7, c8, c9].drop 9).take (Try.prog.cellsOf 32)) = some y9 := hf 9 _ rfl
    rw [show Try.prog.cellsOf 32 = 1 from by kernel_rfl] at h9
    simp only [List.drop_succ_cons, List.drop_zero, List.take_succ_cons, List.take_zero] at h9
    obtain ⟨x0, e0, _, o0⟩ := DataW.trod_int Try.underlying5 h0
    simp only [List.cons.injEq, and_true] at e0
    subst e0
    obtain ⟨x1, e1, _, o1⟩ := DataW.trod_int Try.underlying5 h1
    simp only [List.cons.injEq, and_true] at e1
    subst e1
    obtain ⟨x2, e2, _, o2⟩ := DataW.trod_int Try.underlying5 h2
    simp only [List.cons.injEq, and_true] at e2
    subst e2
    obtain ⟨x3, e3, _, o3⟩ := DataW.trod_int Try.underlying5 h3
    simp only [List.cons.injEq, and_true] at e3
    subst e3
    obtain ⟨x4, e4, _, o4⟩ := DataW.trod_int Try.underlying5 h4
    simp only [List.cons.injEq, and_true] at e4
    subst e4
    obtain ⟨x5, e5, _, o5⟩ := DataW.trod_int Try.underlying5 h5
    simp only [List.cons.injEq, and_true] at e5
    subst e5
    have s6 : ∃ (a : Option Addr) (len cap : Nat) (zs : List Int), c6 = .slice a len cap ∧ IntK.RowK .i16 w a len cap zs := by
      rcases open_ints Try.underlying31 Try.underlying49 (by kernel_rfl) h6 with ⟨hcs, _⟩ | ⟨x, l, c, zs, hcs, _, hl, hm, hz, _, hcell, hwz⟩
      · exact ⟨none, 0, 0, [], by simpa using hcs, .inl ⟨rfl, rfl, rfl, rfl⟩⟩
      · exact ⟨some x, l, c, zs, by simpa using hcs, .inr ⟨x, rfl, hl, hm, by simpa using hz, hcell, hwz⟩⟩
    obtain ⟨x6, l6, q6, z6, rfl, o6⟩ := s6
    have s7 : ∃ (a : Option Addr) (len cap : Nat) (zs : List Int), c7 = .slice a len cap ∧ IntK.RowK .i16 w a len cap zs := by
      rcases open_ints Try.underlying31 Try.underlying49 (by kernel_rfl) h7 with ⟨hcs, _⟩ | ⟨x, l, c, zs, hcs, _, hl, hm, hz, _, hcell, hwz⟩
      · exact ⟨none, 0, 0, [], by simpa using hcs, .inl ⟨rfl, rfl, rfl, rfl⟩⟩
      · exact ⟨some x, l, c, zs, by simpa using hcs, .inr ⟨x, rfl, hl, hm, by simpa using hz, hcell, hwz⟩⟩
    obtain ⟨x7, l7, q7, z7, rfl, o7⟩ := s7
    obtain ⟨x8, e8, _, o8⟩ := DataW.trod_int Try.underlying32 h8
    simp only [List.cons.injEq, and_true] at e8
    subst e8
    obtain ⟨x9, e9, _, o9⟩ := DataW.trod_int Try.underlying32 h9
    simp only [List.cons.injEq, and_true] at e9
    subst e9
    exact ⟨⟨x0, x1, x2, x3, x4, x5, x6, l6, q6, z6, x7, l7, q7, z7, x8, x9⟩, rfl, ⟨o0, o1, o2, o3, o4, o5, o6, o7, o8, o9⟩⟩
end
/-- Its box. -/
theorem tr_box (w w0 : World) (a : Tr) (h : w0 = w.alloc (.cells #[.int .u8 a.dmin, .int .u8 a.dmax, .int .u8 a.rho, .int .u8 a.slew, .int .u8 a.there, .int .u8 a.back, .slice a.own a.ownL a.ownC, .slice a.oth a.othL a.othC, .int .u32 a.sent, .int .u32 a.val] 34)) :
    Below w.heap.size w w0 ∧ ∀ W, Below w0.heap.size w0 W → W.cell? ⟨w.heap.size, 0, none⟩ = some (.int .u8 a.dmin) ∧ W.cell? ⟨w.heap.size, 1, none⟩ = some (.int .u8 a.dmax) ∧ W.cell? ⟨w.heap.size, 2, none⟩ = some (.int .u8 a.rho) ∧ W.cell? ⟨w.heap.size, 3, none⟩ = some (.int .u8 a.slew) ∧ W.cell? ⟨w.heap.size, 4, none⟩ = some (.int .u8 a.there) ∧ W.cell? ⟨w.heap.size, 5, none⟩ = some (.int .u8 a.back) ∧ W.cell? ⟨w.heap.size, 6, none⟩ = some (.slice a.own a.ownL a.ownC) ∧ W.cell? ⟨w.heap.size, 7, none⟩ = some (.slice a.oth a.othL a.othC) ∧ W.cell? ⟨w.heap.size, 8, none⟩ = some (.int .u32 a.sent) ∧ W.cell? ⟨w.heap.size, 9, none⟩ = some (.int .u32 a.val) := by
  subst h
  refine ⟨(Below.refl _ _).alloc (Nat.le_refl _) _, fun W hB => ?_⟩
  have hs : w.heap.size < (w.alloc (.cells #[.int .u8 a.dmin, .int .u8 a.dmax, .int .u8 a.rho, .int .u8 a.slew, .int .u8 a.there, .int .u8 a.back, .slice a.own a.ownL a.ownC, .slice a.oth a.othL a.othC, .int .u32 a.sent, .int .u32 a.val] 34)).heap.size := by rw [World.size_alloc]; omega
  have hb := (hB.block w.heap.size hs).trans (heap_alloc_last w _)
  exact ⟨by rw [cell_of_row W _ 0 _ _ _ hb]; rfl, by rw [cell_of_row W _ 1 _ _ _ hb]; rfl, by rw [cell_of_row W _ 2 _ _ _ hb]; rfl, by rw [cell_of_row W _ 3 _ _ _ hb]; rfl, by rw [cell_of_row W _ 4 _ _ _ hb]; rfl, by rw [cell_of_row W _ 5 _ _ _ hb]; rfl, by rw [cell_of_row W _ 6 _ _ _ hb]; rfl, by rw [cell_of_row W _ 7 _ _ _ hb]; rfl, by rw [cell_of_row W _ 8 _ _ _ hb]; rfl, by rw [cell_of_row W _ 9 _ _ _ hb]; rfl⟩
end Go.Proofs.Ytecgohdpdkpeoaa.Rdg
