/- By how much readings and clocks are wrong, as it came in (layer 27's laws). -/
import Derived.Test.YtkcjllkhmncfdaaDoorLstA
import Derived.Test.YtkcjllkhmncfdaaDoorIntK
import Derived.Test.YtkcjllkhmncfdaaDoorI64A
import Derived.Deep.Slices
import Derived.Deep.Fields
import Derived.OpenShut
import Derived.Deep.WholeRow
namespace Go.Proofs.YtkcjllkhmncfdaaDoor.Mnd
open Go.ChangeShapes Go.WideShapes Go.ChangeAt Go.RowKit Go.Deep
set_option linter.unusedVariables false
set_option linter.unusedSimpArgs false
structure Wr where
  e : Int
  d : Int
  er : Option Addr
  erL : Nat
  erC : Nat
  erR : List Lst.Ro
  dr : Option Addr
  drL : Nat
  drC : Nat
  drS : List Int
def wrcells (a : Wr) : Array Value := #[.int .u16 a.e, .int .u16 a.d, .slice a.er a.erL a.erC, .slice a.dr a.drL a.drC]
def wrval (a : Wr) : Value := .agg (wrcells a)
structure OkWr (w : World) (a : Wr) : Prop where
  e : (Lit.int .u16 a.e).wf = true
  d : (Lit.int .u16 a.d).wf = true
  er : Lst.Ros .i32 w a.er a.erL a.erC a.erR
  dr : IntK.RowK .i32 w a.dr a.drL a.drC a.drS
section
variable {H : Type} {enc0 : TypeId × Value → H} {w : World}
theorem cellsWr : Tryd.prog.cellsOf 26 = 4 := by kernel_rfl
set_option maxRecDepth 100000 in
theorem open_wr {r : Reach} {b0 : Nat} {v : Value} {d : DataW H} {pl : List MemPlace} (hv : Value.okWide Tryd.prog w r b0 26 v) (h : DataW.Trod enc0 Tryd.prog w 0 (fun _ => true) true 26 v d pl) : ∃ a : Wr, v = wrval a ∧ OkWr w a := by
  obtain ⟨cs, rfl, hs⟩ := okWide_struct Tryd.underlying26 hv
  obtain ⟨n, hn⟩ := h
  obtain ⟨ys, n', _, _, hlen, hys, hf⟩ := DataW.trod_struct Tryd.underlying26 hn
  rw [cellsWr] at hlen
  obtain ⟨cs⟩ := cs
  match cs, hlen, ys, hys with
  | [c0, c1, c2, c3], _, [y0, y1, y2, y3], _ =>
    have h0 : DataW.trod enc0 Tryd.prog w 0 (fun _ => true) true n' 23 (([c0, c1, c2, c3].drop 0).take (Tryd.prog.cellsOf 23)) = some y0 := hf 0 _ rfl
    rw [show Tryd.prog.cellsOf 23 = 1 from by kernel_rfl] at h0
    simp only [List.drop_succ_cons, List.drop_zero, List.take_succ_cons, List.take_zero] at h0
    have h1 : DataW.trod enc0 Tryd.prog w 0 (fun _ => true) true n' 23 (([c0, c1, c2, c3].drop 1).take (Tryd.prog.cellsOf 23)) = some y1 := hf 1 _ rfl
    rw [show Tryd.prog.cellsOf 23 = 1 from by kernel_rfl] at h1
    simp only [List.drop_succ_cons, List.drop_zero, List.take_succ_cons, List.take_zero] at h1
    have h2 : DataW.trod enc0 Tryd.prog w 0 (fun _ => true) true n' 24 (([c0, c1, c2, c3].drop 2).take (Tryd.prog.cellsOf 24)) = some y2 := hf 2 _ rfl
    rw [show Tryd.prog.cellsOf 24 = 1 from by kernel_rfl] at h2
    simp only [List.drop_succ_cons, List.drop_zero, List.take_succ_cons, List.take_zero] at h2
    have h3 : DataW.trod enc0 Tryd.prog w 0 (fun _ => true) true n' 22 (([c0, c1, c2, c3].drop 3).take (Tryd.prog.cellsOf 22)) = some y3 := hf 3 _ rfl
    rw [show Tryd.prog.cellsOf 22 = 1 from by kernel_rfl] at h3
    simp only [List.drop_succ_cons, List.drop_zero, List.take_succ_cons, List.take_zero] at h3
    obtain ⟨x0, e0, _, o0⟩ := DataW.trod_int Tryd.underlying23 h0
    simp only [List.cons.injEq, and_true] at e0
    subst e0
    obtain ⟨x1, e1, _, o1⟩ := DataW.trod_int Tryd.underlying23 h1
    simp only [List.cons.injEq, and_true] at e1
    subst e1
    have s2 : ∃ (a : Option Addr) (len cap : Nat) (rs : List Lst.Ro), c2 = .slice a len cap ∧ Lst.Ros .i32 w a len cap rs := by
      obtain ⟨a, len, cap, rfl⟩ : ∃ a len cap, c2 = .slice a len cap := by
        rcases open_slice Tryd.underlying24 h2 with ⟨hcs, _⟩ | ⟨ad, l, c, m, n'', D, Pl, hcs, _⟩
        · exact ⟨none, 0, 0, by simpa using hcs⟩
        · exact ⟨some ad, l, c, by simpa using hcs⟩
      obtain ⟨rs, hr⟩ := Lst.open_rows_i32 rfl h2
      exact ⟨a, len, cap, rs, rfl, hr⟩
    obtain ⟨x2, l2, q2, z2, rfl, o2⟩ := s2
    have s3 : ∃ (a : Option Addr) (len cap : Nat) (zs : List Int), c3 = .slice a len cap ∧ IntK.RowK .i32 w a len cap zs := by
      rcases open_ints Tryd.underlying22 Tryd.underlying21 (by kernel_rfl) h3 with ⟨hcs, _⟩ | ⟨x, l, c, zs, hcs, _, hl, hm, hz, _, hcell, hwz⟩
      · exact ⟨none, 0, 0, [], by simpa using hcs, .inl ⟨rfl, rfl, rfl, rfl⟩⟩
      · exact ⟨some x, l, c, zs, by simpa using hcs, .inr ⟨x, rfl, hl, hm, by simpa using hz, hcell, hwz⟩⟩
    obtain ⟨x3, l3, q3, z3, rfl, o3⟩ := s3
    exact ⟨⟨x0, x1, x2, l2, q2, z2, x3, l3, q3, z3⟩, rfl, ⟨o0, o1, o2, o3⟩⟩
end
/-- Its box. -/
theorem wr_box (w w0 : World) (a : Wr) (h : w0 = w.alloc (.cells #[.int .u16 a.e, .int .u16 a.d, .slice a.er a.erL a.erC, .slice a.dr a.drL a.drC] 26)) :
    Below w.heap.size w w0 ∧ ∀ W, Below w0.heap.size w0 W → W.cell? ⟨w.heap.size, 0, none⟩ = some (.int .u16 a.e) ∧ W.cell? ⟨w.heap.size, 1, none⟩ = some (.int .u16 a.d) ∧ W.cell? ⟨w.heap.size, 2, none⟩ = some (.slice a.er a.erL a.erC) ∧ W.cell? ⟨w.heap.size, 3, none⟩ = some (.slice a.dr a.drL a.drC) := by
  subst h
  refine ⟨(Below.refl _ _).alloc (Nat.le_refl _) _, fun W hB => ?_⟩
  have hs : w.heap.size < (w.alloc (.cells #[.int .u16 a.e, .int .u16 a.d, .slice a.er a.erL a.erC, .slice a.dr a.drL a.drC] 26)).heap.size := by rw [World.size_alloc]; omega
  have hb := (hB.block w.heap.size hs).trans (heap_alloc_last w _)
  exact ⟨by rw [cell_of_row W _ 0 _ _ _ hb]; rfl, by rw [cell_of_row W _ 1 _ _ _ hb]; rfl, by rw [cell_of_row W _ 2 _ _ _ hb]; rfl, by rw [cell_of_row W _ 3 _ _ _ hb]; rfl⟩
end Go.Proofs.YtkcjllkhmncfdaaDoor.Mnd
