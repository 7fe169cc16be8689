/- A turn that came in (layer 27's law). -/
import Derived.Test.YtkcjllkhmncfdaaDoorLstA
import Derived.Test.YtkcjllkhmncfdaaDoorIntK
import Derived.Test.YtkcjllkhmncfdaaDoorI64A
import Derived.Deep.Slices
import Derived.Deep.Fields
import Derived.OpenShut
import Derived.Deep.WholeRow
namespace Go.Proofs.YtkcjllkhmncfdaaDoor.Mnd
open Go.ChangeShapes Go.WideShapes Go.ChangeAt Go.RowKit Go.Deep
set_option linter.unusedVariables false
set_option linter.unusedSimpArgs false
structure Tu where
  s : Int
  er : Option Addr
  erL : Nat
  erC : Nat
  erR : List Lst.Ro
  dr : Option Addr
  drL : Nat
  drC : Nat
  drS : List Int
def tucells (a : Tu) : Array Value := #[.int .u64 a.s, .slice a.er a.erL a.erC, .slice a.dr a.drL a.drC]
def tuval (a : Tu) : Value := .agg (tucells a)
structure OkTu (w : World) (a : Tu) : Prop where
  s : (Lit.int .u64 a.s).wf = true
  er : Lst.Ros .i64 w a.er a.erL a.erC a.erR
  dr : IntK.RowK .i64 w a.dr a.drL a.drC a.drS
section
variable {H : Type} {enc0 : TypeId × Value → H} {w : World}
theorem cellsTu : Tryd.prog.cellsOf 42 = 3 := by kernel_rfl
set_option maxRecDepth 100000 in
theorem open_tu {r : Reach} {b0 : Nat} {v : Value} {d : DataW H} {pl : List MemPlace} (hv : Value.okWide Tryd.prog w r b0 42 v) (h : DataW.Trod enc0 Tryd.prog w 0 (fun _ => true) true 42 v d pl) : ∃ a : Tu, v = tuval a ∧ OkTu w a := by
  obtain ⟨cs, rfl, hs⟩ := okWide_struct Tryd.underlying42 hv
  obtain ⟨n, hn⟩ := h
  obtain ⟨ys, n', _, _, hlen, hys, hf⟩ := DataW.trod_struct Tryd.underlying42 hn
  rw [cellsTu] at hlen
  obtain ⟨cs⟩ := cs
  match cs, hlen, ys, hys with
  | [c0, c1, c2], _, [y0, y1, y2], _ =>
    have h0 : DataW.trod enc0 Tryd.prog w 0 (fun _ => true) true n' 28 (([c0, c1, c2].drop 0).take (Tryd.prog.cellsOf 28)) = some y0 := hf 0 _ rfl
    rw [show Tryd.prog.cellsOf 28 = 1 from by kernel_rfl] at h0
    simp only [List.drop_succ_cons, List.drop_zero, List.take_succ_cons, List.take_zero] at h0
    have h1 : DataW.trod enc0 Tryd.prog w 0 (fun _ => true) true n' 31 (([c0, c1, c2].drop 1).take (Tryd.prog.cellsOf 31)) = some y1 := hf 1 _ rfl
    rw [show Tryd.prog.cellsOf 31 = 1 from by kernel_rfl] at h1
    simp only [List.drop_succ_cons, List.drop_zero, List.take_succ_cons, List.take_zero] at h1
    have h2 : DataW.trod enc0 Tryd.prog w 0 (fun _ => true) true n' 27 (([c0, c1, c2].drop 2).take (Tryd.prog.cellsOf 27)) = some y2 := hf 2 _ rfl
    rw [show Tryd.prog.cellsOf 27 = 1 from by kernel_rfl] at h2
    simp only [List.drop_succ_cons, List.drop_zero, List.take_succ_cons, List.take_zero] at h2
    obtain ⟨x0, e0, _, o0⟩ := DataW.trod_int Tryd.underlying28 h0
    simp only [List.cons.injEq, and_true] at e0
    subst e0
    have s1 : ∃ (a : Option Addr) (len cap : Nat) (rs : List Lst.Ro), c1 = .slice a len cap ∧ Lst.Ros .i64 w a len cap rs := by
      obtain ⟨a, len, cap, rfl⟩ : ∃ a len cap, c1 = .slice a len cap := by
        rcases open_slice Tryd.underlying31 h1 with ⟨hcs, _⟩ | ⟨ad, l, c, m, n'', D, Pl, hcs, _⟩
        · exact ⟨none, 0, 0, by simpa using hcs⟩
        · exact ⟨some ad, l, c, by simpa using hcs⟩
      obtain ⟨rs, hr⟩ := Lst.open_rows_i64 rfl h1
      exact ⟨a, len, cap, rs, rfl, hr⟩
    obtain ⟨x1, l1, q1, z1, rfl, o1⟩ := s1
    have s2 : ∃ (a : Option Addr) (len cap : Nat) (zs : List Int), c2 = .slice a len cap ∧ IntK.RowK .i64 w a len cap zs := by
      rcases open_ints Tryd.underlying27 Tryd.underlying2 (by kernel_rfl) h2 with ⟨hcs, _⟩ | ⟨x, l, c, zs, hcs, _, hl, hm, hz, _, hcell, hwz⟩
      · exact ⟨none, 0, 0, [], by simpa using hcs, .inl ⟨rfl, rfl, rfl, rfl⟩⟩
      · exact ⟨some x, l, c, zs, by simpa using hcs, .inr ⟨x, rfl, hl, hm, by simpa using hz, hcell, hwz⟩⟩
    obtain ⟨x2, l2, q2, z2, rfl, o2⟩ := s2
    exact ⟨⟨x0, x1, l1, q1, z1, x2, l2, q2, z2⟩, rfl, ⟨o0, o1, o2⟩⟩
end
/-- Its box. -/
theorem tu_box (w w0 : World) (a : Tu) (h : w0 = w.alloc (.cells #[.int .u64 a.s, .slice a.er a.erL a.erC, .slice a.dr a.drL a.drC] 42)) :
    Below w.heap.size w w0 ∧ ∀ W, Below w0.heap.size w0 W → W.cell? ⟨w.heap.size, 0, none⟩ = some (.int .u64 a.s) ∧ W.cell? ⟨w.heap.size, 1, none⟩ = some (.slice a.er a.erL a.erC) ∧ W.cell? ⟨w.heap.size, 2, none⟩ = some (.slice a.dr a.drL a.drC) := by
  subst h
  refine ⟨(Below.refl _ _).alloc (Nat.le_refl _) _, fun W hB => ?_⟩
  have hs : w.heap.size < (w.alloc (.cells #[.int .u64 a.s, .slice a.er a.erL a.erC, .slice a.dr a.drL a.drC] 42)).heap.size := by rw [World.size_alloc]; omega
  have hb := (hB.block w.heap.size hs).trans (heap_alloc_last w _)
  exact ⟨by rw [cell_of_row W _ 0 _ _ _ hb]; rfl, by rw [cell_of_row W _ 1 _ _ _ hb]; rfl, by rw [cell_of_row W _ 2 _ _ _ hb]; rfl⟩
end Go.Proofs.YtkcjllkhmncfdaaDoor.Mnd
