/- What layer 22's texts say of numbers: times kept within their bounds, how far a clock goes on. -/
import Derived.Test.YtpenopeecfgjjaaSlwA
namespace Go.Proofs.Ytpenopeecfgjjaa.Clk
open Go.ChangeShapes Go.WideShapes Go.ChangeAt Go.RowKit
open Go.Proofs.Ytpenopeecfgjjaa.Slw Go.Proofs.Ytpenopeecfgjjaa.Rw
/-- A time within its bounds. -/
def tiV (t : Int) : Int := Span.clampV t 0 1152921504606846976
theorem ti_bd (t : Int) : 0 ≤ tiV t ∧ tiV t ≤ 1152921504606846976 := by unfold tiV Span.clampV; split <;> (try split) <;> omega
theorem ti_id {t : Int} (h0 : 0 ≤ t) (h1 : t ≤ 1152921504606846976) : tiV t = t := by unfold tiV Span.clampV; split <;> (try split) <;> omega
/-- By how much a clock goes on in a tick: what slew's Step tells, but not beyond the end of time. -/
def ztV (g l i : Int) : Int := siV i + smV g l (siV i)
def adV (g l a i : Int) : Int := min (ztV g l i) (1152921504606846976 - a)
theorem zt_bd {g : Int} (l i : Int) (g0 : 1 ≤ g) (g1 : g ≤ 256) : 0 ≤ ztV g l i ∧ ztV g l i ≤ 1048832 := by
  obtain ⟨i0, i1⟩ := si_bd i
  obtain ⟨m0, m1, m2, m3, m4⟩ := sm_bd (l := l) g0 i0
  unfold ztV
  omega
theorem lf_bd {g l : Int} (i : Int) (g0 : 1 ≤ g) (h0 : -1152921504606846976 ≤ l) (h1 : l ≤ 1152921504606846976) : -1152921504606846976 ≤ l - smV g l (siV i) ∧ l - smV g l (siV i) ≤ 1152921504606846976 := by
  obtain ⟨i0, i1⟩ := si_bd i
  obtain ⟨m0, m1, m2, m3, m4⟩ := sm_bd (l := l) g0 i0
  omega
theorem ad_bd {g a : Int} (l i : Int) (g0 : 1 ≤ g) (g1 : g ≤ 256) (a0 : 0 ≤ a) (a1 : a ≤ 1152921504606846976) : 0 ≤ adV g l a i ∧ adV g l a i ≤ 1048832 ∧ a + adV g l a i ≤ 1152921504606846976 := by
  have := zt_bd l i g0 g1
  unfold adV
  omega
theorem ad_ti {g a : Int} (l i : Int) (g0 : 1 ≤ g) (g1 : g ≤ 256) (a0 : 0 ≤ a) (a1 : a ≤ 1152921504606846976) : tiV (a + ztV g l i) = a + adV g l a i := by
  have := zt_bd l i g0 g1
  unfold adV tiV Span.clampV
  split <;> (try split) <;> omega
/-- What a box of four tells. -/
theorem blk4 {w : World} {g : Nat} {t : TypeId} {a b c d : Value} (h : Blk w g t #[a, b, c, d]) :
    w.cell? ⟨g, 0, none⟩ = some a ∧ w.cell? ⟨g, 1, none⟩ = some b ∧ w.cell? ⟨g, 2, none⟩ = some c ∧ w.cell? ⟨g, 3, none⟩ = some d :=
  ⟨h.cell 0, h.cell 1, h.cell 2, h.cell 3⟩
theorem free4 {w : World} {g : Nat} {t : TypeId} {cs : Array Value} (h : Blk w g t cs) :
    w.frozen? ⟨g, 0, none⟩ = false ∧ w.frozen? ⟨g, 1, none⟩ = false ∧ w.frozen? ⟨g, 2, none⟩ = false ∧ w.frozen? ⟨g, 3, none⟩ = false :=
  ⟨h.free 0, h.free 1, h.free 2, h.free 3⟩
/-- Two boxes that were made one behind the other, and whatever grew behind them. -/
theorem two_boxes {w W : World} {t t' : TypeId} {cs cs' : Array Value} (h : Below ((w.alloc (.cells cs t)).alloc (.cells cs' t')).heap.size ((w.alloc (.cells cs t)).alloc (.cells cs' t')) W) :
    Blk W w.heap.size t cs ∧ Blk W (w.heap.size + 1) t' cs' ∧ Below w.heap.size w W := by
  refine ⟨((Blk.new w _ _).alloc _).below h, ?_, ?_⟩
  · have := (Blk.new (w.alloc (.cells cs t)) t' cs').below h
    simpa using this
  · have h1 : Below w.heap.size w ((w.alloc (.cells cs t)).alloc (.cells cs' t')) := by go_grown
    exact h1.trans (h.mono h1.size)
theorem two_boxesd {w W : World} {t t' : TypeId} {cs cs' : Array Value} (h : Below ((w.alloc (.cells cs t)).alloc (.cells cs' t')).drew.heap.size ((w.alloc (.cells cs t)).alloc (.cells cs' t')).drew W) :
    Blk W w.heap.size t cs ∧ Blk W (w.heap.size + 1) t' cs' ∧ Below w.heap.size w W :=
  two_boxes (((Below.refl _ _).drew).trans h)
end Go.Proofs.Ytpenopeecfgjjaa.Clk
