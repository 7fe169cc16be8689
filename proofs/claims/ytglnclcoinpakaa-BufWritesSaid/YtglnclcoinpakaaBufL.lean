/- A reader and a writer side by side; what a law wants of both. -/
import Derived.Test.YtglnclcoinpakaaBufK
namespace Go.Proofs.Ytglnclcoinpakaa.Buf
open Go.ChangeShapes Go.WideShapes Go.ChangeAt Go.RowKit
open Go.Proofs.Ytglnclcoinpakaa.Byt Go.Proofs.Ytglnclcoinpakaa.Units Go.Proofs.Ytglnclcoinpakaa.BufM
set_option linter.unusedVariables false

/-- How much a reader has left, asked of the world. -/
def leftIn (g : Nat) (w : World) : Nat := match w.cell? ⟨g, 1, none⟩ with | some (.slice _ n _) => n | _ => 0
theorem RR.left {w : World} {g : Nat} {s : Int × List UInt8} (h : RR w g s) : leftIn g w = s.2.length := by
  obtain ⟨ad, cap, hb, _⟩ := h.mem
  have c1 := hb.cell 1
  simp at c1
  unfold leftIn
  rw [c1]
/-- The writer stays where the reader ahead of it moves. -/
theorem WR.reader {w w' : World} {B g m gr : Nat} {s : Int × List UInt8} {row : Option Nat} (h : WR w B g m s row) (hs : RStep w w' gr) (hg : gr < B) : WR w' B g m s row := by
  have hge := h.ge
  obtain ⟨v, hb, ho, hr⟩ := h.mem
  refine h.other hs.below.size fun k hk => ?_
  rcases hk with rfl | hk
  · exact hs.block k (by omega) hb.lt
  · have := own_at ho (hr.trans hk.symm)
    exact hs.block k (by omega) this.2
/-- The reader stays where the writer behind it moves. -/
theorem RR.writer {w w' : World} {B g gr : Nat} {s : Int × List UInt8} {row row' : Option Nat} (h : RR w gr s) (hs : WStep w w' B g row row') (hg : gr < B) : RR w' gr s := h.behind fun b hb => hs.below.block b (by omega)
/-- Both, and what was there before. -/
structure Both (w2 w : World) (gr gw m : Nat) (l p : List UInt8) : Prop where
  rd : RR w gr (0, l)
  wr : ∃ row, WR w gw gw m (0, p) row
  lt : gr < gw
  below : Below gr w2 w
theorem Both.num {w2 w : World} {gr gw m : Nat} {l p : List UInt8} (h : Both w2 w gr gw m l p) (hm : p.length + l.length ≤ m) (hm2 : m ≤ 900000) :
    Calls Try.prog 20 #[.pointer (some ⟨gr, 0, none⟩)] w fun e w' => (∃ (x : Nat) (r : List UInt8), x < 18446744073709551616 ∧ l = sev x ++ r ∧ e = .returned (.int .u64 (x : Int)) ∧ Both w2 w' gr gw m r p) ∨
      (∃ (x : Nat) (er : Int), er ≠ 0 ∧ e = .returned (.int .u64 (x : Int)) ∧ RR w' gr (er, []) ∧ Below gr w2 w') := by
  refine (rnum_any gr (0, l) w h.rd).mono fun e w' hh => ?_
  obtain ⟨rfl, hr, hs⟩ := hh
  have hB := h.below.trans hs.below
  unfold numS at hr
  simp only at hr ⊢
  rcases hg : getN l with ⟨x, r, e⟩
  rw [hg] at hr
  by_cases he : e = 0
  · subst he
    obtain ⟨h1, h2⟩ := sev_getN hg
    obtain ⟨row, hw⟩ := h.wr
    exact .inl ⟨x, r, h2, h1, rfl, ⟨hr, ⟨row, hw.reader hs h.lt⟩, h.lt, hB⟩⟩
  · rw [upd_bad _ _ he] at hr
    refine .inr ⟨x, e, by omega, rfl, hr, hB⟩
theorem Both.put {w2 w : World} {gr gw m : Nat} {l p : List UInt8} (h : Both w2 w gr gw m l p) (x : Nat) (hx : x < 18446744073709551616) (hm : p.length + (sev x).length ≤ m) (hm2 : m ≤ 900000) :
    Calls Try.prog 21 #[.pointer (some ⟨gw, 0, none⟩), .int .u64 (x : Int)] w fun e w' => e = .returned (.tuple #[]) ∧ Both w2 w' gr gw m l (p ++ sev x) := by
  obtain ⟨row, hw⟩ := h.wr
  refine (num_any gw gw m (0, p) row x w hw hx (by simp only; omega)).mono fun e w' hh => ?_
  obtain ⟨he, row', hr, hs⟩ := hh
  unfold wNum at hr
  rw [wByte_fits _ rfl (by simp only; omega)] at hr
  exact ⟨he, h.rd.writer hs h.lt, ⟨row', hr⟩, h.lt, h.below.trans (hs.below.mono (Nat.le_of_lt h.lt))⟩
end Go.Proofs.Ytglnclcoinpakaa.Buf
