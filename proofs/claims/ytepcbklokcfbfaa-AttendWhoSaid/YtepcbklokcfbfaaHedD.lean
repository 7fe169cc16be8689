/- A head is written (layer 9): Put; the chapter's example. -/
import Derived.Test.YtepcbklokcfbfaaHedC
import Derived.Test.YtepcbklokcfbfaaBufC
import Derived.Test.YtepcbklokcfbfaaBufH
namespace Go.Proofs.Ytepcbklokcfbfaa.Hed
open Go.ChangeShapes Go.WideShapes Go.ChangeAt Go.RowKit Go.Deep
open Go.Proofs.Ytepcbklokcfbfaa.Byt Go.Proofs.Ytepcbklokcfbfaa.Key Go.Proofs.Ytepcbklokcfbfaa.Buf Go.Proofs.Ytepcbklokcfbfaa.BufM
set_option linter.unusedVariables false
set_option linter.unusedSimpArgs false
/-- The byte that a number becomes. -/
def kb (x : Int) : UInt8 := UInt8.ofNat (x % 256).toNat
/-- The number without sign that a number becomes. -/
def un (x : Int) : Nat := (x % 18446744073709551616).toNat
theorem un_lt (x : Int) : un x < 18446744073709551616 := by unfold un; omega
theorem kb_val (x : Int) : ((kb x).toNat : Int) = IntKind.u8.wrap x := by
  rw [IntKind.wrap_u8]
  unfold kb
  rw [toNat_of (by omega)]
  omega
theorem kb_bv (x : Int) : bv (kb x) = .int .u8 (IntKind.u8.wrap x) := by unfold bv; rw [kb_val]
theorem un_val (x : Int) : ((un x : Nat) : Int) = IntKind.u64.wrap x := by
  rw [IntKind.wrap_u64]
  unfold un
  omega
/-- What a writer holds when a head was written. -/
def putS (m : Nat) (s : Int × List UInt8) (p : Pk) : Int × List UInt8 :=
  if flo p.kind then wFix m (wByte m (wNum m (wByte m (wByte m s [kb p.kind]) [kb p.hops]) (un p.key.1)) [kb p.key.2.1]) (un p.key.2.2) 4 else wByte m s [kb p.kind]
/-- A writer beside a box that is the call's own. -/
structure PS (w : World) (B g m bp : Nat) (r0 : Option Nat) (t : TypeId) (cs : Array Value) (s : Int × List UInt8) (W : World) (row : Option Nat) : Prop where
  wr : WR W B g m s row
  box : Blk W bp t cs
  ne : bp ≠ g
  ner : some bp ≠ row
  step : WStep w W B g r0 row
theorem row_lt {w : World} {B g m : Nat} {s : Int × List UInt8} {row : Option Nat} (h : WR w B g m s row) {k : Nat} (hk : row = some k) : k < w.heap.size := by
  obtain ⟨v, hb, ho, hr⟩ := h.mem
  exact (own_at ho (hr.trans hk)).2
theorem PS.start {w : World} {B g m : Nat} {s : Int × List UInt8} {row : Option Nat} (h : WR w B g m s row) (t : TypeId) (cs : Array Value) :
    PS w B g m w.heap.size row t cs s (w.alloc (.cells cs t)) row := by
  have hB : Below w.heap.size w (w.alloc (.cells cs t)) := (Below.refl _ _).alloc (Nat.le_refl _) _
  obtain ⟨v, hb, -⟩ := h.mem
  have hg := hb.lt
  exact ⟨h.kept hB, Blk.new _ _ _, by omega, fun e => by have := row_lt h e.symm; omega, WStep.ahead hB (WStep.refl _ _ _ _) h.le⟩
theorem PS.next {w : World} {B g m bp : Nat} {r0 : Option Nat} {t : TypeId} {cs : Array Value} {s s' : Int × List UInt8} {W V : World} {row : Option Nat} (h : PS w B g m bp r0 t cs s W row) (hB : Below W.heap.size W V) {e : Ending} {w' : World} (hp : WPost V B g m row s' e w') :
    e = .returned (.tuple #[]) ∧ ∃ row', Hid (PS w B g m bp r0 t cs s' w' row') := by
  obtain ⟨rfl, row', h1, h2⟩ := hp
  have hs := hB.size
  have hl := h.box.lt
  refine ⟨rfl, row', Lib.hid ⟨h1, ?_, h.ne, ?_, h.step.trans (h2.ahead hB h.wr.le)⟩⟩
  · exact (h2.block bp (by omega) h.ne h.ner).trans (h.box.below hB)
  · rcases h2.new with e | e
    · rw [e]; exact h.ner
    · intro e2; have := e bp e2.symm; omega
theorem PS.kept {w : World} {B g m bp : Nat} {r0 : Option Nat} {t : TypeId} {cs : Array Value} {s : Int × List UInt8} {W V : World} {row : Option Nat} (h : PS w B g m bp r0 t cs s W row) (hB : Below W.heap.size W V) : PS w B g m bp r0 t cs s V row :=
  ⟨h.wr.kept hB, h.box.below hB, h.ne, h.ner, h.step.trans ((WStep.refl _ _ _ _).ahead hB h.wr.le)⟩
/-- Byte(byte(x)). -/
theorem PS.byte {w : World} {B g m bp : Nat} {r0 : Option Nat} {t : TypeId} {cs : Array Value} {s : Int × List UInt8} {W : World} {row : Option Nat} (h : PS w B g m bp r0 t cs s W row) (hm : s.2.length ≤ 900000) (x : Int) :
    Calls Try.prog 46 #[.pointer (some ⟨g, 0, none⟩), .slice (some ⟨W.heap.size, 0, none⟩) 1 1] (W.alloc (.cells #[.int .u8 (IntKind.u8.wrap x)] 5)) fun e w' => e = .returned (.tuple #[]) ∧ ∃ row', Hid (PS w B g m bp r0 t cs (wByte m s [kb x]) w' row') := by
  have hB : Below W.heap.size W (W.alloc (.cells #[.int .u8 (IntKind.u8.wrap x)] 5)) := (Below.refl _ _).alloc (Nat.le_refl _) _
  have ho := own_one W (kb x)
  rw [kb_bv] at ho
  exact (byte_any g B m s row (some ⟨W.heap.size, 0, none⟩) 1 1 [kb x] _ (h.wr.kept hB) rfl (by omega) ho.rd.1 (fun e => by cases e)).mono fun e w' hh => h.next hB hh
theorem PS.num {w : World} {B g m bp : Nat} {r0 : Option Nat} {t : TypeId} {cs : Array Value} {s : Int × List UInt8} {W : World} {row : Option Nat} (h : PS w B g m bp r0 t cs s W row) (hm : s.2.length ≤ 900000) (x : Int) :
    Calls Try.prog 30 #[.pointer (some ⟨g, 0, none⟩), .int .u64 (IntKind.u64.wrap x)] W fun e w' => e = .returned (.tuple #[]) ∧ ∃ row', Hid (PS w B g m bp r0 t cs (wNum m s (un x)) w' row') := by
  rw [← un_val]
  exact (num_any g B m s row (un x) _ h.wr (un_lt x) hm).mono fun e w' hh => h.next (Below.refl _ _) hh
theorem PS.cells {w : World} {B g m bp : Nat} {r0 : Option Nat} {t : TypeId} {cs : Array Value} {s : Int × List UInt8} {W : World} {row : Option Nat} (h : PS w B g m bp r0 t cs s W row) (i : Nat) : W.cell? ⟨bp, i, none⟩ = cs[i]? := h.box.cell i
theorem PS.post {w : World} {B g m bp : Nat} {r0 : Option Nat} {t : TypeId} {cs : Array Value} {s : Int × List UInt8} {W : World} {row : Option Nat} (h : PS w B g m bp r0 t cs s W row) : WPost w B g m r0 s (.returned (.tuple #[])) W := ⟨rfl, row, h.wr, h.step⟩
theorem sev_len10 (x : Nat) (h : x < 18446744073709551616) : (sev x).length ≤ 10 := by
  have := BufM.sev_len 9 x (by omega)
  omega
end Go.Proofs.Ytepcbklokcfbfaa.Hed
