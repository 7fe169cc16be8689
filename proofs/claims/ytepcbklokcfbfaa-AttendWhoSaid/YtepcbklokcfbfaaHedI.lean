/- The packet one hop on (layer 9): Next. -/
import Derived.Test.YtepcbklokcfbfaaHedG
import Derived.Laws.CopyOwn
import Derived.Laws.Tables
namespace Go.Proofs.Ytepcbklokcfbfaa.Hed
open Go.ChangeShapes Go.WideShapes Go.ChangeAt Go.RowKit Go.Deep
open Go.Proofs.Ytepcbklokcfbfaa.Byt Go.Proofs.Ytepcbklokcfbfaa.Key Go.Proofs.Ytepcbklokcfbfaa.Buf
set_option linter.unusedVariables false
set_option linter.unusedSimpArgs false
/-- No packet. -/
def zero : Pk := ⟨0, (0, 0, 0), 0, 0, 0, 0, 0, 0, 0, none, 0, []⟩
/-- May the packet go on? -/
def nextB (p : Pk) : Bool := flo p.kind && decide (1 ≤ p.hops ∧ p.hops ≤ 62)
theorem infoPk : (Try.prog.info? 27).map (·.size) = some 12 := by kernel_rfl
theorem boxes_two (w w0 : World) (c d : Array Value) (t : TypeId) (h : w0 = (w.alloc (.cells c t)).alloc (.cells d t)) :
    Below w.heap.size w w0 ∧ Blk w0 w.heap.size t c ∧ Blk w0 (w.heap.size + 1) t d := by
  subst h
  refine ⟨((Below.refl _ _).alloc (Nat.le_refl _) _).alloc (by simp) _, (Blk.new w _ _).alloc _, ?_⟩
  have := Blk.new (w.alloc (.cells c t)) t d
  rw [World.size_alloc] at this
  exact this
theorem Blk.row {w : World} {g : Nat} {t : TypeId} {old : Array Value} (h : Blk w g t old) (cs : Array Value) (hs : old.size = cs.size) : Blk (w.setRow g cs) g t cs := setRow_heap _ _ _ _ _ _ h
/-- The result out of a packet's cell, and a second one. -/
theorem results_pk {fn : Func} (h : fn.results = #[.cell 2 27, .tmp 3]) (tmps : Array Value) (w : World) (g : Nat) (cs : Array Value) (v : Value)
    (hp : tmps.getD 2 undef = .pointer (some ⟨g, 0, none⟩)) (h3 : tmps.getD 3 undef = v) (hg : Blk w g 27 cs) (hs : cs.size = 12) :
    (results fn tmps).run Try.prog w = .ok (.tuple #[.agg cs, v]) w := by
  have hp' : tmps[2]?.getD undef = .pointer (some ⟨g, 0, none⟩) := by simpa using hp
  have h3' : tmps[3]?.getD undef = v := by simpa using h3
  simp [results, h, hp', h3', asAddr, run_loadVar_row w g 27 _ cs (0, 0) _ hg Try.underlying27 rfl (by rw [hs]; exact infoPk)]
theorem pk_no8 (p : Pk) (o : Nat) (x : Int) : p.cells[o]? ≠ some (.int .u8 x) := by
  unfold Pk.cells
  intro h
  match o, h with
  | 0, h => simp at h
  | 1, h => simp at h
  | 2, h => simp at h
  | 3, h => simp at h
  | 4, h => simp at h
  | 5, h => simp at h
  | 6, h => simp at h
  | 7, h => simp at h
  | 8, h => simp at h
  | 9, h => simp at h
  | 10, h => simp at h
  | 11, h => simp at h
  | n + 12, h => simp at h
/-- Bytes stay where a packet's block is written. -/
theorem rd_other {w w' : World} {g : Nat} {ad : Option Addr} {l : List UInt8} (p : Pk) (h : RdB w ad l) (hg : Blk w g 27 p.cells) (hk : ∀ b, b ≠ g → w'.heap[b]? = w.heap[b]?) : RdB w' ad l := by
  refine rd_kept h fun hne b o e _ => hk b ?_
  rintro rfl
  rcases h with h0 | ⟨b', off, e', hc⟩
  · exact hne h0
  · have e2 : some (⟨b, o, none⟩ : Addr) = some ⟨b', off, none⟩ := e.symm.trans e'
    cases e2
    have := hc 0 (List.length_pos_iff.2 hne)
    rw [hg.cell] at this
    exact pk_no8 p _ _ this
end Go.Proofs.Ytepcbklokcfbfaa.Hed
