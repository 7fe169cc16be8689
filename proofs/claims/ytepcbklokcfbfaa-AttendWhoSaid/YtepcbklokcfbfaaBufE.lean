/- The reader: Byte, Fixed. -/
import Derived.Test.YtepcbklokcfbfaaBufD
import Derived.StillTailTactics
import Derived.Laws.CopyOwn
import Derived.Deep.RegionHeld3
import Derived.Deep.RegionHeldLaw
namespace Go.Proofs.Ytepcbklokcfbfaa.Buf
open Go.ChangeShapes Go.WideShapes Go.ChangeAt Go.RowKit
open Go.Proofs.Ytepcbklokcfbfaa.Byt Go.Proofs.Ytepcbklokcfbfaa.Units Go.Proofs.Ytepcbklokcfbfaa.BufM
set_option linter.unusedVariables false

/-- What a call of the reader leaves that hands a value back. -/
def fixS (s : Int × List UInt8) (n : Int) : Int × List UInt8 := upd s (getF s.2 n).2
theorem fixN_zeros : ∀ (l : List UInt8) (k : Nat), fixN (l ++ List.replicate k 0) = fixN l
  | [], 0 => rfl
  | [], k + 1 => by
    show fixN (0 :: List.replicate k 0) = 0
    rw [fixN, show fixN (List.replicate k 0) = 0 from by have := fixN_zeros [] k; rwa [List.nil_append] at this]; rfl
  | b :: l, k => by rw [List.cons_append, fixN, fixN_zeros l k, fixN]
abbrev eight : List Value := [.int .u8 0, .int .u8 0, .int .u8 0, .int .u8 0, .int .u8 0, .int .u8 0, .int .u8 0, .int .u8 0]
theorem eight_splice (t : List UInt8) (h : t.length ≤ 8) : splice eight 0 (bvs t) = bvs (t ++ List.replicate (8 - t.length) 0) := by
  have e : eight = bvs (List.replicate 8 0) := rfl
  unfold splice
  rw [e, List.take_zero, List.nil_append, bvs_append, bvs_len]
  congr 1
  rw [Nat.zero_add]
  show (bvs (List.replicate 8 0)).drop t.length = _
  unfold bvs
  rw [← List.map_drop, List.drop_replicate]
theorem infoByte1 : (Try.prog.info? 5).map (·.size) = some 1 := by kernel_rfl
theorem min8 {n : Nat} (h : n ≤ 8) : n = Nat.min n 8 := (Nat.min_eq_left h).symm
theorem RStep.more {a b c : World} {g : Nat} (h : RStep a b g) (k : Below a.heap.size b c) (hg : g < a.heap.size) : RStep a c g :=
  ⟨h.below.trans (k.mono (by omega)), fun i h1 h2 => by rw [k.block i h2, h.block i h1 h2]⟩
theorem RR.more {a b c : World} {g : Nat} {s : Int × List UInt8} (h : RR b g s) (k : Below a.heap.size b c) (hg : g < a.heap.size) : RR c g s := h.behind fun b hb => k.block b (by omega)
def SrcOk (w3 : World) (G : Nat) (ad : Option Addr) (cs : List Value) : Prop :=
  0 < cs.length → some (⟨G, 0, none⟩ : Addr) = some ⟨G, 0, none⟩ ∧ ∃ ad', ad = some ad' ∧ ∀ j v, cs[j]? = some v → w3.cell? (ad'.add j) = some v
theorem getF_byte (l : List UInt8) : (getF l 1).1 < 256 := by
  unfold getF
  rw [if_neg (by omega)]
  split
  · simp
  · have := fixN_lt (l.take (1 : Int).toNat)
    have h1 : (l.take (1 : Int).toNat).length ≤ 1 := by rw [List.length_take]; omega
    have := Nat.pow_le_pow_right (show 0 < 256 by omega) h1
    simp only; omega
end Go.Proofs.Ytepcbklokcfbfaa.Buf
