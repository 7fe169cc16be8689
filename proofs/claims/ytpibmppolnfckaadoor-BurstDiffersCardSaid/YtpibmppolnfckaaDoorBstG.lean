/- What the laws of layer burst (15) say of bytes of the call's own. -/
import Derived.Test.YtpibmppolnfckaaDoorBstB
import Derived.Test.YtpibmppolnfckaaDoorBstF
namespace Go.Proofs.YtpibmppolnfckaaDoor.Bst
open Go.ChangeShapes Go.WideShapes Go.ChangeAt Go.RowKit
open Go.Proofs.YtpibmppolnfckaaDoor.Byt
set_option linter.unusedVariables false
/-- What Turn leaves, beside a world ahead of it. -/
def TPost (l : List UInt8) (w2 W : World) (e : Ending) (w' : World) : Prop :=
  ∃ ad cap, e = .returned (.slice ad l.length cap) ∧ OwnB w' W.heap.size (.slice ad l.length cap) l ∧ Below W.heap.size W w' ∧ Below w2.heap.size w2 w'
theorem turn_post {f : FuncId} {args : Array Value} {l : List UInt8} {w2 W : World} (hW : Below w2.heap.size w2 W) (h : Calls Tryd.prog f args W (BytesPost l W)) : Calls Tryd.prog f args W (TPost l w2 W) :=
  h.mono fun e w' ⟨ad, cap, he, ho, hb⟩ => ⟨ad, cap, he, ho, hb, hW.trans (hb.mono hW.size)⟩
theorem map_first {l : List Nat} (h : l ≠ []) : (l.map fun j : Nat => (j : Int)).getD 0 0 = (fst l : Int) := by
  cases l with
  | nil => exact absurd rfl h
  | cons a l => rfl
theorem map_last {l : List Nat} (h : l ≠ []) {e : Nat} (he : lst l = e + 1) : (l.map fun j : Nat => (j : Int)).getD (l.length - 1) 0 = (e : Int) := by
  unfold lst at he
  rw [List.getLast?_eq_getElem?] at he
  have hl : l.length - 1 < l.length := by
    cases l with
    | nil => exact absurd rfl h
    | cons a l => simp
  rw [List.getElem?_eq_getElem hl] at he
  simp only [Option.map_some, Option.getD_some] at he
  have h2 : l[l.length - 1] = e := by omega
  simp [List.getD, hl, h2]
theorem turnP_twice (l : List UInt8) (p m : Nat) : turnP (turnP l p m) p m = l := by
  unfold turnP
  rw [Crc.turnB_len, turn_twice]
theorem dW_turned (l : List UInt8) (p m : Nat) (hm : m < 4294967296) : dW l (turnP l p m) ≤ widB m := by
  unfold dW
  rw [if_pos (turnP_len l p m).symm]
  exact wid_turned l _ m hm
/-- Bytes turned that don't differ by a burst are as they were. -/
theorem is_turned (l : List UInt8) (p m : Nat) (hm : m < 4294967296) (h : isB l (turnP l p m) = false) : turnP l p m = l := by
  have h1 := dW_turned l p m hm
  have h2 := widB_le m hm
  have h3 : dW l (turnP l p m) = 0 := by
    unfold isB at h
    by_cases h0 : 0 < dW l (turnP l p m)
    · rw [decide_eq_true h0, decide_eq_true (by omega)] at h; simp at h
    · omega
  unfold dW at h3
  rw [if_pos (turnP_len l p m).symm, wid_nil (up_difs _ _ _)] at h3
  exact (none_turned l _ (turnP_len l p m).symm h3).symm
end Go.Proofs.YtpibmppolnfckaaDoor.Bst
