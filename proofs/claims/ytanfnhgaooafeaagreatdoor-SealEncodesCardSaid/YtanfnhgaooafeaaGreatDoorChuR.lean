/- The document's Get (layer 13). -/
import Derived.Test.YtanfnhgaooafeaaGreatDoorChuX
import Derived.Test.YtanfnhgaooafeaaGreatDoorHedP
import Derived.BigRegion
namespace Go.Proofs.YtanfnhgaooafeaaGreatDoor.Chu
open Go.ChangeShapes Go.WideShapes Go.ChangeAt Go.RowKit Go.Deep
open Go.Proofs.YtanfnhgaooafeaaGreatDoor.Byt Go.Proofs.YtanfnhgaooafeaaGreatDoor.Key Go.Proofs.YtanfnhgaooafeaaGreatDoor.Buf Go.Proofs.YtanfnhgaooafeaaGreatDoor.Hed Go.Proofs.YtanfnhgaooafeaaGreatDoor.Dat Go.Proofs.YtanfnhgaooafeaaGreatDoor.BufM Go.Proofs.YtanfnhgaooafeaaGreatDoor.Pkt
set_option linter.unusedVariables false
set_option linter.unusedSimpArgs false
/-- What the document tells is wrong. -/
def dE3 (r : List UInt8) : Nat := if (r.getD 2 0).toNat ≤ (r.getD 1 0).toNat then 5 else (getB (r.drop 3) 64).2.2
def dE2 (r : List UInt8) : Nat := if r = [] then 3 else if 63 < (r.getD 0 0).toNat then 8 else if r.length < 3 then 3 else dE3 r
def dE (l : List UInt8) : Nat := if (getN l).2.2 ≠ 0 then (getN l).2.2 else if 1152921504606846976 < (getN l).1 then 2 else dE2 (getN l).2.1
/-- What is left. -/
def dR (l : List UInt8) : List UInt8 := (getB ((getN l).2.1.drop 3) 64).2.1
/-- The packet with what stands there. -/
def dP (p : Pk) (l : List UInt8) : Pk := { p with no := sg (getN l).1, to := ((getN l).2.1.getD 0 0).toNat, index := ((getN l).2.1.getD 1 0).toNat, total := ((getN l).2.1.getD 2 0).toNat, body := (getB ((getN l).2.1.drop 3) 64).1 }
theorem dE_parts (l : List UInt8) (E : Nat) (h : dE l = E) : ((getN l).2.2 ≠ 0 → E = (getN l).2.2) ∧ ((getN l).2.2 = 0 → 1152921504606846976 < (getN l).1 → E = 2) ∧ ((getN l).2.2 = 0 → ¬ 1152921504606846976 < (getN l).1 → dE2 (getN l).2.1 = E) := by
  subst h
  unfold dE
  exact ⟨fun h => by rw [if_pos h], fun h h2 => by rw [if_neg (by omega), if_pos h2], fun h h2 => by rw [if_neg (by omega), if_neg h2]⟩
theorem dE2_parts (r : List UInt8) (E : Nat) (h : dE2 r = E) : (r = [] → E = 3) ∧ (r ≠ [] → 63 < (r.getD 0 0).toNat → E = 8) ∧ (r ≠ [] → ¬ 63 < (r.getD 0 0).toNat → r.length < 3 → E = 3) ∧ (r ≠ [] → ¬ 63 < (r.getD 0 0).toNat → ¬ r.length < 3 → dE3 r = E) := by
  subst h
  unfold dE2
  exact ⟨fun h => by rw [if_pos h], fun h h2 => by rw [if_neg h, if_pos h2], fun h h2 h3 => by rw [if_neg h, if_neg h2, if_pos h3], fun h h2 h3 => by rw [if_neg h, if_neg h2, if_neg h3]⟩
theorem dE3_parts (r : List UInt8) (E : Nat) (h : dE3 r = E) : ((r.getD 2 0).toNat ≤ (r.getD 1 0).toNat → E = 5) ∧ (¬ (r.getD 2 0).toNat ≤ (r.getD 1 0).toNat → E = (getB (r.drop 3) 64).2.2) := by
  subst h
  unfold dE3
  exact ⟨fun h => by rw [if_pos h], fun h => by rw [if_neg h]⟩
/-- What the document's Get leaves. -/
def DPost (w : World) (P : Pk) (E rl : Nat) (en : Ending) (w' : World) : Prop :=
  Below w.heap.size w w' ∧ (E ≠ 0 → en = .returned (.tuple #[pval zero, .slice none 0 0, .int .i64 (E : Int)])) ∧ (E = 0 → ∃ ad cap ad2 cap2, en = .returned (.tuple #[pval (memP P ad cap), .slice ad2 rl cap2, .int .i64 0]) ∧ RdB w' ad P.body)
theorem d2_all12 {w W : World} {v0 v1 v2 v3 v4 v5 v6 v7 v8 v9 v10 v11 : Value} (h : D2 w #[v0, v1, v2, v3, v4, v5, v6, v7, v8, v9, v10, v11] W) : (W.cell? ⟨w.heap.size, 0, none⟩ = some v0 ∧ W.cell? ⟨w.heap.size, 1, none⟩ = some v1 ∧ W.cell? ⟨w.heap.size, 2, none⟩ = some v2 ∧ W.cell? ⟨w.heap.size, 3, none⟩ = some v3 ∧ W.cell? ⟨w.heap.size, 4, none⟩ = some v4 ∧ W.cell? ⟨w.heap.size, 5, none⟩ = some v5 ∧ W.cell? ⟨w.heap.size, 6, none⟩ = some v6 ∧ W.cell? ⟨w.heap.size, 7, none⟩ = some v7 ∧ W.cell? ⟨w.heap.size, 8, none⟩ = some v8 ∧ W.cell? ⟨w.heap.size, 9, none⟩ = some v9 ∧ W.cell? ⟨w.heap.size, 10, none⟩ = some v10 ∧ W.cell? ⟨w.heap.size, 11, none⟩ = some v11) ∧ (W.frozen? ⟨w.heap.size, 0, none⟩ = false ∧ W.frozen? ⟨w.heap.size, 1, none⟩ = false ∧ W.frozen? ⟨w.heap.size, 2, none⟩ = false ∧ W.frozen? ⟨w.heap.size, 3, none⟩ = false ∧ W.frozen? ⟨w.heap.size, 4, none⟩ = false ∧ W.frozen? ⟨w.heap.size, 5, none⟩ = false ∧ W.frozen? ⟨w.heap.size, 6, none⟩ = false ∧ W.frozen? ⟨w.heap.size, 7, none⟩ = false ∧ W.frozen? ⟨w.heap.size, 8, none⟩ = false ∧ W.frozen? ⟨w.heap.size, 9, none⟩ = false ∧ W.frozen? ⟨w.heap.size, 10, none⟩ = false ∧ W.frozen? ⟨w.heap.size, 11, none⟩ = false) :=
  ⟨⟨h.box.cell 0, h.box.cell 1, h.box.cell 2, h.box.cell 3, h.box.cell 4, h.box.cell 5, h.box.cell 6, h.box.cell 7, h.box.cell 8, h.box.cell 9, h.box.cell 10, h.box.cell 11⟩, h.box.free 0, h.box.free 1, h.box.free 2, h.box.free 3, h.box.free 4, h.box.free 5, h.box.free 6, h.box.free 7, h.box.free 8, h.box.free 9, h.box.free 10, h.box.free 11⟩
end Go.Proofs.YtanfnhgaooafeaaGreatDoor.Chu
