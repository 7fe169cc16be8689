/- What was put is got (layer 10): plain. -/
import Derived.Test.YtanfnhgaooafeaaGreatDoorDatY
import Derived.Test.YtanfnhgaooafeaaGreatDoorDatC
namespace Go.Proofs.YtanfnhgaooafeaaGreatDoor.Dat
open Go.Proofs.YtanfnhgaooafeaaGreatDoor.Byt Go.Proofs.YtanfnhgaooafeaaGreatDoor.Key Go.Proofs.YtanfnhgaooafeaaGreatDoor.Buf Go.Proofs.YtanfnhgaooafeaaGreatDoor.Hed Go.Proofs.YtanfnhgaooafeaaGreatDoor.BufM
set_option linter.unusedVariables false
set_option linter.unusedSimpArgs false
/-- What is written of a body. -/
def bodB (l : List UInt8) : List UInt8 := sev l.length ++ l
theorem bodB_len {l : List UInt8} (h : l.length ≤ 1024) : (bodB l).length ≤ 1034 := by
  have := sev_len10 l.length (by omega)
  unfold bodB
  rw [List.length_append]
  omega
theorem getB_put {l : List UInt8} (h : l.length ≤ 1024) : getB (bodB l) 1024 = (l, [], 0) := by
  have hg : getN (bodB l) = (l.length, l, 0) := getN_sev l.length (by omega) l
  unfold getB
  rw [hg]
  have h1 : ¬ ((1024 : Int) < 0 ∨ (1024 : Int) < (l.length : Int)) := by omega
  simp [h1]
  omega
theorem put_fits {l : List UInt8} (h : l.length ≤ 1024) : wBytes (2000 : Int).toNat (0, []) l = (0, bodB l) := by
  have h10 := sev_len10 l.length (by omega)
  have hm : (2000 : Int).toNat = 2000 := rfl
  unfold wBytes wNum
  rw [hm]
  have h1 : wByte 2000 (0, []) (sev l.length) = (0, sev l.length) := by
    unfold wByte
    rw [if_neg (by simp), if_neg (by simp only [List.length_nil]; omega)]
    simp
  rw [h1]
  unfold wByte bodB
  rw [if_neg (by simp), if_neg (by simp only; omega)]
theorem bytS_put {l : List UInt8} (h : l.length ≤ 1024) : bytS (0, bodB l) 1024 = (0, []) := by
  unfold bytS upd
  rw [getB_put h]
  rfl
theorem good_len {p : Pk} (h : datG p = true) : p.body.length ≤ 1024 := by
  unfold datG at h
  simp only [Bool.and_eq_true, decide_eq_true_eq] at h
  omega
theorem good_same {p : Pk} (h : datG p = true) (ad : Option Addr) (cap : Nat) : eqP p (bodG (bareP (mk4 p.key p.hops none 0 [])) ad cap p.body) = true := by
  unfold datG at h
  simp only [Bool.and_eq_true] at h
  exact h.1
theorem bytS_ok {l : List UInt8} (h : (getB l 1024).2.2 = 0) : bytS (0, l) 1024 = (0, (getB l 1024).2.1) := by
  unfold bytS upd
  simp only
  rw [if_pos h]
theorem bytS_bad {l : List UInt8} (h : (getB l 1024).2.2 ≠ 0) : bytS (0, l) 1024 = ((((getB l 1024).2.2 : Nat) : Int), []) := by
  unfold bytS upd
  simp only
  rw [if_neg h]
  simp
theorem same_bodG (p : Pk) (a a' : Option Addr) (c c' : Nat) (l : List UInt8) : eqP (bodG p a c l) (bodG p a' c' l) = true := eqP_self (bodG p a c l)
end Go.Proofs.YtanfnhgaooafeaaGreatDoor.Dat
