/- Plain: when a packet of layer 11 may be, what stands behind its head. -/
import Derived.Test.YtocfamocemmihaaPulA
import Derived.Test.YtocfamocemmihaaBufG
namespace Go.Proofs.Ytocfamocemmihaa.Pul
open Go.ChangeShapes Go.WideShapes Go.ChangeAt Go.RowKit Go.Deep
open Go.Proofs.Ytocfamocemmihaa.Byt Go.Proofs.Ytocfamocemmihaa.Key Go.Proofs.Ytocfamocemmihaa.Buf Go.Proofs.Ytocfamocemmihaa.Hed Go.Proofs.Ytocfamocemmihaa.Dat Go.Proofs.Ytocfamocemmihaa.BufM
set_option linter.unusedVariables false
set_option linter.unusedSimpArgs false
def probeP (x : Int) : Pk := ⟨1, (0, 0, 0), 0, 0, 0, 0, 0, x, 0, none, 0, []⟩
def echoP (x y : Int) : Pk := ⟨2, (0, 0, 0), 0, 0, 0, 0, 0, x, y, none, 0, []⟩
def beacP (k : Ky) (h n : Int) : Pk := ⟨3, k, h, n, 0, 0, 0, 0, 0, none, 0, []⟩
/-- The packet's head alone. -/
def headP (p : Pk) : Pk := ⟨p.kind, p.key, p.hops, 0, 0, 0, 0, 0, 0, none, 0, []⟩
/-- The packet, what its kind has put aside. -/
def offP (p : Pk) : Pk := if p.kind = 1 then { p with stamp := 0 } else if p.kind = 2 then { p with stamp := 0, value := 0 } else { p with no := 0 }
/-- Is the kind one of these? -/
def kk (k : Int) : Bool := (k == 1) || ((k == 2) || (k == 3))
/-- May the packet be? -/
def pulG (p : Pk) : Bool := kk p.kind && (gd p && (noOk p.no && eqP (offP p) (headP p)))
theorem str_eq (l m : List UInt8) : (strB l == strB m) = decide (l = m) := by
  rw [beq_toListBytes, ByteArray.toList_eq, ByteArray.toList_eq]
  unfold strB
  rw [Bool.eq_iff_iff]
  simp
theorem eqP_iff (p q : Pk) : eqP p q = true ↔ p.kind = q.kind ∧ p.key = q.key ∧ p.hops = q.hops ∧ p.no = q.no ∧ p.to = q.to ∧ p.index = q.index ∧ p.total = q.total ∧ p.stamp = q.stamp ∧ p.value = q.value ∧ p.body = q.body := by
  unfold eqP eqK
  rw [str_eq]
  simp only [Bool.and_eq_true, beq_iff_eq, decide_eq_true_eq]
theorem gd_iff1 (p : Pk) (h : p.kind = 1 ∨ p.kind = 2) : gd p = true ↔ p.hops = 0 ∧ p.key = (0, 0, 0) := by
  rw [gd_one (flo_no (by omega))]
  unfold eqK
  simp only [Bool.and_eq_true, decide_eq_true_eq]
  constructor
  · rintro ⟨⟨-, h1⟩, h2⟩
    exact ⟨h1, h2⟩
  · rintro ⟨h1, h2⟩
    exact ⟨⟨by omega, h1⟩, h2⟩
theorem noOk_iff (n : Int) : noOk n = true ↔ 0 ≤ n ∧ n ≤ 1152921504606846976 := by
  unfold noOk
  simp only [Bool.and_eq_true, decide_eq_true_eq]
theorem kk_iff (k : Int) : kk k = true ↔ k = 1 ∨ k = 2 ∨ k = 3 := by
  unfold kk
  simp only [Bool.or_eq_true, beq_iff_eq]
/-- The document's rule. -/
theorem pulG_probe (p : Pk) (h : p.kind = 1) : pulG p = (gd p && eqP p (probeP p.stamp)) := by
  unfold pulG
  rw [Bool.eq_iff_iff]
  simp only [Bool.and_eq_true, eqP_iff, noOk_iff, kk_iff, gd_iff1 p (.inl h)]
  unfold offP headP probeP
  rw [if_pos h]
  simp only
  constructor
  · rintro ⟨-, ⟨h1, h2⟩, h3, -, -, -, h4, h5, h6, h7, -, h8, h9⟩
    exact ⟨⟨h1, h2⟩, h, h2, h1, h4, h5, h6, h7, trivial, h8, h9⟩
  · rintro ⟨⟨h1, h2⟩, -, -, -, h4, h5, h6, h7, -, h8, h9⟩
    exact ⟨.inl h, ⟨h1, h2⟩, by omega, trivial, trivial, trivial, h4, h5, h6, h7, trivial, h8, h9⟩
theorem pulG_echo (p : Pk) (h : p.kind = 2) : pulG p = (gd p && eqP p (echoP p.stamp p.value)) := by
  unfold pulG
  rw [Bool.eq_iff_iff]
  simp only [Bool.and_eq_true, eqP_iff, noOk_iff, kk_iff, gd_iff1 p (.inr h)]
  unfold offP headP echoP
  rw [if_neg (by omega), if_pos h]
  simp only
  constructor
  · rintro ⟨-, ⟨h1, h2⟩, h3, -, -, -, h4, h5, h6, h7, -, -, h9⟩
    exact ⟨⟨h1, h2⟩, h, h2, h1, h4, h5, h6, h7, trivial, trivial, h9⟩
  · rintro ⟨⟨h1, h2⟩, -, -, -, h4, h5, h6, h7, -, -, h9⟩
    exact ⟨.inr (.inl h), ⟨h1, h2⟩, by omega, trivial, trivial, trivial, h4, h5, h6, h7, trivial, trivial, h9⟩
theorem pulG_else (p : Pk) (h1 : p.kind ≠ 1) (h2 : p.kind ≠ 2) : pulG p = (gd p && ((p.kind == 3) && (eqP p (beacP p.key p.hops p.no) && (decide (0 ≤ p.no) && decide (p.no ≤ 1152921504606846976))))) := by
  unfold pulG
  rw [Bool.eq_iff_iff]
  simp only [Bool.and_eq_true, eqP_iff, noOk_iff, kk_iff, beq_iff_eq, decide_eq_true_eq]
  unfold offP headP beacP
  rw [if_neg h1, if_neg h2]
  simp only
  constructor
  · rintro ⟨h0, hg, h3, -, -, -, -, h5, h6, h7, h8, h9, h10⟩
    have hk : p.kind = 3 := by omega
    exact ⟨hg, hk, ⟨hk, trivial, trivial, trivial, h5, h6, h7, h8, h9, h10⟩, h3⟩
  · rintro ⟨hg, hk, ⟨-, -, -, -, h5, h6, h7, h8, h9, h10⟩, h3⟩
    exact ⟨.inr (.inr hk), hg, h3, trivial, trivial, trivial, trivial, h5, h6, h7, h8, h9, h10⟩
end Go.Proofs.Ytocfamocemmihaa.Pul
