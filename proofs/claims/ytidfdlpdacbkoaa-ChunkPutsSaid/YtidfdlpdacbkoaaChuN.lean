/- What is read, the program's and the document's; what was put is got (layer 13). -/
import Derived.Test.YtidfdlpdacbkoaaChuT
import Derived.Test.YtidfdlpdacbkoaaChuR
import Derived.Test.YtidfdlpdacbkoaaChuQ
import Derived.Test.YtidfdlpdacbkoaaHedQ
namespace Go.Proofs.Ytidfdlpdacbkoaa.Chu
open Go.ChangeShapes Go.WideShapes Go.ChangeAt Go.RowKit Go.Deep
open Go.Proofs.Ytidfdlpdacbkoaa.Byt Go.Proofs.Ytidfdlpdacbkoaa.Key Go.Proofs.Ytidfdlpdacbkoaa.Buf Go.Proofs.Ytidfdlpdacbkoaa.Hed Go.Proofs.Ytidfdlpdacbkoaa.Dat Go.Proofs.Ytidfdlpdacbkoaa.BufM Go.Proofs.Ytidfdlpdacbkoaa.Pkt
set_option linter.unusedVariables false
set_option linter.unusedSimpArgs false
theorem noOk_sg {x : Nat} (hx : x < 18446744073709551616) : noOk (sg x) = decide (¬ 1152921504606846976 < x) := by
  rw [Bool.eq_iff_iff, noOk_iff, decide_eq_true_iff]
  unfold sg
  rw [IntKind.wrap_i64]
  omega
theorem ndOk_byte (b : UInt8) : ndOk (b.toNat : Int) = decide (¬ 63 < b.toNat) := by
  rw [Bool.eq_iff_iff, ndOk_iff, decide_eq_true_iff]
  omega
theorem plOk_byte (a b : UInt8) : plOk (a.toNat : Int) (b.toNat : Int) = decide (¬ b.toNat ≤ a.toNat) := by
  have := b.toNat_lt
  rw [Bool.eq_iff_iff, plOk_iff, decide_eq_true_iff]
  omega
theorem fixS_three : fixS (3, []) 1 = (3, []) := by unfold fixS; simp only [getF1_nil]; rfl
theorem bytS_at (l : List UInt8) : bytS (0, l) 64 = if (getB l 64).2.2 = 0 then (0, (getB l 64).2.1) else ((((getB l 64).2.2 : Nat) : Int), []) := by
  unfold bytS upd
  simp only [if_true]
theorem fnd_bad {b : Bool} (h : b = false) (l : List UInt8) (wr : Int) : fnd (0, l) b wr = wr := by rw [h]; rfl
theorem fnd_good {b : Bool} (h : b = true) (l : List UInt8) (wr : Int) : fnd (0, l) b wr = 0 := by rw [h]; rfl
/-- Behind the number. -/
theorem cf2_d (r : List UInt8) : (cf2 (getF r 1).1 (fixS (0, r) 1)).1 = ((dE2 r : Nat) : Int) ∧ (dE2 r = 0 → (cf2 (getF r 1).1 (fixS (0, r) 1)).2 = (0, (getB (r.drop 3) 64).2.1) ∧ (getF r 1).1 = (r.getD 0 0).toNat ∧ (getF (fixS (0, r) 1).2 1).1 = (r.getD 1 0).toNat ∧ (getF (fixS (fixS (0, r) 1) 1).2 1).1 = (r.getD 2 0).toNat ∧ (fixS (fixS (fixS (0, r) 1) 1) 1).2 = r.drop 3) := by
  match r with
  | [] =>
    rw [fixS_nil]
    unfold cf2 dE2
    rw [fnd_err (by decide), if_neg (by decide), if_pos rfl]
    exact ⟨rfl, fun h => by cases h⟩
  | b0 :: r1 =>
    rw [fixS_cons, getF1_cons]
    unfold cf2
    by_cases h0 : 63 < b0.toNat
    · rw [fnd_bad (by rw [ndOk_byte]; simpa using h0), if_neg (by decide)]
      have : dE2 (b0 :: r1) = 8 := by unfold dE2; rw [if_neg (by simp), if_pos (by simpa using h0)]
      rw [this]
      exact ⟨rfl, fun h => by cases h⟩
    · rw [fnd_good (by rw [ndOk_byte]; simpa using h0), if_pos rfl]
      match r1 with
      | [] =>
        simp only [fixS_nil, fixS_three]
        unfold cf3
        rw [fnd_err (by decide), if_neg (by decide)]
        have : dE2 [b0] = 3 := by unfold dE2; rw [if_neg (by simp), if_neg (by simpa using h0), if_pos (by simp)]
        rw [this]
        exact ⟨rfl, fun h => by cases h⟩
      | b1 :: r2 =>
        simp only [fixS_cons, getF1_cons]
        match r2 with
        | [] =>
          simp only [fixS_nil]
          unfold cf3
          rw [fnd_err (by decide), if_neg (by decide)]
          have : dE2 [b0, b1] = 3 := by unfold dE2; rw [if_neg (by simp), if_neg (by simpa using h0), if_pos (by simp)]
          rw [this]
          exact ⟨rfl, fun h => by cases h⟩
        | b2 :: r3 =>
          simp only [fixS_cons, getF1_cons]
          have hd : dE2 (b0 :: b1 :: b2 :: r3) = dE3 (b0 :: b1 :: b2 :: r3) := by unfold dE2; rw [if_neg (by simp), if_neg (by simpa using h0), if_neg (by simp only [List.length_cons]; omega)]
          rw [hd]
          unfold cf3 dE3
          by_cases h12 : b2.toNat ≤ b1.toNat
          · rw [fnd_bad (by rw [plOk_byte]; simpa using h12), if_neg (by decide), if_pos (by simpa using h12)]
            exact ⟨rfl, fun h => by cases h⟩
          · rw [fnd_good (by rw [plOk_byte]; simpa using h12), if_pos rfl, if_neg (by simpa using h12), bytS_at]
            simp only [List.drop_succ_cons, List.drop_zero]
            by_cases he : (getB r3 64).2.2 = 0
            · rw [if_pos he, he]
              exact ⟨rfl, fun _ => by simp⟩
            · rw [if_neg he]
              exact ⟨rfl, fun h => absurd h he⟩
/-- All of it. -/
theorem cf_d (p : Pk) (l : List UInt8) : (cfR (0, l)).1 = ((dE l : Nat) : Int) ∧ (dE l = 0 → (cfR (0, l)).2 = (0, dR l) ∧ chF p (0, l) = dP p l) := by
  have hlt := getN_lt l
  unfold cfR cf1
  by_cases h1 : (getN l).2.2 = 0
  · rw [numS_ok h1]
    by_cases hx : 1152921504606846976 < (getN l).1
    · have hd : dE l = 2 := by unfold dE; rw [if_neg (by omega), if_pos hx]
      simp only []
      rw [hd, fnd_bad (by rw [noOk_sg hlt]; simpa using hx), if_neg (by decide)]
      exact ⟨rfl, fun h => by cases h⟩
    · have hd : dE l = dE2 (getN l).2.1 := by unfold dE; rw [if_neg (by omega), if_neg hx]
      simp only []
      rw [hd, fnd_good (by rw [noOk_sg hlt]; simpa using hx), if_pos rfl]
      obtain ⟨q1, q2⟩ := cf2_d (getN l).2.1
      refine ⟨q1, fun h => ?_⟩
      obtain ⟨g1, g2, g3, g4, g5⟩ := q2 h
      refine ⟨g1, ?_⟩
      unfold chF dP
      rw [numS_ok h1]
      simp only [g2, g3, g4, g5]
  · rw [numS_bad h1]
    have hd : dE l = (getN l).2.2 := by unfold dE; rw [if_pos h1]
    simp only []
    rw [hd, fnd_err (by omega), if_neg (by omega)]
    exact ⟨rfl, fun h => absurd h h1⟩
/-- A chunk's bytes behind its head. -/
def chuB (p : Pk) : List UInt8 := sev (un p.no) ++ [kb p.to, kb p.index, kb p.total] ++ (sev p.body.length ++ p.body)
theorem chuB_len (p : Pk) (hb : p.body.length ≤ 80) : (chuB p).length ≤ 103 := by
  have h1 := sev_len10 (un p.no) (un_lt _)
  have h2 := sev_len10 p.body.length (by omega)
  unfold chuB
  simp only [List.length_append, List.length_cons, List.length_nil]
  omega
theorem cwB {m : Nat} {l : List UInt8} (b : List UInt8) (h : l.length + b.length ≤ m) : wByte m (0, l) b = (0, l ++ b) := wByte_fits b rfl (by simp only; omega)
/-- All of it fits. -/
theorem chu_fits (m : Nat) (p : Pk) (h : (chuB p).length ≤ m) : chuS m (0, []) p = (0, chuB p) := by
  unfold chuB at h ⊢
  simp only [List.length_append, List.length_cons, List.length_nil] at h
  unfold chuS wBytes wNum
  rw [cwB (l := []) _ (by simp only [List.length_nil]; omega), List.nil_append,
    cwB _ (by simp only [List.length_cons, List.length_nil]; omega),
    cwB _ (by simp only [List.length_append, List.length_cons, List.length_nil]; omega),
    cwB _ (by simp only [List.length_append, List.length_cons, List.length_nil]; omega)]
  simp only [List.append_assoc]
/-- A packet's head alone. -/
def headC (p : Pk) : Pk := ⟨6, p.key, p.hops, 0, 0, 0, 0, 0, 0, none, 0, []⟩
theorem kb_small {x : Int} (h0 : 0 ≤ x) (h1 : x < 256) : ((kb x).toNat : Int) = x := by
  rw [kb_val, IntKind.wrap_u8]
  omega
/-- A good chunk's head alone, the rest got again: the chunk. -/
theorem chu_got (p : Pk) (h : chuG p = true) :
    dE (chuB p) = 0 ∧ dR (chuB p) = [] ∧ ∀ ad cap, eqP p (memP (dP (headC p) (chuB p)) ad cap) = true := by
  obtain ⟨hk, -, hn, ht, hpl, hb, hs, hv⟩ := (chuG_iff p).1 h
  have hno : sg (un p.no) = p.no := sg_un p.no (by omega)
  have g := getN_sev (un p.no) (un_lt _) ([kb p.to, kb p.index, kb p.total] ++ (sev p.body.length ++ p.body))
  rw [← List.append_assoc] at g
  have hx : ¬ 1152921504606846976 < un p.no := by unfold un; omega
  have gb : getB (sev p.body.length ++ p.body) 64 = (p.body, [], 0) := by
    have hg : getN (sev p.body.length ++ p.body) = (p.body.length, p.body, 0) := getN_sev p.body.length (by omega) p.body
    unfold getB
    rw [hg]
    have h1 : ¬ ((64 : Int) < 0 ∨ (64 : Int) < (p.body.length : Int)) := by omega
    simp [h1]
    omega
  have t1 := kb_small ht.1 (by omega)
  have t2 := kb_small hpl.2.2.1 (by omega)
  have t3 := kb_small (x := p.total) (by omega) (by omega)
  have e1 : dE (chuB p) = 0 := by
    unfold dE chuB
    rw [g, if_neg (by simp), if_neg hx]
    simp only [List.cons_append, List.nil_append]
    unfold dE2
    rw [if_neg (by simp), if_neg (by simp only [List.getD_cons_zero]; omega), if_neg (by simp only [List.length_cons]; omega)]
    unfold dE3
    rw [if_neg (by simp only [List.getD_cons_succ, List.getD_cons_zero]; omega)]
    simp only [List.drop_succ_cons, List.drop_zero, gb]
  refine ⟨e1, ?_, fun ad cap => (eqP_iff _ _).2 ?_⟩
  · unfold dR chuB
    rw [g]
    simp only [List.cons_append, List.nil_append, List.drop_succ_cons, List.drop_zero, gb]
  · unfold dP memP headC chuB
    rw [g]
    simp only [List.cons_append, List.nil_append, List.drop_succ_cons, List.drop_zero, gb, List.getD_cons_succ, List.getD_cons_zero]
    exact ⟨hk, trivial, trivial, hno.symm, t1.symm, t2.symm, t3.symm, hs, hv, trivial⟩
end Go.Proofs.Ytidfdlpdacbkoaa.Chu
