/- Get of both at once; what was put is got (layer 12). -/
import Derived.Test.YtepcbklokcfbfaaAttG
import Derived.Test.YtepcbklokcfbfaaAttR
namespace Go.Proofs.Ytepcbklokcfbfaa.Att
open Go.ChangeShapes Go.WideShapes Go.ChangeAt Go.RowKit Go.Deep
open Go.Proofs.Ytepcbklokcfbfaa.Byt Go.Proofs.Ytepcbklokcfbfaa.Key Go.Proofs.Ytepcbklokcfbfaa.Buf Go.Proofs.Ytepcbklokcfbfaa.Hed Go.Proofs.Ytepcbklokcfbfaa.Dat Go.Proofs.Ytepcbklokcfbfaa.BufM Go.Proofs.Ytepcbklokcfbfaa.Pkt
set_option linter.unusedVariables false
set_option linter.unusedSimpArgs false
/-- What is wrong behind the head. -/
def atE (l : List UInt8) : Nat := if (getN l).2.2 = 0 then (if 1152921504606846976 < (getN l).1 then 2 else 0) else (getN l).2.2
/-- The packet with the number that stands there. -/
def filA (p : Pk) (l : List UInt8) : Pk := { p with no := sg (getN l).1 }
/-- What stands behind it. -/
def rgR (l : List UInt8) : List UInt8 := (getN l).2.1
theorem atE_no {l : List UInt8} (h : (getN l).2.2 ≠ 0) : atE l = (getN l).2.2 := by unfold atE; rw [if_neg h]
theorem atE_much {l : List UInt8} (h : (getN l).2.2 = 0) (hx : 1152921504606846976 < (getN l).1) : atE l = 2 := by unfold atE; rw [if_pos h, if_pos hx]
theorem atE_ok {l : List UInt8} (h : atE l = 0) : (getN l).2.2 = 0 ∧ (getN l).1 ≤ 1152921504606846976 := by
  unfold atE at h
  by_cases h1 : (getN l).2.2 = 0
  · rw [if_pos h1] at h
    by_cases h2 : 1152921504606846976 < (getN l).1
    · rw [if_pos h2] at h; cases h
    · exact ⟨h1, by omega⟩
  · rw [if_neg h1] at h
    exact absurd h h1
/-- Get where something is wrong. -/
theorem uaget_bad (p : Pk) (g : Nat) (l : List UInt8) (w : World) (h : RR w g (0, l)) (he : atE l ≠ 0) :
    Calls Try.prog 19 #[.pointer (some ⟨g, 0, none⟩), pval p] w fun e w' => e = .returned (.tuple #[pval zero, .int .i64 ((atE l : Nat) : Int)]) ∧ RStep w w' g := by
  by_cases h1 : (getN l).2.2 = 0
  · by_cases h2 : 1152921504606846976 < (getN l).1
    · rw [atE_much h1 h2]
      exact (aget_range p g (0, l) w h (by rw [numS_zero, if_pos h1]) h2).mono fun e w' hq => ⟨hq.1, hq.2.2⟩
    · exact absurd (by unfold atE; rw [if_pos h1, if_neg h2]) he
  · have hs : (numS (0, l)).1 = (((getN l).2.2 : Nat) : Int) := by rw [numS_zero, if_neg h1]
    have := aget_err p g (0, l) w h (by rw [hs]; omega)
    rw [hs] at this
    rw [atE_no h1]
    exact this.mono fun e w' hq => ⟨hq.1, hq.2.2⟩
/-- Get where nothing is wrong. -/
theorem uaget_ok (p : Pk) (g : Nat) (l : List UInt8) (w : World) (h : RR w g (0, l)) (he : atE l = 0) (hr : RdB w p.ad p.body) (hn : p.ad = none → p.cap = 0) (hle : p.body.length ≤ p.cap) (hm : p.cap ≤ 140737488355328) :
    Calls Try.prog 19 #[.pointer (some ⟨g, 0, none⟩), pval p] w fun e w' => ∃ ad cap, e = .returned (.tuple #[pval (memP (filA p l) ad cap), .int .i64 0]) ∧ Hid (RdB w' ad p.body) ∧ Hid (RR w' g (0, rgR l)) ∧ Hid (RStep w w' g) := by
  obtain ⟨h1, h2⟩ := atE_ok he
  have hs : numS (0, l) = (0, rgR l) := by rw [numS_zero, if_pos h1]; rfl
  have := aget_ok p g (0, l) w h (by rw [hs]) h2 hr hn hle hm
  refine this.mono fun e w' hq => ?_
  obtain ⟨ad, cap, rfl, q1, q2, q3⟩ := hq
  rw [hs] at q2
  exact ⟨ad, cap, rfl, q1, q2, q3⟩
/-- The document's Get where something is wrong. -/
theorem draget_bad (p : Pk) (ad0 : Option Addr) (len0 cap0 G : Nat) (l : List UInt8) (w : World) (h : RdS w G ad0 len0 cap0 l) (hG : G ≤ w.heap.size) (he : atE l ≠ 0) :
    Calls Try.prog 21 #[.slice ad0 len0 cap0, pval p] w fun e w' => e = .returned (.tuple #[pval zero, .slice none 0 0, .int .i64 ((atE l : Nat) : Int)]) ∧ Below w.heap.size w w' := by
  by_cases h1 : (getN l).2.2 = 0
  · by_cases h2 : 1152921504606846976 < (getN l).1
    · rw [atE_much h1 h2]
      exact ragk_range p ad0 len0 cap0 G l w h hG h1 h2
    · exact absurd (by unfold atE; rw [if_pos h1, if_neg h2]) he
  · rw [atE_no h1]
    exact ragk_err p ad0 len0 cap0 G l w h hG h1
/-- The document's Get where nothing is wrong. -/
theorem draget_ok (p : Pk) (ad0 : Option Addr) (len0 cap0 G : Nat) (l : List UInt8) (w : World) (h : RdS w G ad0 len0 cap0 l) (hG : G ≤ w.heap.size) (he : atE l = 0) :
    Calls Try.prog 21 #[.slice ad0 len0 cap0, pval p] w (RGo (filA p l) (rgR l).length w) := by
  obtain ⟨h1, h2⟩ := atE_ok he
  exact ragk_ok p ad0 len0 cap0 G l w h hG h1 h2
/-- What was put. -/
theorem att_fits (n : Int) : wNum (40 : Int).toNat (0, []) (un n) = (0, sev (un n)) := by
  unfold wNum
  rw [wByte_fits _ rfl (by have := sev_len10 (un n) (un_lt _); show ¬ 40 - ([] : List UInt8).length < _; simp only [List.length_nil]; omega)]
  rfl
theorem fil_same (p : Pk) (l : List UInt8) : (filA p l).ad = p.ad ∧ (filA p l).cap = p.cap ∧ (filA p l).body = p.body := ⟨rfl, rfl, rfl⟩
/-- The packet's head alone. -/
def headA (p : Pk) : Pk := ⟨5, p.key, p.hops, 0, 0, 0, 0, 0, 0, none, 0, []⟩
/-- A good packet's head alone, the number got again: the packet. -/
theorem att_got (p : Pk) (h : attG p = true) :
    atE (sev (un p.no)) = 0 ∧ rgR (sev (un p.no)) = [] ∧ ∀ ad cap, eqP p (memP (filA (headA p) (sev (un p.no))) ad cap) = true := by
  obtain ⟨hk, -, hn, h1, h2, h3, h4, h5, h6⟩ := (attG_iff p).1 h
  have hno : sg (un p.no) = p.no := sg_un p.no (by omega)
  have g := getN_sev (un p.no) (un_lt _) []
  rw [List.append_nil] at g
  have hx : ¬ 1152921504606846976 < un p.no := by unfold un; omega
  unfold atE rgR filA memP headA
  simp only [g, if_true, if_neg hx]
  refine ⟨trivial, trivial, fun ad cap => (eqP_iff _ _).2 ?_⟩
  simp only
  exact ⟨hk, trivial, trivial, hno.symm, h1, h2, h3, h4, h5, h6⟩
end Go.Proofs.Ytepcbklokcfbfaa.Att
