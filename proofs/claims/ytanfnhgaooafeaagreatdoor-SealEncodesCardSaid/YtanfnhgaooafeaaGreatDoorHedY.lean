/- HedQ HedR, laid into one. -/
import Derived.Test.YtanfnhgaooafeaaGreatDoorHedN
import Derived.Test.YtanfnhgaooafeaaGreatDoorHedP
import Derived.Test.YtanfnhgaooafeaaGreatDoorHedX
/-! HedQ -/
namespace Go.Proofs.YtanfnhgaooafeaaGreatDoor.Hed
open Go.ChangeShapes Go.WideShapes Go.ChangeAt Go.RowKit Go.Deep
open Go.Proofs.YtanfnhgaooafeaaGreatDoor.Byt Go.Proofs.YtanfnhgaooafeaaGreatDoor.Key Go.Proofs.YtanfnhgaooafeaaGreatDoor.Buf Go.Proofs.YtanfnhgaooafeaaGreatDoor.BufM
set_option linter.unusedVariables false
set_option linter.unusedSimpArgs false
theorem getF1_nil : getF [] 1 = (0, [], 3) := by unfold getF; rw [if_neg (by omega), if_pos (by simp)]
theorem getF1_cons (b : UInt8) (r : List UInt8) : getF (b :: r) 1 = (b.toNat, r, 0) := by
  unfold getF
  rw [if_neg (by omega), if_neg (by simp; omega)]
  simp [fixN]
theorem fixS_nil : fixS (0, []) 1 = (3, []) := by unfold fixS; simp only [getF1_nil]; rfl
theorem fixS_cons (b : UInt8) (r : List UInt8) : fixS (0, b :: r) 1 = (0, r) := by unfold fixS; simp only [getF1_cons]; rfl
theorem numS_ok {l : List UInt8} (h : (getN l).2.2 = 0) : numS (0, l) = (0, (getN l).2.1) := by unfold numS upd; rw [if_pos h]
theorem numS_bad {l : List UInt8} (h : (getN l).2.2 ≠ 0) : numS (0, l) = ((((getN l).2.2 : Nat) : Int), ([] : List UInt8)) := by unfold numS upd; rw [if_neg h]; simp
theorem fix4_ok {l : List UInt8} (h : (getF l 4).2.2 = 0) : fixS (0, l) 4 = (0, (getF l 4).2.1) := by unfold fixS upd; rw [if_pos h]
theorem fix4_bad {l : List UInt8} (h : (getF l 4).2.2 ≠ 0) : fixS (0, l) 4 = ((((getF l 4).2.2 : Nat) : Int), ([] : List UInt8)) := by unfold fixS upd; rw [if_neg h]; simp
/-- The program's reading and the document's are one. -/
def One (X : Pk × Int × St) (Y : RR3) : Prop := (if X.2.1 = 0 then (X.1, 0) else (zero, X.2.1)) = (Y.1, (Y.2.2 : Int)) ∧ (Y.2.2 = 0 → X.2.2 = (0, Y.2.1))
theorem One.bad {P : Pk} {e : Int} {s : St} {c : Nat} (h : e = c) (hc : c ≠ 0) : One (P, e, s) (zero, [], c) := by
  subst h
  refine ⟨?_, fun h => absurd h hc⟩
  simp only
  rw [if_neg (by omega)]
theorem One.good (P : Pk) (l : List UInt8) : One (P, 0, (0, l)) (P, l, 0) := ⟨by simp, fun _ => rfl⟩
theorem fnd_yes (l : List UInt8) (wr : Int) : fnd (0, l) true wr = 0 := rfl
theorem fnd_no (l : List UInt8) (wr : Int) : fnd (0, l) false wr = wr := rfl
theorem fnd_err {e : Int} (h : e ≠ 0) (l : List UInt8) (b : Bool) (wr : Int) : fnd (e, l) b wr = e := by unfold fnd; rw [if_neg h]
theorem one5 (k h t f : Nat) (l : List UInt8) (hg : goodK ((t : Nat), (f : Nat), 0) = true) : One (gt4 k h t f (0, l)) (rg5 k h t f l) := by
  unfold gt4 rg5
  rw [hg, if_pos (fnd_yes _ _)]
  by_cases he : (getF l 4).2.2 = 0
  · rw [if_neg (by omega)]
    simp only [fix4_ok he]
    exact One.good _ _
  · rw [if_pos he]
    simp only [fix4_bad he]
    exact One.bad rfl he
theorem one4 (k h t : Nat) (l : List UInt8) (ht : (t : Int) ≤ 1152921504606846976) : One (gt4 k h t (getF l 1).1 (fixS (0, l) 1)) (rg4 k h t l) := by
  cases l with
  | nil =>
    unfold rg4
    rw [if_pos rfl, getF1_nil, fixS_nil]
    unfold gt4
    rw [fnd_err (by decide), if_neg (by decide)]
    exact One.bad rfl (by decide)
  | cons f r =>
    unfold rg4
    rw [if_neg (by simp), getF1_cons, fixS_cons]
    simp only [List.getD_cons_zero, List.drop_succ_cons, List.drop_zero]
    by_cases hf : 63 < f.toNat
    · rw [if_pos hf]
      have hg : goodK (((t : Nat) : Int), ((f.toNat : Nat) : Int), 0) = false := by unfold goodK; simp only; exact decide_eq_false (by omega)
      unfold gt4
      rw [hg, fnd_no, if_neg (by decide)]
      exact One.bad rfl (by decide)
    · rw [if_neg hf]
      refine one5 k h t f.toNat r ?_
      unfold goodK; simp only; exact decide_eq_true (by omega)
theorem one3 (k h : Nat) (l : List UInt8) : One (gt3 k h (getN l).1 (numS (0, l))) (rg3 k h l) := by
  unfold rg3
  by_cases he : (getN l).2.2 = 0
  · rw [if_neg (by omega), numS_ok he]
    unfold gt3
    by_cases ht : 1152921504606846976 < (getN l).1
    · rw [if_pos ht, show decide ((((getN l).1 : Nat) : Int) ≤ 1152921504606846976) = false from decide_eq_false (by omega), fnd_no, if_neg (by decide)]
      exact One.bad rfl (by decide)
    · rw [if_neg ht, show decide ((((getN l).1 : Nat) : Int) ≤ 1152921504606846976) = true from decide_eq_true (by omega), fnd_yes, if_pos rfl]
      exact one4 k h _ _ (by omega)
  · rw [if_pos he, numS_bad he]
    unfold gt3
    rw [fnd_err (by omega), if_neg (by omega)]
    exact One.bad rfl he
theorem one2 (k : Nat) (b : UInt8) (r : List UInt8) : One (gt2 k (getF r 1).1 (fixS (0, r) 1)) (rg2 k (b :: r)) := by
  unfold rg2
  cases r with
  | nil =>
    rw [if_pos (show [b].length = 1 from rfl), getF1_nil, fixS_nil]
    unfold gt2
    rw [fnd_err (by decide), if_neg (by decide)]
    exact One.bad rfl (by decide)
  | cons c r =>
    rw [if_neg (by simp), getF1_cons, fixS_cons]
    simp only [List.getD_cons_succ, List.getD_cons_zero, List.drop_succ_cons, List.drop_zero]
    unfold gt2
    cases hh : okHops ((c.toNat : Nat) : Int) with
    | false =>
      rw [if_pos (show false = false from rfl), fnd_no, if_neg (by decide)]
      exact One.bad rfl (by decide)
    | true =>
      rw [if_neg (show ¬ (true = false) by decide), fnd_yes, if_pos (show (0 : Int) = 0 from rfl)]
      exact one3 k _ r
theorem one0 (l : List UInt8) : One (gt (0, l)) (rg l) := by
  unfold gt rg
  cases l with
  | nil =>
    rw [if_pos rfl]
    simp only [getF1_nil, fixS_nil]
    unfold gt1
    rw [fnd_err (by decide), if_neg (by decide)]
    exact One.bad rfl (by decide)
  | cons b r =>
    rw [if_neg (by simp)]
    simp only [getF1_cons, fixS_cons, List.getD_cons_zero]
    unfold gt1 rg1
    cases hk : isKb ((b.toNat : Nat) : Int) with
    | false =>
      rw [if_pos (show false = false from rfl), fnd_no, if_neg (fun h => absurd h.1 (by decide))]
      exact One.bad rfl (by decide)
    | true =>
      rw [if_neg (show ¬ (true = false) by decide), fnd_yes]
      cases hf : flo ((b.toNat : Nat) : Int) with
      | false =>
        rw [if_neg (fun h => absurd h.2 (by decide)), if_pos (show false = false from rfl)]
        exact One.good _ _
      | true =>
        rw [if_pos (show (0 : Int) = 0 ∧ true = true from ⟨rfl, rfl⟩), if_neg (show ¬ (true = false) by decide)]
        exact one2 _ b r
theorem ht_rg (l : List UInt8) : ht (0, l) = ((rg l).1, ((rg l).2.2 : Int)) := (one0 l).1
theorem gt_rest (l : List UInt8) (h : (rg l).2.2 = 0) : (gt (0, l)).2.2 = (0, (rg l).2.1) := (one0 l).2 h
end Go.Proofs.YtanfnhgaooafeaaGreatDoor.Hed
/-! HedR -/
namespace Go.Proofs.YtanfnhgaooafeaaGreatDoor.Hed
open Go.ChangeShapes Go.WideShapes Go.ChangeAt Go.RowKit Go.Deep
open Go.Proofs.YtanfnhgaooafeaaGreatDoor.Byt Go.Proofs.YtanfnhgaooafeaaGreatDoor.Key Go.Proofs.YtanfnhgaooafeaaGreatDoor.Buf Go.Proofs.YtanfnhgaooafeaaGreatDoor.BufM
set_option linter.unusedVariables false
set_option linter.unusedSimpArgs false
theorem wB {m : Nat} {l : List UInt8} (b : List UInt8) (h : l.length + b.length ≤ m) : wByte m (0, l) b = (0, l ++ b) := wByte_fits b rfl (by simp only; omega)
theorem puts_fit (p : Pk) : putS (100 : Int).toNat (0, []) p = (0, headB p) := by
  have hs := sev_len10 (un p.key.1) (un_lt _)
  have hx := fixB_len 4 (un p.key.2.2)
  have hm : (100 : Int).toNat = 100 := rfl
  rw [hm]
  unfold putS headB
  split
  · rw [wB [kb p.kind] (by simp)]
    rw [wB [kb p.hops] (by simp)]
    unfold wNum
    rw [wB (sev (un p.key.1)) (by simp; omega)]
    rw [wB [kb p.key.2.1] (by simp; omega)]
    unfold wFix
    rw [if_pos (by decide), show (4 : Int).toNat = 4 from rfl]
    rw [wB (fixB (un p.key.2.2) 4) (by simp; omega)]
    simp
  · rw [wB [kb p.kind] (by simp)]
    simp
theorem kb_nat (k : Nat) (h : k < 256) : (kb (k : Int)).toNat = k := by
  unfold kb
  rw [toNat_of (by omega)]
  omega
theorem un_nat (t : Nat) (h : t < 18446744073709551616) : un (t : Int) = t := by unfold un; omega
theorem headB_read (p : Pk) (hk : Key.ok p.key) (h : gd p = true) :
    ∃ k hh t f q : Nat, p.kind = k ∧ p.hops = hh ∧ p.key = ((t : Int), (f : Int), (q : Int)) ∧ rg (headB p) = (hpk k hh t f q, [], 0) := by
  unfold gd at h
  obtain ⟨kind, ⟨t, f, q⟩, hops, no, to, index, total, stamp, value, ad, cap, body⟩ := p
  obtain ⟨-, -, hq0, hq1⟩ := hk
  simp only at h hq0 hq1
  obtain ⟨q, rfl⟩ := Int.eq_ofNat_of_zero_le hq0
  cases hf : flo kind with
  | true =>
    rw [hf, if_pos rfl] at h
    obtain ⟨h1, h2⟩ : okHops hops = true ∧ goodK (t, f, (q : Int)) = true := by simpa using h
    obtain ⟨hk1, hk2⟩ := of_decide_eq_true (show decide (3 ≤ kind ∧ kind ≤ 6) = true from hf)
    obtain ⟨hh1, hh2⟩ := of_decide_eq_true (show decide (1 ≤ hops ∧ hops ≤ 63) = true from h1)
    obtain ⟨ht1, ht2, hf1, hf2⟩ := of_decide_eq_true (show decide (0 ≤ t ∧ t ≤ 1152921504606846976 ∧ 0 ≤ f ∧ f < 64) = true from h2)
    obtain ⟨k, rfl⟩ := Int.eq_ofNat_of_zero_le (show 0 ≤ kind by omega)
    obtain ⟨hh, rfl⟩ := Int.eq_ofNat_of_zero_le (show 0 ≤ hops by omega)
    obtain ⟨t, rfl⟩ := Int.eq_ofNat_of_zero_le ht1
    obtain ⟨f, rfl⟩ := Int.eq_ofNat_of_zero_le hf1
    refine ⟨k, hh, t, f, q, rfl, rfl, rfl, ?_⟩
    have e : headB ⟨(k : Int), ((t : Int), (f : Int), (q : Int)), (hh : Int), no, to, index, total, stamp, value, ad, cap, body⟩ = kb (k : Int) :: kb (hh : Int) :: (sev t ++ (kb (f : Int) :: (fixB q 4 ++ []))) := by
      unfold headB
      simp only
      rw [if_pos hf, un_nat t (by omega), un_nat q (by omega)]
      simp
    rw [e]
    unfold rg
    rw [if_neg (by simp)]
    simp only [List.getD_cons_zero, kb_nat k (by omega)]
    unfold rg1
    rw [if_neg (by rw [show isKb (k : Int) = true from decide_eq_true (by omega)]; decide), if_neg (by rw [hf]; decide)]
    unfold rg2
    have hlen : ¬ ((kb (k : Int) :: kb (hh : Int) :: (sev t ++ (kb (f : Int) :: (fixB q 4 ++ [])))).length = 1) := by simp
    rw [if_neg hlen]
    simp only [List.getD_cons_succ, List.getD_cons_zero, kb_nat hh (by omega), List.drop_succ_cons, List.drop_zero]
    rw [if_neg (by rw [h1]; decide)]
    unfold rg3
    rw [getN_sev t (by omega)]
    simp only
    rw [if_neg (by decide), if_neg (by omega)]
    unfold rg4
    rw [if_neg (by simp)]
    simp only [List.getD_cons_zero, kb_nat f (by omega), List.drop_succ_cons, List.drop_zero]
    rw [if_neg (by omega)]
    unfold rg5
    have hgf := getF_fix q 4 (by omega) (by omega) []
    rw [show (4 : Int).toNat = 4 from rfl] at hgf
    rw [hgf]
    simp only
    rw [if_neg (by decide), Nat.mod_eq_of_lt (by omega)]
  | false =>
    rw [hf, if_neg (by decide)] at h
    obtain ⟨⟨⟨hk1, hk2⟩, h2⟩, h3⟩ : ((1 ≤ kind ∧ kind ≤ 2) ∧ hops = 0) ∧ eqK (t, f, (q : Int)) (0, 0, 0) = true := by simpa using h
    have h3 := of_decide_eq_true (show decide ((t, f, (q : Int)) = (0, 0, 0)) = true from h3)
    simp only [Prod.mk.injEq] at h3
    obtain ⟨rfl, rfl, h3⟩ := h3
    obtain rfl : q = 0 := by omega
    subst h2
    obtain ⟨k, rfl⟩ := Int.eq_ofNat_of_zero_le (show 0 ≤ kind by omega)
    refine ⟨k, 0, 0, 0, 0, rfl, rfl, rfl, ?_⟩
    unfold headB
    simp only
    rw [if_neg (by rw [hf]; decide)]
    unfold rg
    rw [if_neg (by simp)]
    simp only [List.getD_cons_zero, kb_nat k (by omega)]
    unfold rg1
    rw [if_neg (by rw [show isKb (k : Int) = true from decide_eq_true (by omega)]; decide), if_pos hf]
    simp
end Go.Proofs.YtanfnhgaooafeaaGreatDoor.Hed
namespace Go.Proofs.YtanfnhgaooafeaaGreatDoor.Hed
open Go.ChangeShapes Go.WideShapes Go.ChangeAt Go.RowKit Go.Deep
open Go.Proofs.YtanfnhgaooafeaaGreatDoor.Byt Go.Proofs.YtanfnhgaooafeaaGreatDoor.Key Go.Proofs.YtanfnhgaooafeaaGreatDoor.Buf Go.Proofs.YtanfnhgaooafeaaGreatDoor.BufM
theorem rg_body (l : List UInt8) : (rg l).1.body = [] := by
  have z : zero.body = [] := rfl
  unfold rg
  split
  · rfl
  unfold rg1
  split
  · rfl
  split
  · rfl
  unfold rg2
  split
  · rfl
  split
  · rfl
  unfold rg3
  split
  · rfl
  split
  · rfl
  unfold rg4
  split
  · rfl
  split
  · rfl
  unfold rg5
  split <;> rfl
end Go.Proofs.YtanfnhgaooafeaaGreatDoor.Hed
