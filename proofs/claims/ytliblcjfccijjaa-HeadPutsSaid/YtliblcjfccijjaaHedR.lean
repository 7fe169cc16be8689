/- What was written is read again (layer 9): plain. -/
import Derived.Test.YtliblcjfccijjaaHedQ
import Derived.Test.YtliblcjfccijjaaHedO
namespace Go.Proofs.Ytliblcjfccijjaa.Hed
open Go.ChangeShapes Go.WideShapes Go.ChangeAt Go.RowKit Go.Deep
open Go.Proofs.Ytliblcjfccijjaa.Byt Go.Proofs.Ytliblcjfccijjaa.Key Go.Proofs.Ytliblcjfccijjaa.Buf Go.Proofs.Ytliblcjfccijjaa.BufM
set_option linter.unusedVariables false
set_option linter.unusedSimpArgs false
theorem wB {m : Nat} {l : List UInt8} (b : List UInt8) (h : l.length + b.length ≤ m) : wByte m (0, l) b = (0, l ++ b) := wByte_fits b rfl (by simp only; omega)
theorem puts_fit (p : Pk) : putS (100 : Int).toNat (0, []) p = (0, headB p) := by
  have hs := sev_len10 (un p.key.1) (un_lt _)
  have hx := fixB_len 4 (un p.key.2.2)
  have hm : (100 : Int).toNat = 100 := rfl
  rw [hm]
  unfold putS headB
  split
  · rw [wB [kb p.kind] (by simp)]
    rw [wB [kb p.hops] (by simp)]
    unfold wNum
    rw [wB (sev (un p.key.1)) (by simp; omega)]
    rw [wB [kb p.key.2.1] (by simp; omega)]
    unfold wFix
    rw [if_pos (by decide), show (4 : Int).toNat = 4 from rfl]
    rw [wB (fixB (un p.key.2.2) 4) (by simp; omega)]
    simp
  · rw [wB [kb p.kind] (by simp)]
    simp
theorem kb_nat (k : Nat) (h : k < 256) : (kb (k : Int)).toNat = k := by
  unfold kb
  rw [toNat_of (by omega)]
  omega
theorem un_nat (t : Nat) (h : t < 18446744073709551616) : un (t : Int) = t := by unfold un; omega
theorem headB_read (p : Pk) (hk : Key.ok p.key) (h : gd p = true) :
    ∃ k hh t f q : Nat, p.kind = k ∧ p.hops = hh ∧ p.key = ((t : Int), (f : Int), (q : Int)) ∧ rg (headB p) = (hpk k hh t f q, [], 0) := by
  unfold gd at h
  obtain ⟨kind, ⟨t, f, q⟩, hops, no, to, index, total, stamp, value, ad, cap, body⟩ := p
  obtain ⟨-, -, hq0, hq1⟩ := hk
  simp only at h hq0 hq1
  obtain ⟨q, rfl⟩ := Int.eq_ofNat_of_zero_le hq0
  cases hf : flo kind with
  | true =>
    rw [hf, if_pos rfl] at h
    obtain ⟨h1, h2⟩ : okHops hops = true ∧ goodK (t, f, (q : Int)) = true := by simpa using h
    obtain ⟨hk1, hk2⟩ := of_decide_eq_true (show decide (3 ≤ kind ∧ kind ≤ 6) = true from hf)
    obtain ⟨hh1, hh2⟩ := of_decide_eq_true (show decide (1 ≤ hops ∧ hops ≤ 63) = true from h1)
    obtain ⟨ht1, ht2, hf1, hf2⟩ := of_decide_eq_true (show decide (0 ≤ t ∧ t ≤ 1152921504606846976 ∧ 0 ≤ f ∧ f < 64) = true from h2)
    obtain ⟨k, rfl⟩ := Int.eq_ofNat_of_zero_le (show 0 ≤ kind by omega)
    obtain ⟨hh, rfl⟩ := Int.eq_ofNat_of_zero_le (show 0 ≤ hops by omega)
    obtain ⟨t, rfl⟩ := Int.eq_ofNat_of_zero_le ht1
    obtain ⟨f, rfl⟩ := Int.eq_ofNat_of_zero_le hf1
    refine ⟨k, hh, t, f, q, rfl, rfl, rfl, ?_⟩
    have e : headB ⟨(k : Int), ((t : Int), (f : Int), (q : Int)), (hh : Int), no, to, index, total, stamp, value, ad, cap, body⟩ = kb (k : Int) :: kb (hh : Int) :: (sev t ++ (kb (f : Int) :: (fixB q 4 ++ []))) := by
      unfold headB
      simp only
      rw [if_pos hf, un_nat t (by omega), un_nat q (by omega)]
      simp
    rw [e]
    unfold rg
    rw [if_neg (by simp)]
    simp only [List.getD_cons_zero, kb_nat k (by omega)]
    unfold rg1
    rw [if_neg (by rw [show isKb (k : Int) = true from decide_eq_true (by omega)]; decide), if_neg (by rw [hf]; decide)]
    unfold rg2
    have hlen : ¬ ((kb (k : Int) :: kb (hh : Int) :: (sev t ++ (kb (f : Int) :: (fixB q 4 ++ [])))).length = 1) := by simp
    rw [if_neg hlen]
    simp only [List.getD_cons_succ, List.getD_cons_zero, kb_nat hh (by omega), List.drop_succ_cons, List.drop_zero]
    rw [if_neg (by rw [h1]; decide)]
    unfold rg3
    rw [getN_sev t (by omega)]
    simp only
    rw [if_neg (by decide), if_neg (by omega)]
    unfold rg4
    rw [if_neg (by simp)]
    simp only [List.getD_cons_zero, kb_nat f (by omega), List.drop_succ_cons, List.drop_zero]
    rw [if_neg (by omega)]
    unfold rg5
    have hgf := getF_fix q 4 (by omega) (by omega) []
    rw [show (4 : Int).toNat = 4 from rfl] at hgf
    rw [hgf]
    simp only
    rw [if_neg (by decide), Nat.mod_eq_of_lt (by omega)]
  | false =>
    rw [hf, if_neg (by decide)] at h
    obtain ⟨⟨⟨hk1, hk2⟩, h2⟩, h3⟩ : ((1 ≤ kind ∧ kind ≤ 2) ∧ hops = 0) ∧ eqK (t, f, (q : Int)) (0, 0, 0) = true := by simpa using h
    have h3 := of_decide_eq_true (show decide ((t, f, (q : Int)) = (0, 0, 0)) = true from h3)
    simp only [Prod.mk.injEq] at h3
    obtain ⟨rfl, rfl, h3⟩ := h3
    obtain rfl : q = 0 := by omega
    subst h2
    obtain ⟨k, rfl⟩ := Int.eq_ofNat_of_zero_le (show 0 ≤ kind by omega)
    refine ⟨k, 0, 0, 0, 0, rfl, rfl, rfl, ?_⟩
    unfold headB
    simp only
    rw [if_neg (by rw [hf]; decide)]
    unfold rg
    rw [if_neg (by simp)]
    simp only [List.getD_cons_zero, kb_nat k (by omega)]
    unfold rg1
    rw [if_neg (by rw [show isKb (k : Int) = true from decide_eq_true (by omega)]; decide), if_pos hf]
    simp
end Go.Proofs.Ytliblcjfccijjaa.Hed
namespace Go.Proofs.Ytliblcjfccijjaa.Hed
open Go.ChangeShapes Go.WideShapes Go.ChangeAt Go.RowKit Go.Deep
open Go.Proofs.Ytliblcjfccijjaa.Byt Go.Proofs.Ytliblcjfccijjaa.Key Go.Proofs.Ytliblcjfccijjaa.Buf Go.Proofs.Ytliblcjfccijjaa.BufM
theorem rg_body (l : List UInt8) : (rg l).1.body = [] := by
  have z : zero.body = [] := rfl
  unfold rg
  split
  · rfl
  unfold rg1
  split
  · rfl
  split
  · rfl
  unfold rg2
  split
  · rfl
  split
  · rfl
  unfold rg3
  split
  · rfl
  split
  · rfl
  unfold rg4
  split
  · rfl
  split
  · rfl
  unfold rg5
  split <;> rfl
end Go.Proofs.Ytliblcjfccijjaa.Hed
