/- Whole frames (layer 14): plain: what stands behind a head by its kind, when a packet is good, what is read of bytes; what was written is read, what was read is written so. -/
import Derived.Test.YtanfnhgaooafeaaGreatDoorPulL
import Derived.Test.YtanfnhgaooafeaaGreatDoorAttX
import Derived.Test.YtanfnhgaooafeaaGreatDoorChuY
import Derived.Test.YtanfnhgaooafeaaGreatDoorDatL
import Derived.Test.YtanfnhgaooafeaaGreatDoorHedY
import Derived.Test.YtanfnhgaooafeaaGreatDoorCrcX
namespace Go.Proofs.YtanfnhgaooafeaaGreatDoor.Sea
open Go.ChangeShapes Go.WideShapes Go.ChangeAt Go.RowKit Go.Deep
open Go.Proofs.YtanfnhgaooafeaaGreatDoor.Byt Go.Proofs.YtanfnhgaooafeaaGreatDoor.Key Go.Proofs.YtanfnhgaooafeaaGreatDoor.Buf Go.Proofs.YtanfnhgaooafeaaGreatDoor.Hed Go.Proofs.YtanfnhgaooafeaaGreatDoor.Dat Go.Proofs.YtanfnhgaooafeaaGreatDoor.BufM Go.Proofs.YtanfnhgaooafeaaGreatDoor.Pkt
set_option linter.unusedVariables false
set_option linter.unusedSimpArgs false
/-- What stands behind the head. -/
def tB (p : Pk) : List UInt8 := if p.kind = 4 then sev p.body.length ++ p.body else if p.kind = 5 then sev (un p.no) else if p.kind = 6 then Chu.chuB p else Pul.pulB p
/-- May the packet be? -/
def seaG (p : Pk) : Bool := Pul.pulG p || (datG p || (Att.attG p || Chu.chuG p))
/-- What stands ahead of the sum. -/
def inB (p : Pk) : List UInt8 := headB p ++ tB p
/-- What is read behind a head: what is wrong, what is left, the packet. -/
def tE (p : Pk) (r : List UInt8) : Nat := if p.kind = 4 then (getB r 1024).2.2 else if p.kind = 5 then Att.atE r else if p.kind = 6 then Chu.dE r else Pul.rgE p r
def tR (p : Pk) (r : List UInt8) : List UInt8 := if p.kind = 4 then (getB r 1024).2.1 else if p.kind = 5 then Att.rgR r else if p.kind = 6 then Chu.dR r else Pul.rgR p r
def tP (p : Pk) (r : List UInt8) : Pk := if p.kind = 4 then { p with body := (getB r 1024).1 } else if p.kind = 5 then Att.filA p r else if p.kind = 6 then Chu.dP p r else Pul.filP p (0, r)
/-- What is read of bytes to their end. -/
def sdP (l : List UInt8) : Pk := tP (rg l).1 (rg l).2.1
def sdE (l : List UInt8) : Nat := if (rg l).2.2 ≠ 0 then (rg l).2.2 else if tE (rg l).1 (rg l).2.1 ≠ 0 then tE (rg l).1 (rg l).2.1 else if tR (rg l).1 (rg l).2.1 = [] then 0 else 5
/-- What is wrong with bytes as a frame; the packet. -/
def deE (b : List UInt8) : Nat := if 1100 < b.length then 4 else if b.length < 5 then 3 else if Crc.goodB b = false then 6 else sdE (b.take (b.length - 4))
def deP (b : List UInt8) : Pk := if deE b = 0 then sdP (b.take (b.length - 4)) else zero
theorem gd_kind {p : Pk} (h : gd p = true) : 1 ≤ p.kind ∧ p.kind ≤ 6 := by
  cases hf : flo p.kind with
  | true =>
    have := of_decide_eq_true (show decide (3 ≤ p.kind ∧ p.kind ≤ 6) = true from hf)
    omega
  | false =>
    rw [gd_one hf] at h
    simp only [Bool.and_eq_true, decide_eq_true_eq] at h
    omega
theorem datG_iff (p : Pk) : datG p = true ↔ p.kind = 4 ∧ gd p = true ∧ p.no = 0 ∧ p.to = 0 ∧ p.index = 0 ∧ p.total = 0 ∧ p.stamp = 0 ∧ p.value = 0 ∧ p.body.length ≤ 1024 := by
  unfold datG
  simp only [Bool.and_eq_true, Pkt.eqP_iff, decide_eq_true_eq]
  unfold mk4
  simp only
  constructor
  · rintro ⟨⟨h1, -, -, h2, h3, h4, h5, h6, h7, -⟩, h8, h9⟩
    exact ⟨h1, h8, h2, h3, h4, h5, h6, h7, by omega⟩
  · rintro ⟨h1, h8, h2, h3, h4, h5, h6, h7, h9⟩
    exact ⟨⟨h1, trivial, trivial, h2, h3, h4, h5, h6, h7, trivial⟩, h8, by omega⟩
theorem pulG_iff (p : Pk) : Pul.pulG p = true ↔ (p.kind = 1 ∨ p.kind = 2 ∨ p.kind = 3) ∧ gd p = true ∧ (0 ≤ p.no ∧ p.no ≤ 1152921504606846976) ∧ eqP (Pul.offP p) (Pul.headP p) = true := by
  unfold Pul.pulG
  simp only [Bool.and_eq_true, Pul.noOk_iff, Pul.kk_iff]
/-- Each kind has its own rule. -/
theorem seaG_gd {p : Pk} (h : seaG p = true) : gd p = true := by
  unfold seaG at h
  simp only [Bool.or_eq_true] at h
  rcases h with h | h | h | h
  · exact ((pulG_iff p).1 h).2.1
  · exact ((datG_iff p).1 h).2.1
  · exact ((Att.attG_iff p).1 h).2.1
  · exact ((Chu.chuG_iff p).1 h).2.1
theorem seaG_4 {p : Pk} (h : p.kind = 4) : seaG p = datG p := by
  unfold seaG
  have h1 : Pul.pulG p = false := by rw [Bool.eq_false_iff]; intro hh; have := ((pulG_iff p).1 hh).1; omega
  have h2 : Att.attG p = false := by rw [Bool.eq_false_iff]; intro hh; have := ((Att.attG_iff p).1 hh).1; omega
  have h3 : Chu.chuG p = false := by rw [Bool.eq_false_iff]; intro hh; have := ((Chu.chuG_iff p).1 hh).1; omega
  rw [h1, h2, h3, Bool.false_or, Bool.false_or, Bool.or_false]
theorem seaG_5 {p : Pk} (h : p.kind = 5) : seaG p = Att.attG p := by
  unfold seaG
  have h1 : Pul.pulG p = false := by rw [Bool.eq_false_iff]; intro hh; have := ((pulG_iff p).1 hh).1; omega
  have h2 : datG p = false := by rw [Bool.eq_false_iff]; intro hh; have := ((datG_iff p).1 hh).1; omega
  have h3 : Chu.chuG p = false := by rw [Bool.eq_false_iff]; intro hh; have := ((Chu.chuG_iff p).1 hh).1; omega
  rw [h1, h2, h3, Bool.false_or, Bool.false_or, Bool.or_false]
theorem seaG_6 {p : Pk} (h : p.kind = 6) : seaG p = Chu.chuG p := by
  unfold seaG
  have h1 : Pul.pulG p = false := by rw [Bool.eq_false_iff]; intro hh; have := ((pulG_iff p).1 hh).1; omega
  have h2 : datG p = false := by rw [Bool.eq_false_iff]; intro hh; have := ((datG_iff p).1 hh).1; omega
  have h3 : Att.attG p = false := by rw [Bool.eq_false_iff]; intro hh; have := ((Att.attG_iff p).1 hh).1; omega
  rw [h1, h2, h3, Bool.false_or, Bool.false_or, Bool.false_or]
theorem seaG_123 {p : Pk} (h4 : p.kind ≠ 4) (h5 : p.kind ≠ 5) (h6 : p.kind ≠ 6) : seaG p = Pul.pulG p := by
  unfold seaG
  have h1 : datG p = false := by rw [Bool.eq_false_iff]; intro hh; exact h4 ((datG_iff p).1 hh).1
  have h2 : Att.attG p = false := by rw [Bool.eq_false_iff]; intro hh; exact h5 ((Att.attG_iff p).1 hh).1
  have h3 : Chu.chuG p = false := by rw [Bool.eq_false_iff]; intro hh; exact h6 ((Chu.chuG_iff p).1 hh).1
  rw [h1, h2, h3, Bool.or_false, Bool.or_false, Bool.or_false]
theorem seaG_none {p : Pk} (h : ¬ (1 ≤ p.kind ∧ p.kind ≤ 6)) : seaG p = false := by
  rw [Bool.eq_false_iff]; intro hh; exact h (gd_kind (seaG_gd hh))
/-! Bytes as fixed numbers, and back. -/
theorem fixB_fixN : ∀ l : List UInt8, fixB (fixN l) l.length = l
  | [] => rfl
  | b :: l => by
    have hb := b.toNat_lt
    rw [List.length_cons, fixB, fixN, show (b.toNat + 256 * fixN l) % 256 = b.toNat by omega, show (b.toNat + 256 * fixN l) / 256 = fixN l by omega, fixB_fixN l, UInt8.ofNat_toNat]
theorem getF_inv {l : List UInt8} {n : Int} (h1 : 1 ≤ n) (h2 : n ≤ 8) (h : (getF l n).2.2 = 0) : l = fixB (getF l n).1 n.toNat ++ (getF l n).2.1 ∧ (getF l n).1 < 256 ^ n.toNat := by
  unfold getF at h ⊢
  rw [if_neg (by omega)] at h ⊢
  by_cases hl : (l.length : Int) < n
  · rw [if_pos hl] at h; simp at h
  · rw [if_neg hl]
    have ht : (l.take n.toNat).length = n.toNat := by rw [List.length_take]; omega
    have e := fixB_fixN (l.take n.toNat)
    have hlt := fixN_lt (l.take n.toNat)
    rw [ht] at e hlt
    exact ⟨by simp only; rw [e, List.take_append_drop], hlt⟩
theorem getN_inv {l : List UInt8} (h : (getN l).2.2 = 0) : l = sev (getN l).1 ++ (getN l).2.1 ∧ (getN l).1 < 18446744073709551616 := by
  obtain ⟨⟨x, r, e⟩, hx⟩ : ∃ X, getN l = X := ⟨_, rfl⟩
  rw [hx] at h ⊢
  simp only at h
  subst h
  exact sev_getN hx
theorem getB_inv {l : List UInt8} {m : Int} (h : (getB l m).2.2 = 0) : l = sev (getB l m).1.length ++ (getB l m).1 ++ (getB l m).2.1 ∧ ((getB l m).1.length : Int) ≤ m := by
  unfold getB at h ⊢
  by_cases h1 : (getN l).2.2 = 0
  · rw [if_neg (by simp [h1])] at h ⊢
    obtain ⟨e1, e2⟩ := getN_inv h1
    by_cases h2 : m < 0 ∨ m < ((getN l).1 : Int)
    · rw [if_pos h2] at h; simp at h
    · rw [if_neg h2] at h ⊢
      by_cases h3 : (getN l).2.1.length < (getN l).1
      · rw [if_pos h3] at h; simp at h
      · rw [if_neg h3]
        simp only
        have ht : ((getN l).2.1.take (getN l).1).length = (getN l).1 := by rw [List.length_take]; omega
        rw [ht, List.append_assoc, List.take_append_drop]
        exact ⟨e1, by omega⟩
  · rw [if_pos h1] at h
    exact absurd h h1
theorem un_sg {x : Nat} (h : x < 18446744073709551616) : un (Pkt.sg x) = x := by
  unfold Pkt.sg un
  rw [IntKind.wrap_i64]
  omega
theorem kb_byte (b : UInt8) : kb ((b.toNat : Nat) : Int) = b := by
  have hb := b.toNat_lt
  unfold kb
  rw [show (((b.toNat : Nat) : Int) % 256).toNat = b.toNat by omega, UInt8.ofNat_toNat]
theorem sg_small {x : Nat} (h : x ≤ 1152921504606846976) : Pkt.sg x = (x : Int) := by
  unfold Pkt.sg
  rw [IntKind.wrap_i64]
  omega
/-! Heads. -/
theorem rg_head (p : Pk) (hk : Key.ok p.key) (h : gd p = true) (r : List UInt8) : rg (headB p ++ r) = (Pul.headP p, r, 0) := by
  unfold gd at h
  unfold Pul.headP
  obtain ⟨kind, ⟨t, f, q⟩, hops, no, to, index, total, stamp, value, ad, cap, body⟩ := p
  obtain ⟨-, -, hq0, hq1⟩ := hk
  simp only at h hq0 hq1
  obtain ⟨q, rfl⟩ := Int.eq_ofNat_of_zero_le hq0
  cases hf : flo kind with
  | true =>
    rw [hf, if_pos rfl] at h
    obtain ⟨h1, h2⟩ : okHops hops = true ∧ goodK (t, f, (q : Int)) = true := by simpa using h
    obtain ⟨hk1, hk2⟩ := of_decide_eq_true (show decide (3 ≤ kind ∧ kind ≤ 6) = true from hf)
    obtain ⟨hh1, hh2⟩ := of_decide_eq_true (show decide (1 ≤ hops ∧ hops ≤ 63) = true from h1)
    obtain ⟨ht1, ht2, hf1, hf2⟩ := of_decide_eq_true (show decide (0 ≤ t ∧ t ≤ 1152921504606846976 ∧ 0 ≤ f ∧ f < 64) = true from h2)
    obtain ⟨k, rfl⟩ := Int.eq_ofNat_of_zero_le (show 0 ≤ kind by omega)
    obtain ⟨hh, rfl⟩ := Int.eq_ofNat_of_zero_le (show 0 ≤ hops by omega)
    obtain ⟨t, rfl⟩ := Int.eq_ofNat_of_zero_le ht1
    obtain ⟨f, rfl⟩ := Int.eq_ofNat_of_zero_le hf1
    have e : headB ⟨(k : Int), ((t : Int), (f : Int), (q : Int)), (hh : Int), no, to, index, total, stamp, value, ad, cap, body⟩ ++ r = kb (k : Int) :: kb (hh : Int) :: (sev t ++ (kb (f : Int) :: (fixB q 4 ++ r))) := by
      unfold headB
      simp only
      rw [if_pos hf, un_nat t (by omega), un_nat q (by omega)]
      simp
    rw [e]
    unfold rg
    rw [if_neg (by simp)]
    simp only [List.getD_cons_zero, kb_nat k (by omega)]
    unfold rg1
    rw [if_neg (by rw [show isKb (k : Int) = true from decide_eq_true (by omega)]; decide), if_neg (by rw [hf]; decide)]
    unfold rg2
    have hlen : ¬ ((kb (k : Int) :: kb (hh : Int) :: (sev t ++ (kb (f : Int) :: (fixB q 4 ++ r)))).length = 1) := by simp
    rw [if_neg hlen]
    simp only [List.getD_cons_succ, List.getD_cons_zero, kb_nat hh (by omega), List.drop_succ_cons, List.drop_zero]
    rw [if_neg (by rw [h1]; decide)]
    unfold rg3
    rw [getN_sev t (by omega)]
    simp only
    rw [if_neg (by decide), if_neg (by omega)]
    unfold rg4
    rw [if_neg (by simp)]
    simp only [List.getD_cons_zero, kb_nat f (by omega), List.drop_succ_cons, List.drop_zero]
    rw [if_neg (by omega)]
    unfold rg5
    have hgf := getF_fix q 4 (by omega) (by omega) r
    rw [show (4 : Int).toNat = 4 from rfl] at hgf
    rw [hgf]
    simp only
    rw [if_neg (by decide), Nat.mod_eq_of_lt (by omega)]
    rfl
  | false =>
    rw [hf, if_neg (by decide)] at h
    obtain ⟨⟨⟨hk1, hk2⟩, h2⟩, h3⟩ : ((1 ≤ kind ∧ kind ≤ 2) ∧ hops = 0) ∧ eqK (t, f, (q : Int)) (0, 0, 0) = true := by simpa using h
    have h3 := of_decide_eq_true (show decide ((t, f, (q : Int)) = (0, 0, 0)) = true from h3)
    simp only [Prod.mk.injEq] at h3
    obtain ⟨rfl, rfl, h3⟩ := h3
    obtain rfl : q = 0 := by omega
    subst h2
    obtain ⟨k, rfl⟩ := Int.eq_ofNat_of_zero_le (show 0 ≤ kind by omega)
    unfold headB
    simp only
    rw [if_neg (by rw [hf]; decide)]
    unfold rg
    rw [if_neg (by simp)]
    simp only [List.cons_append, List.nil_append, List.getD_cons_zero, kb_nat k (by omega)]
    unfold rg1
    rw [if_neg (by rw [show isKb (k : Int) = true from decide_eq_true (by omega)]; decide), if_pos hf]
    simp
    rfl
/-- Bytes whose head is read. -/
theorem rg_inv (l : List UInt8) (h : (rg l).2.2 = 0) : ∃ k hh t f q : Nat, (rg l).1 = hpk k hh t f q ∧ l = headB (rg l).1 ++ (rg l).2.1 ∧ gd (rg l).1 = true ∧ Key.ok (rg l).1.key := by
  cases l with
  | nil => exact absurd h (by unfold rg; simp)
  | cons b l =>
    have hb := b.toNat_lt
    have e0 : rg (b :: l) = rg1 b.toNat (b :: l) := by unfold rg; rw [if_neg (by simp)]; simp
    rw [e0] at h ⊢
    obtain ⟨p1, p2, p3⟩ := rg1_parts b.toNat (b :: l) _ rfl
    cases hk : isKb b.toNat with
    | false => rw [p1 hk] at h; simp at h
    | true =>
      obtain ⟨hk1, hk2⟩ := of_decide_eq_true (show decide (1 ≤ (b.toNat : Int) ∧ (b.toNat : Int) ≤ 6) = true from hk)
      cases hf : flo b.toNat with
      | false =>
        rw [p2 hk hf]
        refine ⟨b.toNat, 0, 0, 0, 0, rfl, ?_, ?_, ?_⟩
        · unfold headB hpk
          simp only
          rw [if_neg (by rw [hf]; decide), kb_byte]
          simp
        · rw [gd_one (p := hpk b.toNat 0 0 0 0) hf]
          have hn : ¬ (3 ≤ (b.toNat : Int) ∧ (b.toNat : Int) ≤ 6) := of_decide_eq_false hf
          unfold hpk eqK
          simp
          omega
        · unfold Key.ok hpk
          simp
      | true =>
        rw [← p3 hk hf] at h ⊢
        obtain ⟨q1, q2, q3⟩ := rg2_parts b.toNat (b :: l) _ rfl
        cases l with
        | nil => rw [q1 (by simp)] at h; simp at h
        | cons c l =>
          have hc := c.toNat_lt
          have hl1 : (b :: c :: l).length ≠ 1 := by simp
          simp only [List.getD_cons_succ, List.getD_cons_zero, List.drop_succ_cons, List.drop_zero] at q2 q3
          cases ho : okHops (c.toNat : Int) with
          | false => rw [q2 hl1 ho] at h; simp at h
          | true =>
            obtain ⟨ho1, ho2⟩ := of_decide_eq_true (show decide (1 ≤ (c.toNat : Int) ∧ (c.toNat : Int) ≤ 63) = true from ho)
            rw [← q3 hl1 ho] at h ⊢
            obtain ⟨r1, r2, r3⟩ := rg3_parts b.toNat c.toNat l _ rfl
            by_cases hN : (getN l).2.2 = 0
            · obtain ⟨eN, hN2⟩ := getN_inv hN
              by_cases hT : 1152921504606846976 < (getN l).1
              · rw [r2 hN hT] at h; simp at h
              · rw [← r3 hN hT] at h ⊢
                obtain ⟨s1, s2, s3⟩ := rg4_parts b.toNat c.toNat (getN l).1 (getN l).2.1 _ rfl
                cases hm : (getN l).2.1 with
                | nil => rw [hm] at s1 h; rw [s1 rfl] at h; simp at h
                | cons d m =>
                  have hd := d.toNat_lt
                  rw [hm] at s1 s2 s3 h eN
                  simp only [List.getD_cons_zero, List.drop_succ_cons, List.drop_zero] at s2 s3
                  by_cases hD : 63 < d.toNat
                  · rw [s2 (by simp) hD] at h; simp at h
                  · rw [← s3 (by simp) hD] at h ⊢
                    obtain ⟨t1, t2⟩ := rg5_parts b.toNat c.toNat (getN l).1 d.toNat m _ rfl
                    by_cases hF : (getF m 4).2.2 = 0
                    · rw [t2 hF]
                      obtain ⟨eF, hF2⟩ := getF_inv (l := m) (n := 4) (by omega) (by omega) hF
                      rw [show (4 : Int).toNat = 4 from rfl] at eF hF2
                      refine ⟨b.toNat, c.toNat, (getN l).1, d.toNat, (getF m 4).1, rfl, ?_, ?_, ?_⟩
                      · unfold headB hpk
                        simp only
                        rw [if_pos hf, un_nat _ (by omega), un_nat _ (by omega), kb_byte, kb_byte, kb_byte]
                        conv => lhs; rw [eN, eF]
                        simp
                      · rw [gd_flood (p := hpk b.toNat c.toNat (getN l).1 d.toNat (getF m 4).1) hf]
                        unfold hpk
                        simp only [ho, Bool.true_and]
                        unfold goodK
                        simp only [decide_eq_true_eq]
                        omega
                      · unfold Key.ok hpk
                        simp only
                        omega
                    · rw [t1 hF] at h; exact absurd h hF
            · rw [r1 hN] at h; exact absurd h hN
theorem memP_zero (p : Pk) : (Pul.headP p).body = [] := rfl
/-! What is behind: written, then read. -/
theorem sea_got (p : Pk) (h : seaG p = true) (hk : Key.ok p.key) (hs : -9223372036854775808 ≤ p.stamp ∧ p.stamp ≤ 9223372036854775807) (hv : -9223372036854775808 ≤ p.value ∧ p.value ≤ 9223372036854775807) :
    sdE (inB p) = 0 ∧ ∀ ad cap, eqP p (memP (sdP (inB p)) ad cap) = true := by
  have hg := seaG_gd h
  have hr := rg_head p hk hg (tB p)
  unfold sdE sdP inB
  rw [hr]
  simp only [ne_eq, not_true_eq_false, if_false]
  obtain ⟨h1, h2⟩ := gd_kind hg
  have key : tE (Pul.headP p) (tB p) = 0 ∧ tR (Pul.headP p) (tB p) = [] ∧ ∀ ad cap, eqP p (memP (tP (Pul.headP p) (tB p)) ad cap) = true := by
    unfold tE tR tP tB
    by_cases h4 : p.kind = 4
    · rw [if_pos h4, if_pos (show (Pul.headP p).kind = 4 from h4), if_pos (show (Pul.headP p).kind = 4 from h4), if_pos (show (Pul.headP p).kind = 4 from h4)]
      rw [seaG_4 h4] at h
      have hb := good_len h
      have e := getB_put hb
      unfold bodB at e
      rw [e]
      refine ⟨rfl, rfl, fun ad cap => ?_⟩
      obtain ⟨q1, q2, q3, q4, q5, q6, q7, q8, q9⟩ := (datG_iff p).1 h
      refine (Pkt.eqP_iff _ _).2 ?_
      unfold memP Pul.headP
      exact ⟨rfl, rfl, rfl, q3, q4, q5, q6, q7, q8, rfl⟩
    · rw [if_neg h4, if_neg (show ¬ (Pul.headP p).kind = 4 from h4), if_neg (show ¬ (Pul.headP p).kind = 4 from h4), if_neg (show ¬ (Pul.headP p).kind = 4 from h4)]
      by_cases h5 : p.kind = 5
      · rw [if_pos h5, if_pos (show (Pul.headP p).kind = 5 from h5), if_pos (show (Pul.headP p).kind = 5 from h5), if_pos (show (Pul.headP p).kind = 5 from h5)]
        rw [seaG_5 h5] at h
        have e : Pul.headP p = Att.headA p := by unfold Pul.headP Att.headA; rw [h5]
        rw [e]
        exact Att.att_got p h
      · rw [if_neg h5, if_neg (show ¬ (Pul.headP p).kind = 5 from h5), if_neg (show ¬ (Pul.headP p).kind = 5 from h5), if_neg (show ¬ (Pul.headP p).kind = 5 from h5)]
        by_cases h6 : p.kind = 6
        · rw [if_pos h6, if_pos (show (Pul.headP p).kind = 6 from h6), if_pos (show (Pul.headP p).kind = 6 from h6), if_pos (show (Pul.headP p).kind = 6 from h6)]
          rw [seaG_6 h6] at h
          have e : Pul.headP p = Chu.headC p := by unfold Pul.headP Chu.headC; rw [h6]
          rw [e]
          exact Chu.chu_got p h
        · rw [if_neg h6, if_neg (show ¬ (Pul.headP p).kind = 6 from h6), if_neg (show ¬ (Pul.headP p).kind = 6 from h6), if_neg (show ¬ (Pul.headP p).kind = 6 from h6)]
          rw [seaG_123 h4 h5 h6] at h
          exact Pul.puls_got p h hs hv
  rw [key.1, key.2.1]
  exact ⟨by simp, key.2.2⟩
end Go.Proofs.YtanfnhgaooafeaaGreatDoor.Sea
