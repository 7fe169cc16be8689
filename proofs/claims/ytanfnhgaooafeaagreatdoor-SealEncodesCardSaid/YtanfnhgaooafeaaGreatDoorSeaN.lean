/- Whole frames (layer 14): plain: what was read of bytes to their end is good, and is written so; how long a frame is. -/
import Derived.Test.YtanfnhgaooafeaaGreatDoorSeaM
namespace Go.Proofs.YtanfnhgaooafeaaGreatDoor.Sea
open Go.ChangeShapes Go.WideShapes Go.ChangeAt Go.RowKit Go.Deep
open Go.Proofs.YtanfnhgaooafeaaGreatDoor.Byt Go.Proofs.YtanfnhgaooafeaaGreatDoor.Key Go.Proofs.YtanfnhgaooafeaaGreatDoor.Buf Go.Proofs.YtanfnhgaooafeaaGreatDoor.Hed Go.Proofs.YtanfnhgaooafeaaGreatDoor.Dat Go.Proofs.YtanfnhgaooafeaaGreatDoor.BufM Go.Proofs.YtanfnhgaooafeaaGreatDoor.Pkt
set_option linter.unusedVariables false
set_option linter.unusedSimpArgs false
/-- A head alone: nothing stands behind it yet. -/
def Bare (P : Pk) : Prop := P.no = 0 ∧ P.to = 0 ∧ P.index = 0 ∧ P.total = 0 ∧ P.stamp = 0 ∧ P.value = 0 ∧ P.body = []
theorem gd_same {p q : Pk} (h1 : p.kind = q.kind) (h2 : p.hops = q.hops) (h3 : p.key = q.key) : gd p = gd q := by unfold gd; rw [h1, h2, h3]
theorem headB_same {p q : Pk} (h1 : p.kind = q.kind) (h2 : p.hops = q.hops) (h3 : p.key = q.key) : headB p = headB q := by unfold headB; rw [h1, h2, h3]
theorem tP_head (P : Pk) (r : List UInt8) (ad : Option Addr) (cap : Nat) : (memP (tP P r) ad cap).kind = P.kind ∧ (memP (tP P r) ad cap).hops = P.hops ∧ (memP (tP P r) ad cap).key = P.key := by
  unfold memP tP
  by_cases h4 : P.kind = 4
  · simp only [if_pos h4]; trivial
  · simp only [if_neg h4]
    by_cases h5 : P.kind = 5
    · simp only [if_pos h5]; exact ⟨rfl, rfl, rfl⟩
    · simp only [if_neg h5]
      by_cases h6 : P.kind = 6
      · simp only [if_pos h6]; exact ⟨rfl, rfl, rfl⟩
      · simp only [if_neg h6]
        unfold Pul.filP
        by_cases h1 : P.kind = 1
        · simp only [if_pos h1]; exact ⟨trivial, trivial, trivial⟩
        · simp only [if_neg h1]
          by_cases h2 : P.kind = 2
          · simp only [if_pos h2]; exact ⟨trivial, trivial, trivial⟩
          · simp only [if_neg h2]; exact ⟨trivial, trivial, trivial⟩
theorem num_back {l : List UInt8} (h : (getN l).2.2 = 0) (hr : (getN l).2.1 = []) : sev (un (Pkt.sg (getN l).1)) = l := by
  obtain ⟨e, hx⟩ := getN_inv h
  rw [un_sg hx]
  rw [hr, List.append_nil] at e
  exact e.symm
theorem fix_back {l : List UInt8} (h : (getF l 8).2.2 = 0) : fixB (un (Pkt.sg (getF l 8).1)) 8 ++ (getF l 8).2.1 = l := by
  obtain ⟨e, hx⟩ := getF_inv (l := l) (n := 8) (by omega) (by omega) h
  rw [show (8 : Int).toNat = 8 from rfl] at e hx
  rw [un_sg (by omega)]
  exact e.symm
/-- What was read behind a head is good, and is written so. -/
theorem t_inv (P : Pk) (r : List UInt8) (hg : gd P = true) (hb : Bare P) (he : tE P r = 0) (hr : tR P r = []) (ad : Option Addr) (cap : Nat) :
    seaG (memP (tP P r) ad cap) = true ∧ tB (memP (tP P r) ad cap) = r := by
  obtain ⟨k1, k2, k3⟩ := tP_head P r ad cap
  have hG : gd (memP (tP P r) ad cap) = true := (gd_same k1 k2 k3).trans hg
  obtain ⟨b1, b2, b3, b4, b5, b6, b7⟩ := hb
  unfold tE at he
  unfold tR at hr
  by_cases h4 : P.kind = 4
  · rw [seaG_4 (k1.trans h4)]
    unfold tB
    rw [if_pos (k1.trans h4)]
    rw [datG_iff]
    rw [if_pos h4] at he hr
    obtain ⟨e1, e2⟩ := getB_inv he
    rw [hr, List.append_nil] at e1
    have hp : memP (tP P r) ad cap = { P with ad := ad, cap := cap, body := (getB r 1024).1 } := by unfold tP memP; rw [if_pos h4]
    refine ⟨⟨k1.trans h4, hG, ?_⟩, ?_⟩
    · rw [hp]
      exact ⟨b1, b2, b3, b4, b5, b6, by simp only; omega⟩
    · rw [hp]
      exact e1.symm
  · rw [if_neg h4] at he hr
    by_cases h5 : P.kind = 5
    · rw [seaG_5 (k1.trans h5)]
      unfold tB
      rw [if_neg (by rw [k1]; exact h4), if_pos (k1.trans h5), Att.attG_iff]
      rw [if_pos h5] at he hr
      obtain ⟨e1, e2⟩ := Att.atE_ok he
      have hp : memP (tP P r) ad cap = { P with ad := ad, cap := cap, no := Pkt.sg (getN r).1 } := by unfold tP memP; rw [if_neg h4, if_pos h5]; rfl
      refine ⟨⟨k1.trans h5, hG, ?_⟩, ?_⟩
      · rw [hp]
        simp only
        rw [sg_small e2]
        exact ⟨by omega, b2, b3, b4, b5, b6, b7⟩
      · rw [hp]
        exact num_back e1 hr
    · rw [if_neg h5] at he hr
      by_cases h6 : P.kind = 6
      · rw [seaG_6 (k1.trans h6)]
        unfold tB
        rw [if_neg (by rw [k1]; exact h4), if_neg (by rw [k1]; exact h5), if_pos (k1.trans h6), Chu.chuG_iff]
        rw [if_pos h6] at he hr
        have hp : memP (tP P r) ad cap = memP (Chu.dP P r) ad cap := by unfold tP; rw [if_neg h4, if_neg h5, if_pos h6]
        have hq0 : memP (Chu.dP P r) ad cap = { P with ad := ad, cap := cap, no := Pkt.sg (getN r).1, to := (((getN r).2.1.getD 0 0).toNat : Int), index := (((getN r).2.1.getD 1 0).toNat : Int), total := (((getN r).2.1.getD 2 0).toNat : Int), body := (getB ((getN r).2.1.drop 3) 64).1 } := rfl
        rw [hp, hq0] at hG ⊢
        clear hp hq0 k1 k2 k3
        unfold Chu.dE at he
        unfold Chu.dR at hr
        by_cases n1 : (getN r).2.2 = 0
        · rw [if_neg (by simp [n1])] at he
          by_cases n2 : 1152921504606846976 < (getN r).1
          · rw [if_pos n2] at he; simp at he
          · rw [if_neg n2] at he
            obtain ⟨eN, hN⟩ := getN_inv n1
            have eN2 : un (Pkt.sg (getN r).1) = (getN r).1 := un_sg hN
            have eN3 := sg_small (x := (getN r).1) (by omega)
            unfold Chu.dE2 at he
            generalize (getN r).2.1 = m at *
            cases m with
            | nil => rw [if_pos rfl] at he; simp at he
            | cons x m =>
              rw [if_neg (by simp)] at he
              have hx := x.toNat_lt
              simp only [List.getD_cons_zero] at he
              by_cases n3 : 63 < x.toNat
              · rw [if_pos n3] at he; simp at he
              · rw [if_neg n3] at he
                by_cases n4 : (x :: m).length < 3
                · rw [if_pos n4] at he; simp at he
                · rw [if_neg n4] at he
                  obtain ⟨y, z, s, rfl⟩ : ∃ y z s, m = y :: z :: s := by
                    match m, n4 with
                    | [], h => simp at h
                    | [_], h => simp at h
                    | y :: z :: s, _ => exact ⟨y, z, s, rfl⟩
                  have hy := y.toNat_lt
                  have hz := z.toNat_lt
                  unfold Chu.dE3 at he
                  simp only [List.getD_cons_succ, List.getD_cons_zero, List.drop_succ_cons, List.drop_zero] at he hr hG ⊢
                  by_cases n5 : z.toNat ≤ y.toNat
                  · rw [if_pos n5] at he; simp at he
                  · rw [if_neg n5] at he
                    obtain ⟨e1, e2⟩ := getB_inv he
                    rw [hr, List.append_nil] at e1
                    refine ⟨⟨h6, hG, ?_⟩, ?_⟩
                    · rw [eN3]
                      exact ⟨by omega, by omega, by omega, by omega, b5, b6⟩
                    · unfold Chu.chuB
                      simp only
                      rw [eN2, kb_byte, kb_byte, kb_byte, ← e1]
                      conv => rhs; rw [eN]
                      simp
        · rw [if_pos n1] at he; exact absurd he n1
      · rw [if_neg h6] at he hr
        rw [seaG_123 (by rw [k1]; exact h4) (by rw [k1]; exact h5) (by rw [k1]; exact h6)]
        unfold tB
        rw [if_neg (by rw [k1]; exact h4), if_neg (by rw [k1]; exact h5), if_neg (by rw [k1]; exact h6), pulG_iff]
        have hp : memP (tP P r) ad cap = memP (Pul.filP P (0, r)) ad cap := by unfold tP; rw [if_neg h4, if_neg h5, if_neg h6]
        rw [hp] at hG k1 ⊢
        obtain ⟨c1, c2⟩ := gd_kind hg
        have hk : P.kind = 1 ∨ P.kind = 2 ∨ P.kind = 3 := by omega
        refine ⟨⟨by rw [k1]; exact hk, hG, ?_⟩, ?_⟩
        · by_cases h1 : P.kind = 1
          · have hX : memP (Pul.filP P (0, r)) ad cap = { P with ad := ad, cap := cap, stamp := Pkt.sg (getF r 8).1 } := by unfold memP Pul.filP; rw [if_pos h1]; rfl
            rw [hX]
            refine ⟨by simp only; omega, (Pkt.eqP_iff _ _).2 ?_⟩
            unfold Pul.offP Pul.headP
            simp only [if_pos h1]
            exact ⟨trivial, trivial, trivial, b1, b2, b3, b4, trivial, b6, b7⟩
          · by_cases h2 : P.kind = 2
            · have hX : memP (Pul.filP P (0, r)) ad cap = { P with ad := ad, cap := cap, stamp := Pkt.sg (getF r 8).1, value := Pkt.sg (getF (fixS (0, r) 8).2 8).1 } := by unfold memP Pul.filP; rw [if_neg h1, if_pos h2]; rfl
              rw [hX]
              refine ⟨by simp only; omega, (Pkt.eqP_iff _ _).2 ?_⟩
              unfold Pul.offP Pul.headP
              simp only [if_neg h1, if_pos h2]
              exact ⟨trivial, trivial, trivial, b1, b2, b3, b4, trivial, trivial, b7⟩
            · have h3 : P.kind = 3 := by omega
              have hX : memP (Pul.filP P (0, r)) ad cap = { P with ad := ad, cap := cap, no := Pkt.sg (getN r).1 } := by unfold memP Pul.filP; rw [if_neg h1, if_neg h2]; rfl
              unfold Pul.rgE at he
              rw [if_neg h1, if_neg h2, if_pos h3] at he
              by_cases n1 : (getN r).2.2 = 0
              · rw [if_pos n1] at he
                by_cases n2 : 1152921504606846976 < (getN r).1
                · rw [if_pos n2] at he; simp at he
                · rw [hX]
                  have e3 := sg_small (x := (getN r).1) (by omega)
                  refine ⟨by simp only; rw [e3]; omega, (Pkt.eqP_iff _ _).2 ?_⟩
                  unfold Pul.offP Pul.headP
                  simp only [if_neg h1, if_neg h2]
                  exact ⟨trivial, trivial, trivial, trivial, b2, b3, b4, b5, b6, b7⟩
              · rw [if_neg n1] at he; exact absurd he n1
        · unfold Pul.pulB
          rw [k1]
          unfold Pul.rgE at he
          unfold Pul.rgR at hr
          by_cases h1 : P.kind = 1
          · have hX : memP (Pul.filP P (0, r)) ad cap = { P with ad := ad, cap := cap, stamp := Pkt.sg (getF r 8).1 } := by unfold memP Pul.filP; rw [if_pos h1]; rfl
            rw [if_pos h1] at he hr ⊢
            rw [hX]
            have e := fix_back he
            rw [hr, List.append_nil] at e
            exact e
          · rw [if_neg h1] at he hr ⊢
            by_cases h2 : P.kind = 2
            · rw [if_pos h2] at he hr ⊢
              have hX : memP (Pul.filP P (0, r)) ad cap = { P with ad := ad, cap := cap, stamp := Pkt.sg (getF r 8).1, value := Pkt.sg (getF (fixS (0, r) 8).2 8).1 } := by unfold memP Pul.filP; rw [if_neg h1, if_pos h2]; rfl
              rw [hX]
              by_cases n1 : (getF r 8).2.2 = 0
              · rw [if_pos n1] at he
                have e := fix_back n1
                have e2 := fix_back he
                rw [hr, List.append_nil] at e2
                rw [← e2] at e
                have hs : (fixS (0, r) 8).2 = (getF r 8).2.1 := by rw [Pul.fixS_zero, if_pos n1]
                simp only
                rw [hs]
                exact e
              · rw [if_neg n1] at he; exact absurd he n1
            · have h3 : P.kind = 3 := by omega
              rw [if_neg h2] at he hr ⊢
              rw [if_pos h3] at he
              have hX : memP (Pul.filP P (0, r)) ad cap = { P with ad := ad, cap := cap, no := Pkt.sg (getN r).1 } := by unfold memP Pul.filP; rw [if_neg h1, if_neg h2]; rfl
              rw [hX]
              by_cases n1 : (getN r).2.2 = 0
              · exact num_back n1 hr
              · rw [if_neg n1] at he; exact absurd he n1
/-- What was read of bytes to their end is good, and is written so. -/
theorem sea_put (l : List UInt8) (h : sdE l = 0) (ad : Option Addr) (cap : Nat) : seaG (memP (sdP l) ad cap) = true ∧ inB (memP (sdP l) ad cap) = l ∧ Key.ok (sdP l).key := by
  unfold sdE at h
  by_cases h1 : (rg l).2.2 = 0
  · rw [if_neg (by simp [h1])] at h
    by_cases h2 : tE (rg l).1 (rg l).2.1 = 0
    · rw [if_neg (by simp [h2])] at h
      by_cases h3 : tR (rg l).1 (rg l).2.1 = []
      · obtain ⟨k, hh, t, f, q, e1, e2, e3, e4⟩ := rg_inv l h1
        have hb : Bare (rg l).1 := by rw [e1]; exact ⟨rfl, rfl, rfl, rfl, rfl, rfl, rfl⟩
        obtain ⟨g1, g2⟩ := t_inv (rg l).1 (rg l).2.1 e3 hb h2 h3 ad cap
        obtain ⟨k1, k2, k3⟩ := tP_head (rg l).1 (rg l).2.1 ad cap
        unfold sdP
        refine ⟨g1, ?_, ?_⟩
        · unfold inB
          rw [g2, headB_same k1 k2 k3]
          exact e2.symm
        · have : (tP (rg l).1 (rg l).2.1).key = (rg l).1.key := k3
          rw [this]
          exact e4
      · rw [if_neg h3] at h; simp at h
    · rw [if_pos h2] at h; exact absurd h h2
  · rw [if_pos h1] at h; exact absurd h h1
theorem headB_len (p : Pk) : 1 ≤ (headB p).length ∧ (headB p).length ≤ 30 := by
  have hs := sev_len10 (un p.key.1) (un_lt _)
  have hx := fixB_len 4 (un p.key.2.2)
  unfold headB
  split <;> simp <;> omega
theorem tB_len {p : Pk} (h : seaG p = true) : (tB p).length ≤ 1040 := by
  unfold tB
  by_cases h4 : p.kind = 4
  · rw [if_pos h4]
    rw [seaG_4 h4] at h
    have := bodB_len (good_len h)
    unfold bodB at this
    omega
  · rw [if_neg h4]
    by_cases h5 : p.kind = 5
    · rw [if_pos h5]
      have := sev_len10 (un p.no) (un_lt _)
      omega
    · rw [if_neg h5]
      by_cases h6 : p.kind = 6
      · rw [if_pos h6]
        rw [seaG_6 h6] at h
        obtain ⟨-, -, -, -, -, hb, -, -⟩ := (Chu.chuG_iff p).1 h
        have := Chu.chuB_len p (by omega)
        omega
      · rw [if_neg h6]
        have := Pul.pulB_len p
        omega
theorem inB_len {p : Pk} (h : seaG p = true) : 1 ≤ (inB p).length ∧ (inB p).length ≤ 1070 := by
  have h1 := headB_len p
  have h2 := tB_len h
  unfold inB
  rw [List.length_append]
  omega
/-- The whole, as a frame. -/
theorem de_frame (x : List UInt8) (h1 : 1 ≤ x.length) (h2 : x.length ≤ 1096) : deE (Crc.sealB x) = sdE x ∧ (Crc.sealB x).take ((Crc.sealB x).length - 4) = x := by
  have hl := Crc.seal_len x
  have ht : (Crc.sealB x).take ((Crc.sealB x).length - 4) = x := by
    rw [hl, show x.length + 4 - 4 = x.length from by omega]
    exact List.take_left
  refine ⟨?_, ht⟩
  unfold deE
  rw [ht, hl, if_neg (by omega), if_neg (by omega), Crc.good_seal, if_neg (by decide)]
/-- A good frame is its own bytes under their sum. -/
theorem frame_is {b : List UInt8} (h : Crc.goodB b = true) : Crc.sealB (b.take (b.length - 4)) = b := by
  unfold Crc.goodB at h
  simp only [Bool.and_eq_true, decide_eq_true_eq] at h
  exact h.2
end Go.Proofs.YtanfnhgaooafeaaGreatDoor.Sea
