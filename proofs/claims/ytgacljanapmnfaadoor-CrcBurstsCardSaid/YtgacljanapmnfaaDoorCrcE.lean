/- Contracts of package crc (layer 4) and of the document's own answers for it: are bytes good? -/
import Derived.Test.YtgacljanapmnfaaDoorCrcD
import Derived.Deep.RegionHeld3
import Derived.Deep.RegionHeldLaw
import Derived.Deep.DrawnRows
namespace Go.Proofs.YtgacljanapmnfaaDoor.Crc
open Go.ChangeShapes Go.WideShapes Go.ChangeAt Go.RowKit
open Go.Proofs.YtgacljanapmnfaaDoor.Byt
set_option linter.unusedVariables false
attribute [local go_sem ↓] Go.wp_at_zero Go.wp_at_succ
theorem or_u32_nat (a b : Nat) (ha : a < 4294967296) (hb : b < 4294967296) : Go.bits .or .u32 (a : Int) (b : Int) = ((a ||| b : Nat) : Int) := by
  have hx : a ||| b < 2 ^ 32 := Nat.or_lt_two_pow (by omega) (by omega)
  show IntKind.u32.wrap ((BitVec.ofInt 32 (a : Int) ||| BitVec.ofInt 32 (b : Int)).toNat : Int) = _
  rw [BitVec.toNat_or, ofInt32 a ha, ofInt32 b hb, IntKind.wrap_u32]
  omega
/-- What is laid above so many bits and what lies below them do not meet. -/
theorem or_step (a b d k : Nat) (hd : d = 2 ^ k) (ha : a < d) (hA : a < 4294967296) (hB : b * d < 4294967296) : Go.bits .or .u32 (a : Int) ((b : Int) * (d : Int)) = ((a + b * d : Nat) : Int) := by
  subst hd
  rw [show (b : Int) * ((2 ^ k : Nat) : Int) = ((b * 2 ^ k : Nat) : Int) from by simp, or_u32_nat a _ hA hB, Nat.or_comm, Nat.mul_comm b, ← Nat.two_pow_add_eq_or_of_lt ha]
  omega
def num4 (a b c d : UInt8) : Nat := a.toNat + b.toNat * 256 + c.toNat * 65536 + d.toNat * 16777216
theorem or4 (a b c d : Nat) (ha : a < 256) (hb : b < 256) (hc : c < 256) (hd : d < 256) :
    Go.bits .or .u32 (Go.bits .or .u32 (Go.bits .or .u32 (a : Int) ((b : Int) * 256)) ((c : Int) * 65536)) ((d : Int) * 16777216) = ((a + b * 256 + c * 65536 + d * 16777216 : Nat) : Int) := by
  have e1 := or_step a b 256 8 rfl ha (by omega) (by omega)
  have e2 := or_step (a + b * 256) c 65536 16 rfl (by omega) (by omega) (by omega)
  have e3 := or_step (a + b * 256 + c * 65536) d 16777216 24 rfl (by omega) (by omega) (by omega)
  rw [show ((256 : Nat) : Int) = 256 from rfl] at e1
  rw [show ((65536 : Nat) : Int) = 65536 from rfl] at e2
  rw [show ((16777216 : Nat) : Int) = 16777216 from rfl] at e3
  rw [e1, e2, e3]
theorem good_num (d : List UInt8) (a b c e : UInt8) : goodB (d ++ [a, b, c, e]) = ((sumB d : Nat) == num4 a b c e) := by
  unfold goodB
  have hl : (d ++ [a, b, c, e]).length = d.length + 4 := by simp
  rw [hl, show d.length + 4 - 4 = d.length from by omega, List.take_left, show decide (4 ≤ d.length + 4) = true from by simp, Bool.true_and]
  unfold sealB
  have hs := sumB_lt d
  have e1 : (d ++ le4 (sumB d) = d ++ [a, b, c, e]) ↔ sumB d = num4 a b c e := by
    rw [List.append_cancel_left_eq]
    constructor
    · intro h
      have := le4_num hs
      rw [h, num_bits, num_bits, num_bits, num_bits, bits_nil, num] at this
      unfold num4; omega
    · intro h
      have h2 : num (bits [a, b, c, e]) = sumB d := by
        rw [num_bits, num_bits, num_bits, num_bits, bits_nil, num, h]
        unfold num4; omega
      rw [← h2, num_le4 rfl]
  rw [Bool.eq_iff_iff, decide_eq_true_iff, beq_iff_eq]
  exact e1
theorem good_short (l : List UInt8) (h : l.length < 4) : goodB l = false := by
  unfold goodB; rw [decide_eq_false (by omega)]; rfl
theorem last4 (l : List UInt8) (n : Nat) (h : l.length = n + 4) : l = l.take n ++ [l.getD n 0, l.getD (n + 1) 0, l.getD (n + 2) 0, l.getD (n + 3) 0] := by
  have h1 : l.drop n = [l.getD n 0, l.getD (n + 1) 0, l.getD (n + 2) 0, l.getD (n + 3) 0] := by
    refine List.ext_getElem (by simp; omega) fun i h1 h2 => ?_
    rw [List.getElem_drop]
    simp at h2
    match i, h2 with
    | 0, _ => simp [show n < l.length by omega]
    | 1, _ => simp [show n + 1 < l.length by omega]
    | 2, _ => simp [show n + 2 < l.length by omega]
    | 3, _ => simp [show n + 3 < l.length by omega]
  rw [← h1, List.take_append_drop]
theorem beq_cast (a b : Nat) : ((a : Int) == (b : Int)) = (a == b) := by
  rw [Bool.eq_iff_iff, beq_iff_eq, beq_iff_eq]; omega
set_option maxHeartbeats 1000000 in
theorem good_any (ad : Option Addr) (len cap : Nat) (l : List UInt8) (w : World) (hlen : l.length = len) (hcap : len ≤ cap) (hm : cap ≤ 9223372036854775807) (hr : RdB w ad l) (hT : Tabs w) :
    Calls Tryd.prog 18 #[.slice ad len cap] w fun e w' => e = .returned (.bool (goodB l)) ∧ Below w.heap.size w w' := by
  by_cases h4 : len < 4
  · have HG := Lib.hid (good_short l (by omega))
    clear hr hT hlen
    have hd : (len : Int) < 4 := by omega
    go_enter Tryd.func18, Tryd.ntmps18
    go_wp2_with fail
    go_ret
    exact ⟨ret_bool HG.out.symm, Below.refl _ _⟩
  · obtain ⟨n, rfl⟩ : ∃ n, len = n + 4 := ⟨len - 4, by omega⟩
    obtain ⟨b, off, rfl, _⟩ := hr.at (k := 0) (by omega)
    have hc : ∀ i, i < n + 4 → w.cell? ⟨b, off + i, none⟩ = some (.int .u8 ((l.getD i 0).toNat : Int)) := by
      rcases hr with h | ⟨b', off', e, hc⟩
      · rw [h] at hlen; simp at hlen
      · cases e; intro i hi; exact hc i (by omega)
    have k0 := hc n (by omega)
    have k1 : w.cell? ⟨b, off + n + 1, none⟩ = some (.int .u8 ((l.getD (n + 1) 0).toNat : Int)) := hc (n + 1) (by omega)
    have k2 : w.cell? ⟨b, off + n + 2, none⟩ = some (.int .u8 ((l.getD (n + 2) 0).toNat : Int)) := hc (n + 2) (by omega)
    have k3 : w.cell? ⟨b, off + n + 3, none⟩ = some (.int .u8 ((l.getD (n + 3) 0).toNat : Int)) := hc (n + 3) (by omega)
    have hbl : b < w.heap.size := RdB.lt (l := l) (fun i hi => hc i (by omega)) (by omega)
    have HL4 := Lib.hid (last4 l n hlen)
    have HTK := Lib.hid (show (l.take n).length = n by rw [List.length_take]; omega)
    have C : Hid (∀ k, Calls Tryd.prog 10 #[.slice (some ⟨w.heap.size, 0, none⟩) 1 1] (w.alloc (.cells #[.slice (some ⟨b, off, none⟩) n k] 22)).drew fun e w' => e = .returned (.int .u32 ((sumB (l.take n) : Nat) : Int)) ∧ (w.alloc (.cells #[.slice (some ⟨b, off, none⟩) n k] 22)).drew = w') :=
      Lib.hid (fun k => sum_one (some ⟨b, off, none⟩) n k (l.take n) w.drew (by rw [List.length_take]; omega) (by omega) ((hr.take n).below (Below.refl _ _).drew) (hT.below (Below.refl _ _).drew) 1 w.heap.size rfl)
    have HG := Lib.hid (good_num (l.take n) (l.getD n 0) (l.getD (n + 1) 0) (l.getD (n + 2) 0) (l.getD (n + 3) 0))
    rw [← HL4.out] at HG
    have t0 := (l.getD n 0).toNat_lt
    have t1 := (l.getD (n + 1) 0).toNat_lt
    have t2 := (l.getD (n + 2) 0).toNat_lt
    have t3 := (l.getD (n + 3) 0).toNat_lt
    have HO := Lib.hid (or4 _ _ _ _ t0 t1 t2 t3)
    unfold num4 at HG
    have hs := sumB_lt (l.take n)
    generalize sumB (l.take n) = s at *
    generalize (l.getD n 0).toNat = x0 at *
    generalize (l.getD (n + 1) 0).toNat = x1 at *
    generalize (l.getD (n + 2) 0).toNat = x2 at *
    generalize (l.getD (n + 3) 0).toNat = x3 at *
    generalize goodB l = g at *
    have HS : Hid (∀ W, Below w.heap.size w W → Below w.heap.size w W ∧ W.cell? ⟨b, off + n, none⟩ = some (.int .u8 x0) ∧ W.cell? ⟨b, off + n + 1, none⟩ = some (.int .u8 x1) ∧ W.cell? ⟨b, off + n + 2, none⟩ = some (.int .u8 x2) ∧ W.cell? ⟨b, off + n + 3, none⟩ = some (.int .u8 x3)) :=
      Lib.hid (fun W hB => ⟨hB, (hB.cell hbl).trans k0, (hB.cell hbl).trans k1, (hB.cell hbl).trans k2, (hB.cell hbl).trans k3⟩)
    clear hc hr hT hlen HL4 HTK
    have v0 : IntKind.u32.wrap (x0 : Int) = x0 := by rw [IntKind.wrap_u32]; omega
    have v1 : IntKind.u32.wrap (x1 : Int) = x1 := by rw [IntKind.wrap_u32]; omega
    have v2 : IntKind.u32.wrap (x2 : Int) = x2 := by rw [IntKind.wrap_u32]; omega
    have v3 : IntKind.u32.wrap (x3 : Int) = x3 := by rw [IntKind.wrap_u32]; omega
    have u1 : IntKind.u32.wrap ((x1 : Int) * 256) = (x1 : Int) * 256 := by rw [IntKind.wrap_u32]; omega
    have u2 : IntKind.u32.wrap ((x2 : Int) * 65536) = (x2 : Int) * 65536 := by rw [IntKind.wrap_u32]; omega
    have u3 : IntKind.u32.wrap ((x3 : Int) * 16777216) = (x3 : Int) * 16777216 := by rw [IntKind.wrap_u32]; omega
    have g1 : (0 : Int) ≤ (n : Int) := by omega
    have g2 : (n : Int) ≤ (cap : Int) := by omega
    go_enter Tryd.func18, Tryd.ntmps18
    go_wp2_with fail
    go_region_held3 (fun W => Below w.heap.size w W ∧ W.cell? ⟨b, off + n, none⟩ = some (.int .u8 x0) ∧ W.cell? ⟨b, off + n + 1, none⟩ = some (.int .u8 x1) ∧ W.cell? ⟨b, off + n + 2, none⟩ = some (.int .u8 x2) ∧ W.cell? ⟨b, off + n + 3, none⟩ = some (.int .u8 x3)) ((apply HS.out; repeat (first | exact Below.refl _ _ | apply Below.drew | (refine Below.alloc ?_ ?_ _; rotate_left; · first | exact Nat.le_refl _ | simp))))
      ((go_at_call 10; refine (C.out _).mono ?_; rintro e w' ⟨rfl, rfl⟩))
    rw [HO.out]
    go_wp2_with fail
    go_ret
    exact ⟨ret_bool (by rw [HG.out]; exact beq_cast _ _), ((Below.refl _ _).alloc (Nat.le_refl _) _).drew⟩
theorem str_eq (x y : List UInt8) : ((strB x).toList == (strB y).toList) = decide (strB x = strB y) := by
  unfold strB
  rw [ByteArray.toList_mk, ByteArray.toList_mk, Bool.eq_iff_iff, beq_iff_eq, decide_eq_true_iff]
  exact strB_inj.symm
set_option maxHeartbeats 1000000 in
theorem rgood_any (ad : Option Addr) (len cap : Nat) (l : List UInt8) (w : World) (hlen : l.length = len) (hcap : len ≤ cap) (hm : cap ≤ 9223372036854775807) (hm2 : len ≤ 1000000) (hr : RdB w ad l) :
    Calls Tryd.prog 19 #[.slice ad len cap] w fun e w' => e = .returned (.bool (goodB l)) ∧ Below w.heap.size w w' := by
  by_cases h4 : len < 4
  · have HG := Lib.hid (good_short l (by omega))
    clear hr hlen
    have hd : (len : Int) < 4 := by omega
    go_enter Tryd.func19, Tryd.ntmps19
    go_wp2_with fail
    go_ret
    exact ⟨ret_bool HG.out.symm, Below.refl _ _⟩
  · obtain ⟨n, rfl⟩ : ∃ n, len = n + 4 := ⟨len - 4, by omega⟩
    obtain ⟨b, off, rfl, _⟩ := hr.at (k := 0) (by omega)
    have C := Lib.hid (fun k hk => rseal_any (some ⟨b, off, none⟩) n k (l.take n) w.drew (by rw [List.length_take]; omega) (by omega) ((hr.take n).below (Below.refl _ _).drew) (fun h => by cases h) hk)
    have HG := Lib.hid (show goodB l = decide (strB (sealB (l.take n)) = strB l) by
      unfold goodB; rw [hlen, show n + 4 - 4 = n from by omega, decide_eq_true (show 4 ≤ n + 4 by omega), Bool.true_and, decide_eq_decide, strB_inj])
    have HR : Hid (∀ W, Below w.heap.size w W → (convert 22 9 (.slice (some ⟨b, off, none⟩) (n + 4) cap)).run Tryd.prog W = .ok (.string (strB l)) W) := Lib.hid (fun W hB => run_str (hr.below hB) hlen.symm (.inr ⟨b, off, rfl⟩))
    generalize sealB (l.take n) = y at *
    generalize goodB l = g at *
    clear hr hlen
    have hw : IntKind.i64.wrap (n : Int) = (n : Int) := by rw [IntKind.wrap_i64]; omega
    have h1 : (0 : Int) ≤ (n : Int) := by omega
    have h2 : (n : Int) ≤ (cap : Int) := by omega
    have h3 : n ≤ cap := by omega
    go_enter Tryd.func19, Tryd.ntmps19
    go_wp2_with fail
    refine wp_region_noPanic ?_
    go_region_held_law (fun W => Below w.heap.size w W ∧ (convert 22 9 (.slice (some ⟨b, off, none⟩) (n + 4) cap)).run Tryd.prog W = .ok (.string (strB l)) W) ((refine ⟨?_, HR.out _ ?_⟩ <;> (first | assumption | exact (Below.refl _ _).drew)))
      ((go_at_call 17; refine (C.out _ h3).mono ?_; rintro e w1 ⟨ad2, cap2, rfl, hown, hB1⟩; have hR := OwnB.str hown (Below.refl _ _); have hB2 := (Below.refl w.heap.size w).drew.trans hB1))
    refine NoPanic.normal ?_
    go_wp2_with fail
    go_ret
    exact ⟨ret_bool (by rw [HG.out]; exact str_eq _ _), hB2⟩
/-- What sealing leaves, in a world that goes on from another. -/
def SealPost (l : List UInt8) (w2 w : World) (e : Ending) (w' : World) : Prop :=
  ∃ ad cap, e = .returned (.slice ad l.length cap) ∧ OwnB w' w.heap.size (.slice ad l.length cap) l ∧ Below w.heap.size w w' ∧ Below w2.heap.size w2 w'
theorem sealed_post {f : FuncId} {args : Array Value} {l : List UInt8} {w2 w : World} (hB : Below w2.heap.size w2 w) (h : Calls Tryd.prog f args w (BytesPost l w)) : Calls Tryd.prog f args w (SealPost l w2 w) :=
  h.mono fun e w' ⟨ad, cap, h1, h2, h3⟩ => ⟨ad, cap, h1, h2, h3, hB.trans (h3.mono hB.size)⟩
theorem good_own (ad : Option Addr) (cap : Nat) (l : List UInt8) (w : World) (base : Nat) (h : OwnB w base (.slice ad l.length cap) l) (hT : Tabs w) :
    Calls Tryd.prog 18 #[.slice ad l.length cap] w fun e w' => e = .returned (.bool (goodB l)) ∧ Below w.heap.size w w' := by
  obtain ⟨p1, p2, p3, -⟩ := h.pos
  unfold maxLen at p2
  exact good_any ad l.length cap l w rfl p1 (by omega) h.rd.1 hT
end Go.Proofs.YtgacljanapmnfaaDoor.Crc
