/- Contracts of package crc (layer 4) and of the document's own answers for it: more of a sum, and the sum of bytes. -/
import Derived.Test.YtgacljanapmnfaaDoorBytA
import Derived.Test.YtgacljanapmnfaaDoorCrcO
import Derived.Laws.BitsAllLaws
namespace Go.Proofs.YtgacljanapmnfaaDoor.Crc
open Go.ChangeShapes Go.WideShapes Go.ChangeAt Go.RowKit
open Go.Proofs.YtgacljanapmnfaaDoor.Byt
set_option linter.unusedVariables false
theorem ret_int {k : IntKind} {a b : Int} (h : a = b) : Ending.returned (.int k a) = .returned (.int k b) := by rw [h]
theorem ret_bool {a b : Bool} (h : a = b) : Ending.returned (.bool a) = .returned (.bool b) := by rw [h]
theorem ofInt32 (a : Nat) (h : a < 4294967296) : (BitVec.ofInt 32 (a : Int)).toNat = a := by
  rw [BitVec.ofInt_natCast, BitVec.toNat_ofNat]; exact Nat.mod_eq_of_lt (by omega)
theorem xor_u32 (a b : Nat) (ha : a < 4294967296) (hb : b < 4294967296) : Go.bits .xor .u32 (a : Int) (b : Int) = ((a ^^^ b : Nat) : Int) := by
  have hx : a ^^^ b < 2 ^ 32 := Nat.xor_lt_two_pow (by omega) (by omega)
  show IntKind.u32.wrap ((BitVec.ofInt 32 (a : Int) ^^^ BitVec.ofInt 32 (b : Int)).toNat : Int) = _
  rw [BitVec.toNat_xor, ofInt32 a ha, ofInt32 b hb, IntKind.wrap_u32]
  omega
theorem and15_u32 (a : Nat) (ha : a < 4294967296) : Go.bits .and .u32 (a : Int) 15 = ((a % 16 : Nat) : Int) := by
  show IntKind.u32.wrap ((BitVec.ofInt 32 (a : Int) &&& BitVec.ofInt 32 15).toNat : Int) = _
  rw [BitVec.toNat_and, ofInt32 a ha, show (BitVec.ofInt 32 15).toNat = 2 ^ 4 - 1 from by decide, Nat.and_two_pow_sub_one_eq_mod, IntKind.wrap_u32]
  omega
theorem step_any (s b : Nat) (hs : s < 4294967296) (hb : b < 2) (w : World) :
    Calls Tryd.prog 25 #[.int .u32 s, .int .u32 b] w fun e w' => e = .returned (.int .u32 ((stp s (b == 1) : Nat) : Int)) ∧ w = w' := by
  by_cases h : s % 2 = b
  · have H : ((s : Int) % 2 != (b : Int)) = false := by simp; omega
    have HS := Lib.hid (show stp s (b == 1) = s / 2 by
      unfold stp
      rw [if_pos (by rw [h]), Nat.xor_zero])
    clear h
    go_enter Tryd.func25, Tryd.ntmps25
    go_wp2
    go_ret
    exact ⟨ret_int (by rw [HS.out]; omega), rfl⟩
  · have H : ((s : Int) % 2 != (b : Int)) = true := by simp; omega
    have HS := Lib.hid (show stp s (b == 1) = s / 2 ^^^ 3988292384 by
      unfold stp
      rw [if_neg (by intro e; apply h; have h1 : s % 2 < 2 := Nat.mod_lt _ (by decide); have : s % 2 = 0 ∨ s % 2 = 1 := by omega
                     have : b = 0 ∨ b = 1 := by omega
                     rcases ‹s % 2 = 0 ∨ s % 2 = 1› with e1 | e1 <;> rcases ‹b = 0 ∨ b = 1› with e2 | e2 <;> rw [e1, e2] at e ⊢ <;> simp at e)])
    have HX := Lib.hid (show Go.bits .xor .u32 ((s : Int) / 2) 3988292384 = ((s / 2 ^^^ 3988292384 : Nat) : Int) from xor_u32 (s / 2) 3988292384 (by omega) (by omega))
    clear h
    go_enter Tryd.func25, Tryd.ntmps25
    go_wp2
    go_ret
    exact ⟨ret_int (by rw [HS.out]; exact HX.out), rfl⟩
theorem rmore_any (s : Nat) (hs : s < 4294967296) (ad : Option Addr) (len cap : Nat) (l : List UInt8) (w : World) (hlen : l.length = len) (hm : len ≤ 9223372036854775807) (hr : RdB w ad l) :
    Calls Tryd.prog 21 #[.int .u32 s, .slice ad len cap] w fun e w' => e = .returned (.int .u32 ((mor s l : Nat) : Int)) ∧ w = w' := by
  have HL := Lib.hid hlen
  have HR := Lib.hid hr
  have C : Hid (∀ (q b : Nat) W, q < 4294967296 → b < 2 → Calls Tryd.prog 25 #[.int .u32 q, .int .u32 b] W fun e w' => e = .returned (.int .u32 ((stp q (b == 1) : Nat) : Int)) ∧ W = w') := Lib.hid (fun q b W h1 h2 => step_any q b h1 h2 W)
  clear hlen hr
  go_enter Tryd.func21, Tryd.ntmps21
  go_wp2_with fail
  go_loop [0, 5] (fun v i => ∃ k q : Nat, k ≤ len ∧ i = .int .i64 k ∧ v = .int .u32 q ∧ Hid (q = mor s (l.take k)) ∧ q < 4294967296) (fun _ i => len - (intOf i).toNat)
  case atStart => exact ⟨0, s, Nat.zero_le _, rfl, rfl, Lib.hid (by rw [List.take_zero, mor_nil]), hs⟩
  case round =>
    obtain ⟨k, q, hk, rfl, rfl, hq, hq2⟩ := hrel
    by_cases hlt : k < len
    · obtain ⟨b, off, rfl, hc⟩ := HR.out.at (k := k) (by rw [HL.out]; exact hlt)
      have HS := Lib.hid (take_snoc (l := l) (k := k) (by rw [HL.out]; exact hlt))
      generalize l.getD k 0 = x at *
      have hx := x.toNat_lt
      have HM := Lib.hid (mor_one' q x)
      have HM2 := Lib.hid (mor_append s (l.take k) [x])
      generalize x.toNat = y at *
      go_wp2_with fail
      go_loop [0, 6, 7] (fun v y' j => ∃ i r z : Nat, i ≤ 8 ∧ j = .int .i64 i ∧ v = .int .u32 r ∧ y' = .int .u32 z ∧ z < 256 ∧ Hid (feed r (low z (8 - i)) = feed q (low y 8)) ∧ r < 4294967296) (fun _ _ j => 8 - (intOf j).toNat)
      case atStart => exact ⟨0, q, y, Nat.zero_le _, rfl, rfl, rfl, by omega, Lib.hid rfl, hq2⟩
      case round =>
        obtain ⟨i, r, z, hi, rfl, rfl, rfl, hz, hf, hr2⟩ := hrel
        by_cases h8 : i < 8
        · have HF := Lib.hid (show feed (stp r (z % 2 == 1)) (low (z / 2) (8 - (i + 1))) = feed q (low y 8) by
            have := hf.out
            rwa [show 8 - i = (8 - (i + 1)) + 1 from by omega, low_succ, feed_cons] at this)
          have CC := Lib.hid (C.out r (z % 2) w hr2 (by omega))
          have hst := stp_lt (z % 2 == 1) hr2
          have e1 : ((z % 2 : Nat) : Int) = (z : Int) % 2 := by omega
          rw [e1] at CC
          have HF2 := Lib.hid HF.out
          clear e1 HF
          generalize stp r (z % 2 == 1) = r' at *
          go_wp2_with fail
          refine (CC.out).mono ?_; rintro e w' ⟨rfl, rfl⟩
          go_wp2_with fail
          go_round
          case rel => exact ⟨i + 1, r', z / 2, by omega, by go_num, rfl, by go_num, by omega, HF2, by omega⟩
          case measure => simp [intOf]; omega
        · obtain rfl : i = 8 := by omega
          have HE := Lib.hid (show r = mor s (l.take (k + 1)) by
            have h1 := hf.out
            rw [show 8 - 8 = 0 from rfl, low_zero, feed_nil] at h1
            rw [HS.out, HM2.out, ← hq.out, HM.out]; exact h1)
          go_wp2_with fail
          go_round
          case rel => exact ⟨k + 1, r, by omega, by go_num, rfl, HE, hr2⟩
          case measure => simp [intOf]; omega
    · obtain rfl : k = len := by omega
      go_wp2_with fail
      go_ret
      exact ⟨ret_int (by rw [hq.out, List.take_of_length_le (by rw [HL.out]; exact Nat.le_refl _)]), rfl⟩
end Go.Proofs.YtgacljanapmnfaaDoor.Crc
