/- The contract of the document's own answer for layer crc (4): some bits of bytes turned. -/
import Derived.Test.YtgacljanapmnfaaDoorCrcD
import Derived.Test.YtgacljanapmnfaaDoorCrcP
namespace Go.Proofs.YtgacljanapmnfaaDoor.Crc
open Go.ChangeShapes Go.WideShapes Go.ChangeAt Go.RowKit
open Go.Proofs.YtgacljanapmnfaaDoor.Byt
set_option linter.unusedVariables false
theorem ofInt8 (a : Nat) (h : a < 256) : (BitVec.ofInt 8 (a : Int)).toNat = a := by
  rw [BitVec.ofInt_natCast, BitVec.toNat_ofNat]; exact Nat.mod_eq_of_lt (by omega)
theorem xor_u8 (a b : Nat) (ha : a < 256) (hb : b < 256) : Go.bits .xor .u8 (a : Int) (b : Int) = ((a ^^^ b : Nat) : Int) := by
  have hx : a ^^^ b < 2 ^ 8 := Nat.xor_lt_two_pow (by omega) (by omega)
  show IntKind.u8.wrap ((BitVec.ofInt 8 (a : Int) ^^^ BitVec.ofInt 8 (b : Int)).toNat : Int) = _
  rw [BitVec.toNat_xor, ofInt8 a ha, ofInt8 b hb, IntKind.wrap_u8]
  omega
theorem xor_flip (x : UInt8) (i : Nat) : Value.int .u8 (Go.bits .xor .u8 (x.toNat : Int) (2 ^ (i % 8) % 256)) = bv (flip8 x (i % 8)) := by
  have hm : i % 8 < 8 := Nat.mod_lt _ (by decide)
  have hp : 2 ^ (i % 8) < 256 := Nat.pow_lt_pow_right (n := 8) (a := 2) (by decide) hm
  unfold bv
  rw [flip8_nat x _ hm, ← xor_u8 _ _ x.toNat_lt hp]
  congr 2
  have e : (2 : Int) ^ (i % 8) = ((2 ^ (i % 8) : Nat) : Int) := by simp
  rw [e]
  generalize 2 ^ (i % 8) = p at *
  omega
theorem bvs_set (l : List UInt8) (j : Nat) (x : UInt8) : bvs (l.set j x) = (bvs l).set j (bv x) := by
  unfold bvs; rw [List.map_set]
theorem shift_bit (b k : Nat) : (((b : Int) / 2 ^ k).tmod 2 == 1) = b.testBit k := by
  rw [show (b : Int) / 2 ^ k = ((b / 2 ^ k : Nat) : Int) from by simp, Nat.testBit_eq_decide_div_mod_eq]
  generalize b / 2 ^ k = x
  rw [Int.tmod_eq_emod_of_nonneg (by omega), Bool.eq_iff_iff, beq_iff_eq, decide_eq_true_iff]
  omega
set_option maxHeartbeats 1000000 in
theorem turn_any (b off : Nat) (len cap : Nat) (l : List UInt8) (pos bs : Nat) (w : World) (hlen : l.length = len) (h1 : 1 ≤ len) (hm : len ≤ 1000000) (hp : pos ≤ 10000000) (hbs : bs < 4294967296) (hcap : len ≤ cap) (hr : RdB w (some ⟨b, off, none⟩) l) :
    Calls Tryd.prog 20 #[.slice (some ⟨b, off, none⟩) len cap, .int .i64 pos, .int .u32 bs] w (BytesPost (turnB l pos bs 32) w) := by
  obtain ⟨i0, hi, hz0, hz1, hz2⟩ := info_parts infoByte
  have hB1 : Below w.heap.size w (w.alloc (.cells #[] 5)) := (Below.refl _ _).alloc (Nat.le_refl _) _
  have c2 := Lib.hid (RdB.cells (hr.below hB1))
  have HL := Lib.hid hlen
  have HTL := Lib.hid (fun k => (turnB_len l pos bs k).trans hlen)
  have hown0 : (w.alloc (.cells #[] 5)).ownsRow w.heap.size 5 1 (.slice (some ⟨w.heap.size, 0, none⟩) 0 0) 0 (bvs []) := World.ownsRow_lit (size := 1) w #[] 0 (Nat.le_refl _) (by unfold maxLen; omega) rfl
  clear hlen hr
  go_enter Tryd.func20, Tryd.ntmps20
  go_upto_region 2 with (at_builtin; refine Own.wpList_append2 _ rfl _ _ 22 rfl w.heap.size 5 i0 (.int .u8 0) 1 1 Tryd.underlying22 hi hz0 hz1 hz2 rfl (by decide) _ _ _ rfl hown0 ⟨b, off, none⟩ len cap (bvs l) rfl (by rw [bvs_len, HL.out, Nat.mul_one]) (c2.out _ rfl) (bvs_oneCell _) (by unfold maxLen; omega) (by omega) (by simp) ?_; intro v3 w3 hown3 hgrow3 _ _)
  have hB3 : Below w.heap.size w w3 := hB1.grown hgrow3 (by simp) (fun j ej => by cases ej; exact Nat.le_refl _)
  rw [Nat.zero_add, show bvs [] = [] from rfl, List.nil_append] at hown3
  have HO3 : Hid (OwnB w3 w.heap.size v3 l) := Lib.hid (by unfold OwnB; rw [HL.out]; exact hown3)
  obtain ⟨ad3, cap3, rfl, _⟩ := Own.shape hown3
  obtain ⟨p1, p2, -, p4⟩ := HO3.out.pos
  obtain ⟨g, rfl, hg1, hg2⟩ := p4 (by have := HL.out; omega)
  rw [HL.out] at p1
  clear hown3 hgrow3 c2 hown0 hB1 p4
  go_wp2_with fail
  go_loopw [8] (fun i wr => ∃ (k : Nat), k ≤ 32 ∧ i = .int .i64 k ∧ OwnB wr w.heap.size (.slice (some ⟨g, 0, none⟩) len cap3) (turnB l pos bs k) ∧ Below w.heap.size w wr) (fun i _ => 32 - (intOf i).toNat)
  case atStart => exact ⟨0, Nat.zero_le _, rfl, HO3.out, hB3⟩
  case round =>
    obtain ⟨k, hk, rfl, hown, hB⟩ := hrel
    by_cases hlt : k < 32
    · by_cases hb : bs.testBit k = true
      · have hc : (((bs : Int) / 2 ^ k).tmod 2 == 1) = true := by rw [shift_bit, hb]
        by_cases hi8 : (pos + k) / 8 < len
        · have hd : ((pos : Int) + (k : Int)) / 8 < (len : Int) := by omega
          have hll := HTL.out k
          have hcell : wr.cell? ⟨g, (pos + k) / 8, none⟩ = some (.int .u8 (((turnB l pos bs k).getD ((pos + k) / 8) 0).toNat : Int)) := by
            obtain ⟨b', off', e, hc'⟩ := hown.rd.1.at (k := (pos + k) / 8) (by rw [hll]; exact hi8)
            cases e
            rw [Nat.zero_add] at hc'
            exact hc'
          have hfr : wr.frozen? ⟨g, (pos + k) / 8, none⟩ = false := by
            unfold OwnB at hown; rw [hll] at hown
            exact World.ownsRow.frozenAt hown _
          have HT := Lib.hid (show turnB l pos bs (k + 1) = flipB (turnB l pos bs k) (pos + k) by
            rw [turnB, if_pos ⟨hb, by rw [HL.out]; exact hi8⟩])
          have HOWN := Lib.hid hown
          have HLL := Lib.hid hll
          clear hown hll hi8 hb
          obtain ⟨x, hx⟩ : ∃ x, Hid ((turnB l pos bs k).getD ((pos + k) / 8) 0 = x) := ⟨_, Lib.hid rfl⟩
          rw [hx.out] at hcell
          have HX := Lib.hid (xor_flip x (pos + k))
          go_wp2_with fail
          go_roundw
          case rel =>
            refine ⟨k + 1, by omega, by go_num, ?_, hB.setCell (p := ⟨g, (pos + k) / 8, none⟩) hg1 _⟩
            rw [HT.out, HX.out]
            have hs := HOWN.out
            unfold OwnB at hs ⊢
            rw [HLL.out] at hs
            rw [flipB_len, HLL.out]
            have := (World.ownsRow.stored hs ((pos + k) / 8) (bv (flip8 x ((pos + k) % 8)))).1
            unfold flipB
            rw [hx.out, bvs_set]
            exact this
          case measure => simp [intOf]; omega
        · have HT := Lib.hid (show turnB l pos bs (k + 1) = turnB l pos bs k by
            rw [turnB, if_neg (fun h => hi8 (by have := h.2; rwa [HL.out] at this))])
          have hd : decide (((pos : Int) + (k : Int)) / 8 < (len : Int)) = false := decide_eq_false (by omega)
          clear hi8 hb
          go_wp2_with fail
          go_roundw
          case rel => exact ⟨k + 1, by omega, by go_num, by rw [HT.out]; exact hown, hB⟩
          case measure => simp [intOf]; omega
      · have hc : (((bs : Int) / 2 ^ k).tmod 2 == 1) = false := by rw [shift_bit]; simpa using hb
        have HT := Lib.hid (show turnB l pos bs (k + 1) = turnB l pos bs k by
          rw [turnB, if_neg (fun h => hb h.1)])
        clear hb
        go_wp2_with fail
        go_roundw
        case rel => exact ⟨k + 1, by omega, by go_num, by rw [HT.out]; exact hown, hB⟩
        case measure => simp [intOf]; omega
    · obtain rfl : k = 32 := by omega
      go_wp2_with fail
      go_ret
      unfold BytesPost
      rw [HTL.out]
      exact ⟨_, _, rfl, hown, hB⟩
end Go.Proofs.YtgacljanapmnfaaDoor.Crc
