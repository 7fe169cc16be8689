/- Whether bytes differ by a burst; the document's own answers for layer burst (15): bits, where bytes differ, how wide bits are; the example. -/
import Derived.Test.YtpibmppolnfckaaDoorBstD
import Derived.Test.YtpibmppolnfckaaDoorIntA
namespace Go.Proofs.YtpibmppolnfckaaDoor.Bst
open Go.ChangeShapes Go.WideShapes Go.ChangeAt Go.RowKit
open Go.Proofs.YtpibmppolnfckaaDoor.Byt
open Go.Proofs.YtpibmppolnfckaaDoor.Ints (OwnL ListPost infoInt)
open Go.Proofs.YtpibmppolnfckaaDoor.Crc (turnB turnB_len)
set_option linter.unusedVariables false
def isB (l m : List UInt8) : Bool := decide (0 < dW l m) && decide (dW l m ≤ 32)
set_option maxRecDepth 100000 in
theorem is_any (a b : Option Addr) (n1 c1 n2 c2 : Nat) (l m : List UInt8) (w : World) (h1 : l.length = n1) (h2 : m.length = n2) (hm : n1 ≤ 1000000) (hm2 : n2 ≤ 1000000) (hr1 : RdB w a l) (hr2 : RdB w b m) :
    Calls Tryd.prog 12 #[.slice a n1 c1, .slice b n2 c2] w fun e w' => e = .returned (.bool (isB l m)) ∧ Below w.heap.size w w' := by
  have CC := Lib.hid (differ_any a b n1 c1 n2 c2 l m w h1 h2 hm hm2 hr1 hr2)
  unfold DifPost at CC
  have HI := Lib.hid (show isB l m = (decide (0 < dW l m) && decide (dW l m ≤ 32)) from rfl)
  generalize isB l m = r at *
  generalize dF l m = f at *
  generalize dW l m = x at *
  generalize decide (l.length = m.length) = ok at *
  clear hr1 hr2 h1 h2
  by_cases hx0 : 0 < x
  · have hd : decide ((0 : Int) < (x : Int)) = true := decide_eq_true (by omega)
    have e1 : r = decide ((x : Int) ≤ 32) := by rw [HI.out, decide_eq_true hx0, Bool.true_and, decide_eq_decide]; omega
    have E1 := Lib.hid e1
    clear HI e1
    go_enter Tryd.func12, Tryd.ntmps12
    go_wp2_with fail
    refine (CC.out).mono ?_; rintro e w1 ⟨rfl, hB1⟩
    go_wp2_with fail
    go_ret
    exact ⟨Crc.ret_bool E1.out.symm, hB1⟩
  · have hd : decide ((0 : Int) < (x : Int)) = false := decide_eq_false (by omega)
    have hd2 : decide (0 < x) = false := decide_eq_false hx0
    have e1 : r = false := by rw [HI.out, decide_eq_false hx0, Bool.false_and]
    subst e1
    clear HI hx0
    go_enter Tryd.func12, Tryd.ntmps12
    go_wp2_with fail
    refine (CC.out).mono ?_; rintro e w1 ⟨rfl, hB1⟩
    go_wp2_with fail
    go_ret
    exact ⟨rfl, hB1⟩
/-- A bit of bytes. -/
def bitP (l : List UInt8) (i : Nat) : Nat := (l.getD (i / 8) 0).toNat / 2 ^ (i % 8) % 2
theorem bitP_lt (l : List UInt8) (i : Nat) : bitP l i < 2 := Nat.mod_lt _ (by decide)
theorem dif_bit (l m : List UInt8) (i : Nat) : dif l m i = decide (bitP l i ≠ bitP m i) := by
  unfold dif bitP
  rw [Nat.testBit_eq_decide_div_mod_eq, Nat.testBit_eq_decide_div_mod_eq]
  have h1 : (l.getD (i / 8) 0).toNat / 2 ^ (i % 8) % 2 < 2 := Nat.mod_lt _ (by decide)
  have h2 : (m.getD (i / 8) 0).toNat / 2 ^ (i % 8) % 2 < 2 := Nat.mod_lt _ (by decide)
  generalize (l.getD (i / 8) 0).toNat / 2 ^ (i % 8) % 2 = x at *
  generalize (m.getD (i / 8) 0).toNat / 2 ^ (i % 8) % 2 = y at *
  have hx : x = 0 ∨ x = 1 := by omega
  have hy : y = 0 ∨ y = 1 := by omega
  rcases hx with rfl | rfl <;> rcases hy with rfl | rfl <;> rfl
theorem rbit_any (ad : Option Addr) (len cap : Nat) (l : List UInt8) (i : Nat) (w : World) (hlen : l.length = len) (hm : len ≤ 1000000) (hi : i < 8 * len) (hr : RdB w ad l) :
    Calls Tryd.prog 20 #[.slice ad len cap, .int .i64 i] w fun e w' => e = .returned (.int .u8 (bitP l i : Nat)) ∧ w = w' := by
  obtain ⟨b, off, rfl, hc⟩ := hr.at (k := i / 8) (by omega)
  have HB : Hid (((bitP l i : Nat) : Int) = (((l.getD (i / 8) 0).toNat : Int) / 2 ^ (i % 8)).tmod 2) := Lib.hid (by
    unfold bitP
    rw [show ((l.getD (i / 8) 0).toNat : Int) / 2 ^ (i % 8) = (((l.getD (i / 8) 0).toNat / 2 ^ (i % 8) : Nat) : Int) by simp]
    generalize (l.getD (i / 8) 0).toNat / 2 ^ (i % 8) = y
    rw [Int.tmod_eq_emod_of_nonneg (by omega)]; simp)
  have hx := (l.getD (i / 8) 0).toNat_lt
  generalize (l.getD (i / 8) 0).toNat = x at *
  generalize bitP l i = v at *
  have hi8 : i / 8 < len := by omega
  clear hr hlen
  go_enter Tryd.func20, Tryd.ntmps20
  go_wp2_with fail
  go_ret
  exact ⟨Crc.ret_int HB.out.symm, rfl⟩
set_option maxHeartbeats 1000000 in
theorem rdiffer_any (a b : Option Addr) (n c1 c2 : Nat) (l m : List UInt8) (w : World) (h1 : l.length = n) (h2 : m.length = n) (hm : n ≤ 1000000) (hr1 : RdB w a l) (hr2 : RdB w b m) :
    Calls Tryd.prog 13 #[.slice a n c1, .slice b n c2] w (ListPost ((difs l m (8 * n)).map fun j : Nat => (j : Int)) w) := by
  obtain ⟨i0, hi, hz0, hz1, hz2⟩ := info_parts infoInt
  have C1 : Hid (∀ (i : Nat) W, i < 8 * n → Below w.heap.size w W → Calls Tryd.prog 20 #[.slice a n c1, .int .i64 i] W fun e w' => e = .returned (.int .u8 (bitP l i : Nat)) ∧ W = w') := Lib.hid (fun i W h hB => rbit_any a n c1 l i W h1 hm h (hr1.below hB))
  have C2 : Hid (∀ (i : Nat) W, i < 8 * n → Below w.heap.size w W → Calls Tryd.prog 20 #[.slice b n c2, .int .i64 i] W fun e w' => e = .returned (.int .u8 (bitP m i : Nat)) ∧ W = w') := Lib.hid (fun i W h hB => rbit_any b n c2 m i W h2 hm h (hr2.below hB))
  clear h1 h2 hr1 hr2
  go_enter Tryd.func13, Tryd.ntmps13
  go_wp2_with fail
  go_loopw [5, 6] (fun v i wr => ∃ k : Nat, k ≤ 8 * n ∧ i = .int .i64 k ∧ Hid (OwnL wr w.heap.size v ((difs l m k).map fun j : Nat => (j : Int))) ∧ Hid (Below w.heap.size w wr)) (fun _ i _ => 8 * n - (intOf i).toNat)
  case atStart => exact ⟨0, Nat.zero_le _, rfl, Lib.hid (World.ownsRow_lit (size := 1) w #[] 0 (Nat.le_refl _) (by unfold maxLen; omega) rfl), Lib.hid ((Below.refl _ _).alloc (Nat.le_refl _) _)⟩
  case round =>
    obtain ⟨k, hk, rfl, hown, hB⟩ := hrel
    by_cases hlt : k < 8 * n
    · have D1 := Lib.hid (C1.out k wr hlt hB.out)
      have D2 := Lib.hid (C2.out k wr hlt hB.out)
      have HS := Lib.hid (difs_succ l m k)
      rw [dif_bit] at HS
      have hul : Hid (((difs l m k).map fun j : Nat => (j : Int)).length ≤ k) := Lib.hid (by
        rw [List.length_map, difs]
        have := List.length_filter_le (dif l m) (List.range k)
        rwa [List.length_range] at this)
      have hsz := hB.out.size
      have hlt2 : (k : Int) < 8 * (n : Int) := by omega
      generalize bitP l k = x at *
      generalize bitP m k = y at *
      by_cases hb : x = y
      · have HD : Hid (difs l m (k + 1) = difs l m k) := Lib.hid (by rw [HS.out]; simp [hb])
        subst hb
        clear HS
        go_wp2_with fail
        refine (D1.out).mono ?_; rintro e w' ⟨rfl, rfl⟩
        go_wp2_with fail
        refine (D2.out).mono ?_; rintro e w' ⟨rfl, rfl⟩
        go_wp2_with fail
        go_roundw
        case rel => exact ⟨k + 1, by omega, by go_num, by rw [HD.out]; exact hown, hB⟩
        case measure => simp [intOf]; omega
      · have HD : Hid (difs l m (k + 1) = difs l m k ++ [k]) := Lib.hid (by rw [HS.out]; simp [hb])
        have hb1 : ((x : Int) != (y : Int)) = true := by simp; omega
        clear HS hb
        go_wp2_with fail
        refine (D1.out).mono ?_; rintro e w' ⟨rfl, rfl⟩
        go_wp2_with fail
        refine (D2.out).mono ?_; rintro e w' ⟨rfl, rfl⟩
        go_wp2_with (at_builtin; refine Own.wpList_append2 _ rfl _ _ 31 rfl w.heap.size 3 i0 (.int .i64 0) 1 8 Tryd.underlying31 hi hz0 hz1 hz2 rfl (by decide) _ _ _ rfl (World.ownsRow.alloc hown.out _) ⟨wr.heap.size, 0, none⟩ 1 1 [.int .i64 k] rfl rfl (cell_one_new _ _ _) (by simp [Value.oneCell']) (by have := hul.out; unfold maxLen; omega) (by have := hul.out; omega) (by simp; omega) ?_; intro v' w1 hown' hgrow _ _)
        have hB1 := hB.out.trans (Own.below_append hown.out hsz hgrow)
        go_roundw
        case rel => exact ⟨k + 1, by omega, by go_num, Lib.hid (by rw [HD.out, List.map_append]; exact OwnL.snoc hown'), Lib.hid hB1⟩
        case measure => simp [intOf]; omega
    · obtain rfl : k = 8 * n := by omega
      obtain ⟨ad, cap, rfl, _⟩ := Own.shape hown.out
      have hlt2 : decide (((8 * n : Nat) : Int) < 8 * (n : Int)) = false := decide_eq_false (by omega)
      go_wp2_with fail
      go_ret
      exact ⟨ad, cap, rfl, hown.out, hB.out⟩
theorem rwidth_any (x : Nat) (hx : x < 4294967296) (w : World) :
    Calls Tryd.prog 15 #[.int .u32 x] w fun e w' => e = .returned (.int .i64 (widB x : Nat)) ∧ w = w' := by
  have HF : Hid (∀ f e : Nat, f = fst (ons x 32) → e = lst (ons x 32) → e ≠ 0 → ((widB x : Nat) : Int) = ((e : Int) - 1) - (f : Int) + 1) := Lib.hid (fun f e hf he h0 => by
    have := fst_le_lst (up_ons x 32)
    rw [wid_ons x hx, wid, ← hf, ← he]
    omega)
  have HZ : Hid (lst (ons x 32) = 0 → ((widB x : Nat) : Int) = 0) := Lib.hid (fun h => by rw [wid_ons x hx, wid, h]; simp)
  generalize widB x = v at *
  have HFL : Hid (∀ k, fst (ons x k) ≤ lst (ons x k)) := Lib.hid (fun k => fst_le_lst (up_ons x k))
  go_enter Tryd.func15, Tryd.ntmps15
  go_wp2_with fail
  go_loop [3, 4, 5] (fun lo hi i => ∃ (k f e : Nat), k ≤ 32 ∧ i = .int .i64 k ∧ lo = .int .i64 (if e = 0 then -1 else (f : Int)) ∧ hi = .int .i64 ((e : Int) - 1) ∧ Hid (f = fst (ons x k)) ∧ Hid (e = lst (ons x k)) ∧ f ≤ 32 ∧ e ≤ 32) (fun _ _ i => 32 - (intOf i).toNat)
  case atStart => exact ⟨0, 0, 0, by omega, rfl, rfl, rfl, Lib.hid rfl, Lib.hid rfl, by omega, by omega⟩
  case round =>
    obtain ⟨k, f, e, hk, rfl, rfl, rfl, hf, he, hf2, he2⟩ := hrel
    by_cases hlt : k < 32
    · by_cases hb : x.testBit k = true
      · have hc : (((x : Int) / 2 ^ k).tmod 2 == 1) = true := by rw [Crc.shift_bit, hb]
        have HL : Hid (k + 1 = lst (ons x (k + 1))) := Lib.hid (by rw [ons_succ, if_pos hb, lst_append, if_neg (by simp)]; rfl)
        have HE : Hid (fst (ons x (k + 1)) = if lst (ons x k) = 0 then k else fst (ons x k)) := Lib.hid (by
          rw [ons_succ, if_pos hb, fst_append]
          by_cases h : ons x k = []
          · rw [if_pos h, if_pos (lst_zero.2 h)]; rfl
          · rw [if_neg h, if_neg (fun e => h (lst_zero.1 e))])
        rw [← hf.out, ← he.out] at HE
        clear hb
        by_cases he0 : e = 0
        · subst he0
          rw [if_pos rfl] at HE
          simp only [if_true]
          clear he
          go_wp2_with fail
          go_round
          case rel => exact ⟨k + 1, k, k + 1, by omega, by go_num, by rw [if_neg (by omega)], by go_num, Lib.hid HE.out.symm, HL, by omega, by omega⟩
          case measure => simp [intOf]; omega
        · rw [if_neg he0] at HE
          simp only [if_neg he0]
          have hd : decide ((f : Int) < 0) = false := decide_eq_false (by omega)
          clear he
          go_wp2_with fail
          go_round
          case rel => exact ⟨k + 1, f, k + 1, by omega, by go_num, by rw [if_neg (by omega)], by go_num, Lib.hid HE.out.symm, HL, hf2, by omega⟩
          case measure => simp [intOf]; omega
      · have hc : (((x : Int) / 2 ^ k).tmod 2 == 1) = false := by rw [Crc.shift_bit]; simpa using hb
        have HS : Hid (ons x (k + 1) = ons x k) := Lib.hid (by rw [ons_succ, if_neg hb])
        clear hb
        generalize hlo : (if e = 0 then (-1 : Int) else (f : Int)) = lo at *
        have HLO := Lib.hid hlo
        clear hlo
        go_wp2_with fail
        go_round
        case rel => exact ⟨k + 1, f, e, by omega, by go_num, by rw [HLO.out], rfl, Lib.hid (by rw [HS.out]; exact hf.out), Lib.hid (by rw [HS.out]; exact he.out), hf2, he2⟩
        case measure => simp [intOf]; omega
    · obtain rfl : k = 32 := by omega
      by_cases he0 : e = 0
      · subst he0
        have HV := Lib.hid (HZ.out he.out.symm)
        simp only [if_true]
        clear he
        go_wp2_with fail
        first | exact ⟨Crc.ret_int HV.out.symm, rfl⟩ | (go_ret; exact ⟨Crc.ret_int HV.out.symm, rfl⟩)
      · have HV := Lib.hid (HF.out f e hf.out he.out he0)
        simp only [if_neg he0]
        have hd : decide ((f : Int) < 0) = false := decide_eq_false (by omega)
        clear he
        go_wp2_with fail
        first | exact ⟨Crc.ret_int HV.out.symm, rfl⟩ | (go_ret; exact ⟨Crc.ret_int HV.out.symm, rfl⟩)
end Go.Proofs.YtpibmppolnfckaaDoor.Bst
