/- Contracts for layer key (6): texts of numbers and keys. -/
import Derived.Test.YtpfnjippdjhfgaaDoorKeyH
import Derived.Test.YtpfnjippdjhfgaaDoorShelf
import Derived.Lib.ItoaNum
import Derived.Lib.Join
import Derived.Lib.LaidTab
import Derived.WalkLawsBesides
import Derived.WalkSpells
namespace Go.Proofs.YtpfnjippdjhfgaaDoor.Key
open Go.ChangeShapes Go.WideShapes Go.ChangeAt Go.RowKit
set_option linter.unusedVariables false
theorem ret_str {a b : ByteArray} (h : a = b) : Ending.returned (.string a) = .returned (.string b) := by rw [h]
theorem bytes_append (a b : List UInt8) : (⟨a.toArray⟩ : ByteArray) ++ ⟨b.toArray⟩ = ⟨(a ++ b).toArray⟩ := by
  apply ByteArray.ext
  rw [ByteArray.data_append]
  simp
def dg (n : Nat) : UInt8 := UInt8.ofNat (48 + n)
theorem digit_at : ∀ r, r < 10 → (⟨#[48, 49, 50, 51, 52, 53, 54, 55, 56, 57]⟩ : ByteArray).extract r (r + 1) = ⟨#[dg r]⟩ := by decide +kernel
theorem dec_one {n : Nat} (h : n < 10) : Go.Lib.decDigits n = [dg n] := by unfold Go.Lib.decDigits dg; rw [dif_pos h]
theorem dec_two {n : Nat} (h : ¬ n < 10) : Go.Lib.decDigits n = Go.Lib.decDigits (n / 10) ++ [dg (n % 10)] := by unfold dg; rw [Go.Lib.decDigits, dif_neg h]
theorem dec_len : ∀ (k n : Nat), n < 10 ^ k → (Go.Lib.decDigits n).length ≤ k + 1
  | 0, n, h => by rw [dec_one (by simp at h; omega)]; simp
  | k + 1, n, h => by
    by_cases h1 : n < 10
    · rw [dec_one h1]; simp
    · rw [dec_two h1, List.length_append]
      have := dec_len k (n / 10) (by rw [Nat.pow_succ] at h; omega)
      simp; omega
theorem dec_small {n : Nat} (h : n < 18446744073709551616) : (Go.Lib.decDigits n).length ≤ 21 := dec_len 20 n (Nat.lt_of_lt_of_le h (by decide))
set_option maxRecDepth 100000 in
theorem digits_one (n : Nat) (h : n < 10) (w : World) :
    Calls Tryd.prog 62 #[.int .i64 n] w fun e w' => e = .returned (.string ⟨#[dg n]⟩) ∧ w = w' := by
  have h2 : (n : Int) % 10 = n := by omega
  have HD := Lib.hid (digit_at n h)
  go_enter Tryd.func62, Tryd.ntmps62
  go_wp2
  go_ret
  exact ⟨ret_str HD.out, rfl⟩
theorem big_any : ∀ (k u : Nat), u < 10 ^ k → u < 18446744073709551616 → ∀ w : World,
    Calls Tryd.prog 45 #[.int .u64 u] w fun e w' => e = .returned (.string ⟨(Go.Lib.decDigits u).toArray⟩) ∧ w = w'
  | k, u, hk, hu, w => by
    by_cases h : u < 10
    · have hi : (u : Int) < 10 := by omega
      have HO := Lib.hid (dec_one h)
      have C := Lib.hid (fun W => digits_one u h W)
      have hw : IntKind.i64.wrap (u : Int) = (u : Int) := by rw [IntKind.wrap_i64]; omega
      clear hk
      go_enter Tryd.func45, Tryd.ntmps45
      go_wp2_with fail
      refine (C.out _).mono ?_; rintro e w' ⟨rfl, rfl⟩
      go_wp2_with fail
      go_ret
      exact ⟨ret_str (by rw [HO.out]), rfl⟩
    · obtain ⟨k, rfl⟩ : ∃ j, k = j + 1 := by
        cases k with
        | zero => simp at hk; omega
        | succ j => exact ⟨j, rfl⟩
      have HO := Lib.hid (dec_two h)
      obtain ⟨q, hq⟩ : ∃ q, Hid (q = u / 10) := ⟨_, Lib.hid rfl⟩
      obtain ⟨r, hr⟩ : ∃ r, Hid (r = u % 10) := ⟨_, Lib.hid rfl⟩
      rw [← hq.out, ← hr.out] at HO
      have h1 : r < 10 := by have := hr.out; omega
      have h2 : (u : Int) % 10 = (r : Int) := by have := hr.out; omega
      have h3 : (u : Int) / 10 = (q : Int) := by have := hq.out; omega
      have h4 : ¬ (u : Int) < 10 := by omega
      have hw : IntKind.i64.wrap (r : Int) = (r : Int) := by rw [IntKind.wrap_i64]; omega
      have CB := Lib.hid (fun W => big_any k q (by have := hq.out; rw [Nat.pow_succ] at hk; omega) (by have := hq.out; omega) W)
      have CD := Lib.hid (fun W => digits_one r h1 W)
      have h5 := dec_small (n := q) (by have := hq.out; omega)
      generalize Go.Lib.decDigits q = dq at *
      clear hk
      go_enter Tryd.func45, Tryd.ntmps45
      go_wp2_with fail
      refine (CB.out _).mono ?_; rintro e w' ⟨rfl, rfl⟩
      go_wp2_with fail
      refine (CD.out _).mono ?_; rintro e w' ⟨rfl, rfl⟩
      go_wp2_with fail
      first
        | exact ⟨ret_str (by rw [HO.out]; exact bytes_append dq [_]), rfl⟩
        | (go_ret; exact ⟨ret_str (by rw [HO.out]; exact bytes_append dq [_]), rfl⟩)
theorem big_all (u : Nat) (hu : u < 18446744073709551616) (w : World) :
    Calls Tryd.prog 45 #[.int .u64 u] w fun e w' => e = .returned (.string ⟨(Go.Lib.decDigits u).toArray⟩) ∧ w = w' :=
  big_any 20 u (Nat.lt_of_lt_of_le hu (by decide)) hu w
theorem rdigits_any (n : Int) (h0 : -9223372036854775808 ≤ n) (h1 : n ≤ 9223372036854775807) (w : World) :
    Calls Tryd.prog 34 #[.int .i64 n] w fun e w' => e = .returned (.string ⟨(Go.Lib.itoa n).toArray⟩) ∧ w = w' := by
  by_cases h : n < 0
  · obtain ⟨j, hj⟩ : ∃ j : Nat, Hid (n = -((j : Int) + 1)) := ⟨(-(n + 1)).toNat, Lib.hid (by omega)⟩
    have hj' := hj.out
    have HV : Hid (Go.Lib.itoa n = 45 :: Go.Lib.decDigits (j + 1)) := Lib.hid (by unfold Go.Lib.itoa; rw [if_pos h, show n.natAbs = j + 1 by omega])
    have C : Hid (∀ W, Calls Tryd.prog 45 #[.int .u64 ((j : Int) + 1)] W fun e w' => e = .returned (.string ⟨(Go.Lib.decDigits (j + 1)).toArray⟩) ∧ W = w') := Lib.hid (fun W => big_all (j + 1) (by omega) W)
    obtain ⟨m1, hm1⟩ : ∃ m1, m1 = n + 1 := ⟨_, rfl⟩
    have w1 : IntKind.i64.wrap (n + 1) = m1 := by rw [IntKind.wrap_i64]; omega
    have w2 : IntKind.i64.wrap (-m1) = (j : Int) := by rw [IntKind.wrap_i64]; omega
    have w2' : IntKind.i64.wrap (0 - m1) = (j : Int) := by rw [IntKind.wrap_i64]; omega
    have w3 : IntKind.u64.wrap (j : Int) = (j : Int) := by rw [IntKind.wrap_u64]; omega
    have w4 : IntKind.u64.wrap ((j : Int) + 1) = (j : Int) + 1 := by rw [IntKind.wrap_u64]; omega
    have h5 := dec_small (n := j + 1) (by omega)
    rw [HV.out]
    clear HV hj' hm1 hj h0 h1
    generalize Go.Lib.decDigits (j + 1) = dq at *
    go_enter Tryd.func34, Tryd.ntmps34
    go_wp2_with fail
    refine (C.out _).mono ?_; rintro e w' ⟨rfl, rfl⟩
    go_wp2_with fail
    go_ret
    exact ⟨ret_str (bytes_append [45] dq), rfl⟩
  · obtain ⟨m, rfl⟩ := Int.eq_ofNat_of_zero_le (show 0 ≤ n by omega)
    have HV : Hid (Go.Lib.itoa (m : Int) = Go.Lib.decDigits m) := Lib.hid (by unfold Go.Lib.itoa; rw [if_neg h, Int.toNat_natCast])
    have C := Lib.hid (fun W => big_all m (by omega) W)
    have w1 : IntKind.u64.wrap (m : Int) = (m : Int) := by rw [IntKind.wrap_u64]; omega
    rw [HV.out]
    clear HV
    generalize Go.Lib.decDigits m = dq at *
    go_enter Tryd.func34, Tryd.ntmps34
    go_wp2_with fail
    refine (C.out _).mono ?_; rintro e w' ⟨rfl, rfl⟩
    go_wp2_with fail
    go_ret
    exact ⟨rfl, rfl⟩
end Go.Proofs.YtpfnjippdjhfgaaDoor.Key
