/- Contracts of package nodes (layer 3) and of the document's own answers for it: single nodes and their bits; powers of two. -/
import Derived.Test.YtmkdemdeejhonaaDoorRows
import Derived.WalkKit
import Derived.WalkLawsBesides
import Derived.WalkSpells
import Derived.ProofKit
import Derived.Handy
import Derived.Lib.Hide
import Derived.Test.YtmkdemdeejhonaaDoorNodesM
namespace Go.Proofs.YtmkdemdeejhonaaDoor.Nodes
open Go.ChangeShapes Go.WideShapes Go.ChangeAt Go.RowKit
set_option linter.unusedVariables false

theorem ret_int {k : IntKind} {a b : Int} (h : a = b) : Ending.returned (.int k a) = .returned (.int k b) := by rw [h]
theorem ret_bool {a b : Bool} (h : a = b) : Ending.returned (.bool a) = .returned (.bool b) := by rw [h]
theorem pow_lt (z : Nat) (h : z < 64) : 2 ^ z < 18446744073709551616 := Nat.pow_lt_pow_right (a := 2) (m := z) (n := 64) (by decide) h
theorem shl_one (z : Nat) (h : z < 64) : IntKind.u64.wrap (2 ^ z) = ((bitN z : Nat) : Int) := by
  rw [IntKind.wrap_u64]
  unfold bitN
  rw [if_pos (by omega), Int.toNat_natCast]
  have := pow_lt z h
  have e : (2 : Int) ^ z = ((2 ^ z : Nat) : Int) := by simp
  rw [e]
  generalize 2 ^ z = b at this ⊢
  omega
theorem power_any (z : Nat) (h : z < 64) (w : World) :
    Calls Tryd.prog 28 #[.int .i64 z] w fun e w' => e = .returned (.int .u64 ((2 ^ z : Nat) : Int)) ∧ w = w' := by
  go_enter Tryd.func28, Tryd.ntmps28
  go_wp2
  go_loop [3, 4] (fun p i => ∃ k q : Nat, k ≤ z ∧ i = .int .i64 k ∧ p = .int .u64 q ∧ Hid (q = 2 ^ k) ∧ 1 ≤ q ∧ q < 18446744073709551616) (fun _ i => z - (intOf i).toNat)
  case atStart => exact ⟨0, 1, Nat.zero_le _, rfl, rfl, Lib.hid rfl, by omega, by omega⟩
  case round =>
    obtain ⟨k, q, hk, rfl, rfl, hq, q1, q2⟩ := hrel
    by_cases hlt : k < z
    · have h2 : q * 2 = 2 ^ (k + 1) := by rw [hq.out, Nat.pow_succ]
      have h3 := pow_lt (k + 1) (by omega)
      rw [← h2] at h3
      have H2 := Lib.hid h2
      clear h2
      go_wp2
      go_round
      case rel => exact ⟨k + 1, q * 2, by omega, by go_num, by go_num, H2, by omega, by omega⟩
      case measure => simp [intOf]; omega
    · obtain rfl : k = z := by omega
      go_wp2
      go_ret
      exact ⟨ret_int (by rw [hq.out]; simp), rfl⟩
theorem butLeast_any (S : Nat) (h : S < 18446744073709551616) (h0 : S ≠ 0) (w : World) :
    Calls Tryd.prog 31 #[.int .u64 S] w fun e w' => e = .returned (.int .u64 ((S &&& (S - 1) : Nat) : Int)) ∧ w = w' := by
  have hp : (1 : Int) ≤ S := by omega
  have hs := Lib.hid (show bits .and .u64 (S : Int) ((S : Int) - 1) = ((S &&& (S - 1) : Nat) : Int) by
    rw [show (S : Int) - 1 = ((S - 1 : Nat) : Int) from by omega]; exact u64_and_nat S (S - 1) h (by omega))
  clear h0
  go_enter Tryd.func31, Tryd.ntmps31
  go_wp2
  go_ret
  exact ⟨ret_int hs.out, rfl⟩
theorem rhas_any (S : Nat) (h : S < 18446744073709551616) (z : Int) (w : World) :
    Calls Tryd.prog 22 #[.int .u64 S, .int .i64 z] w fun e w' => e = .returned (.bool (hasN S z)) ∧ w = w' := by
  by_cases hz : 0 ≤ z ∧ z < 64
  · have hs := Lib.hid (has_div S z hz.1 hz.2)
    obtain ⟨n, rfl⟩ := Int.eq_ofNat_of_zero_le hz.1
    have C := Lib.hid (fun W => power_any n (by omega) W)
    have hn : n < 64 := by omega
    have hp := Nat.two_pow_pos n
    rw [Int.toNat_natCast] at hs
    generalize 2 ^ n = p at *
    have hp0 : (p : Int) ≠ 0 := by omega
    have hp1 : (0 : Int) < p := by omega
    have hq0 : 0 ≤ (S : Int) / (p : Int) := Int.ediv_nonneg (by omega) (by omega)
    have hq1 : (S : Int) / (p : Int) ≤ 18446744073709551615 := Int.le_trans (Int.ediv_le_self _ (by omega)) (by omega)
    clear hz
    go_enter Tryd.func22, Tryd.ntmps22
    go_wp2_with fail
    refine (C.out _).mono ?_; rintro e w' ⟨rfl, rfl⟩
    go_wp2_with fail
    go_ret
    exact ⟨ret_bool hs.out, rfl⟩
  · have hs := Lib.hid (has_no S z hz)
    by_cases h0 : 0 ≤ z
    · have h64 : 64 ≤ z := by omega
      have hd : decide (z < 64) = false := by rw [decide_eq_false_iff_not]; omega
      clear hz
      go_enter Tryd.func22, Tryd.ntmps22
      go_wp2_with fail
      go_ret
      exact ⟨ret_bool hs.out.symm, rfl⟩
    · have hd : decide (0 ≤ z) = false := by rw [decide_eq_false_iff_not]; omega
      have hneg : z < 0 := by omega
      clear hz h0
      go_enter Tryd.func22, Tryd.ntmps22
      go_wp2_with fail
      go_ret
      exact ⟨ret_bool hs.out.symm, rfl⟩
theorem all_mid (n : Nat) (h : n ≤ 64) : (18446744073709551615 : Int) / 2 ^ (64 - n) = ((allN n : Nat) : Int) := by
  rw [all_pow h]
  have e : (2 : Int) ^ (64 - n) = ((2 ^ (64 - n) : Nat) : Int) := by simp
  rw [e]
  have hp := Nat.two_pow_pos n
  have hm := Nat.two_pow_pos (64 - n)
  have hmul : 2 ^ n * 2 ^ (64 - n) = 18446744073709551616 := by rw [← Nat.pow_add, show n + (64 - n) = 64 from by omega]
  have : 18446744073709551615 / 2 ^ (64 - n) = 2 ^ n - 1 := by
    generalize 2 ^ n = a at *
    generalize 2 ^ (64 - n) = b at *
    obtain ⟨c, rfl⟩ : ∃ c, a = c + 1 := ⟨a - 1, by omega⟩
    rw [Nat.add_mul, Nat.one_mul] at hmul
    rw [show 18446744073709551615 = (b - 1) + b * c from by rw [Nat.mul_comm]; omega, Nat.add_mul_div_left _ _ hm, Nat.div_eq_of_lt (by omega)]
    omega
  rw [← this]
  simp
theorem all_any (z : Int) (h1 : -9223372036854775808 ≤ z) (h2 : z ≤ 9223372036854775807) (w : World) :
    Calls Tryd.prog 24 #[.int .i64 z] w fun e w' => e = .returned (.int .u64 (allN z)) ∧ w = w' := by
  by_cases h0 : z < 0
  · have hs := Lib.hid (all_low (n := z) (by omega))
    go_enter Tryd.func24, Tryd.ntmps24
    go_wp2
    go_ret
    exact ⟨ret_int (by rw [hs.out]; rfl), rfl⟩
  · by_cases h1 : 64 < z
    · have hs := Lib.hid (all_high (n := z) (by omega))
      have hp : 0 < z := by omega
      clear h0
      go_enter Tryd.func24, Tryd.ntmps24
      go_wp2
      go_ret
      exact ⟨ret_int (by rw [hs.out]; rfl), rfl⟩
    · obtain ⟨n, rfl⟩ := Int.eq_ofNat_of_zero_le (show 0 ≤ z by omega)
      have hs := Lib.hid (all_mid n (by omega))
      have hn1 : n ≤ 64 := by omega
      clear h0 h1
      go_enter Tryd.func24, Tryd.ntmps24
      go_wp2
      go_ret
      exact ⟨ret_int hs.out, rfl⟩
end Go.Proofs.YtmkdemdeejhonaaDoor.Nodes
