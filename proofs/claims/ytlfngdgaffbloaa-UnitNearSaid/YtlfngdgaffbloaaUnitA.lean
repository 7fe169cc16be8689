/- Contracts of package unit (layer 2) and of the document's own answers for it: ticks and grains, signs, halves, the lower half, what is near. -/
import Derived.Test.YtlfngdgaffbloaaRows
import Derived.WalkKit
import Derived.WalkLawsBesides
import Derived.WalkSpells
import Derived.ProofKit
import Derived.Handy
import Derived.Lib.Hide
import Derived.Test.YtlfngdgaffbloaaBitsA
namespace Go.Proofs.Ytlfngdgaffbloaa.Units
open Go.ChangeShapes Go.WideShapes Go.ChangeAt Go.RowKit
set_option linter.unusedVariables false

theorem ret_ib {k : IntKind} {a b : Int} {c d : Bool} (h : a = b) (h' : c = d) : Ending.returned (.tuple #[.int k a, .bool c]) = Ending.returned (.tuple #[.int k b, .bool d]) := by rw [h, h']
theorem ret_ii {k l : IntKind} {a b c d : Int} (h : a = b) (h' : c = d) : Ending.returned (.tuple #[.int k a, .int l c]) = Ending.returned (.tuple #[.int k b, .int l d]) := by rw [h, h']
theorem ret_int {k : IntKind} {a b : Int} (h : a = b) : Ending.returned (.int k a) = .returned (.int k b) := by rw [h]
theorem ret_bool {a b : Bool} (h : a = b) : Ending.returned (.bool a) = .returned (.bool b) := by rw [h]

def grV (x : Int) : Int := if -9007199254740992 ≤ x ∧ x ≤ 9007199254740991 then x * 1024 else 0
def grB (x : Int) : Bool := decide (-9007199254740992 ≤ x ∧ x ≤ 9007199254740991)
theorem gr_yes (x : Int) (h : -9007199254740992 ≤ x ∧ x ≤ 9007199254740991) : grV x = x * 1024 ∧ grB x = true := by unfold grV grB; simp [h]
theorem gr_no (x : Int) (h : ¬ (-9007199254740992 ≤ x ∧ x ≤ 9007199254740991)) : grV x = 0 ∧ grB x = false := by unfold grV grB; rw [if_neg h]; simp [h]
theorem grains_any (a : Int) (h1 : -9223372036854775808 ≤ a) (h2 : a ≤ 9223372036854775807) (w : World) :
    Calls Try.prog 10 #[.int .i64 a] w fun e w' => e = .returned (.tuple #[.int .i64 (grV a), .bool (grB a)]) ∧ w = w' := by
  go_enter Try.func10, Try.ntmps10
  go_wp2
  all_goals
    go_ret2
    first
    | exact ⟨ret_ib (gr_yes _ (by omega)).1.symm (gr_yes _ (by omega)).2.symm, rfl⟩
    | exact ⟨ret_ib (gr_no _ (by omega)).1.symm (gr_no _ (by omega)).2.symm, rfl⟩
theorem rgrains_any (a : Int) (h1 : -9223372036854775808 ≤ a) (h2 : a ≤ 9223372036854775807) (w : World) :
    Calls Try.prog 11 #[.int .i64 a] w fun e w' => e = .returned (.tuple #[.int .i64 (grV a), .bool (grB a)]) ∧ w = w' := by
  go_enter Try.func11, Try.ntmps11
  go_wp2
  all_goals
    go_ret2
    first
    | exact ⟨ret_ib (gr_yes _ (by omega)).1.symm (gr_yes _ (by omega)).2.symm, rfl⟩
    | exact ⟨ret_ib (gr_no _ (by omega)).1.symm (gr_no _ (by omega)).2.symm, rfl⟩

theorem ticks_any (a : Int) (w : World) :
    Calls Try.prog 13 #[.int .i64 a] w fun e w' => e = .returned (.int .i64 (a / 1024)) ∧ w = w' := by
  go_enter Try.func13, Try.ntmps13
  go_wp2
  go_ret
  exact ⟨rfl, rfl⟩
theorem rest_any (a : Int) (w : World) :
    Calls Try.prog 16 #[.int .i64 a] w fun e w' => e = .returned (.int .i64 (a % 1024)) ∧ w = w' := by
  go_enter Try.func16, Try.ntmps16
  go_wp2
  go_ret
  exact ⟨ret_int (Bits.and_1023 a), rfl⟩
def upV (a : Int) : Int := if a % 1024 = 0 then a / 1024 else a / 1024 + 1
theorem up_any (a : Int) (h1 : -9223372036854775808 ≤ a) (h2 : a ≤ 9223372036854775807) (w : World) :
    Calls Try.prog 14 #[.int .i64 a] w fun e w' => e = .returned (.int .i64 (upV a)) ∧ w = w' := by
  by_cases h : a % 1024 = 0
  · have H : (a % 1024 != 0) = false := by simpa using h
    have HU := Lib.hid (show upV a = a / 1024 from by unfold upV; rw [if_pos h])
    clear h
    go_enter Try.func14, Try.ntmps14
    go_wp2_with fail
    go_call (rest_any _ _) as e w' ⟨rfl, rfl⟩
    go_wp2_with fail
    go_call (ticks_any _ _) as e w' ⟨rfl, rfl⟩
    go_wp2_with fail
    go_ret
    exact ⟨ret_int HU.out.symm, rfl⟩
  · have H : (a % 1024 != 0) = true := by simpa using h
    have HU := Lib.hid (show upV a = a / 1024 + 1 from by unfold upV; rw [if_neg h])
    clear h
    go_enter Try.func14, Try.ntmps14
    go_wp2_with fail
    go_call (rest_any _ _) as e w' ⟨rfl, rfl⟩
    go_wp2_with fail
    go_call (ticks_any _ _) as e w' ⟨rfl, rfl⟩
    go_wp2_with fail
    go_ret
    exact ⟨ret_int HU.out.symm, rfl⟩

theorem tdiv_num (a n : Int) (h1 : -9223372036854775808 ≤ a) (h2 : a ≤ 9223372036854775807) (hn : 1 ≤ n) :
    -9223372036854775808 ≤ a.tdiv n ∧ a.tdiv n ≤ 9223372036854775807 ∧ -9223372036854775808 ≤ a.tdiv n * n ∧ a.tdiv n * n ≤ 9223372036854775807 ∧
    a.tdiv n = a / n + (if a < a.tdiv n * n then 1 else 0) := by
  have e := Int.tdiv_mul_add_tmod a n
  have q : (a.tdiv n).natAbs ≤ a.natAbs := by rw [Int.natAbs_tdiv]; exact Nat.div_le_self _ _
  have d := Int.ediv_mul_add_emod a n
  have d1 := Int.emod_nonneg a (show n ≠ 0 by omega)
  have d2 := Int.emod_lt_of_pos a (show 0 < n by omega)
  by_cases h : 0 ≤ a
  · have t := Int.tmod_nonneg n h
    have t' : a.tdiv n = a / n := Int.tdiv_eq_ediv_of_nonneg h
    refine ⟨by omega, by omega, by rw [t']; have := Int.mul_nonneg (Int.ediv_nonneg h (show 0 ≤ n by omega)) (show 0 ≤ n by omega); omega, by omega, ?_⟩
    rw [if_neg (by omega), t']; omega
  · have t : a.tmod n ≤ 0 := by have := Int.tmod_nonneg n (show 0 ≤ -a by omega); rw [Int.neg_tmod] at this; omega
    have tl : -n < a.tmod n := by
      have h3 : (a.tmod n).natAbs = a.natAbs % n.natAbs := Int.natAbs_tmod a n
      have h4 : a.natAbs % n.natAbs < n.natAbs := Nat.mod_lt _ (by omega)
      omega
    have hq : a.tdiv n ≤ 0 := by
      by_cases hq : 0 < a.tdiv n
      · have := Int.mul_nonneg (show 0 ≤ a.tdiv n - 1 by omega) (show 0 ≤ n by omega)
        rw [Int.sub_mul, Int.one_mul] at this
        omega
      · omega
    have hq0 : a.tdiv n * n ≤ 0 := by have := Int.mul_nonneg (show 0 ≤ -a.tdiv n by omega) (show 0 ≤ n by omega); rw [Int.neg_mul] at this; omega
    have hle : a.tmod n = 0 ∨ a.tmod n < 0 := by omega
    refine ⟨by omega, by omega, by omega, by omega, ?_⟩
    rcases hle with h0 | h0
    · rw [if_neg (by omega)]
      have : a.tdiv n = a / n := by rw [← Int.ediv_eq_of_eq_mul_left (show n ≠ 0 by omega) (show a = a.tdiv n * n by omega)]
      omega
    · rw [if_pos (by omega)]
      have : a / n = a.tdiv n - 1 := by
        have e2 : a = (a.tdiv n - 1) * n + (a.tmod n + n) := by rw [Int.sub_mul, Int.one_mul]; omega
        have := (Int.ediv_emod_unique (a := a) (b := n) (r := a.tmod n + n) (q := a.tdiv n - 1) (by omega)).2 ⟨by rw [Int.mul_comm]; omega, by omega, by omega⟩
        exact this.1
      omega
theorem rdiv_any (a n : Int) (h1 : -9223372036854775808 ≤ a) (h2 : a ≤ 9223372036854775807) (hn : 1 ≤ n) (hn2 : n ≤ 4294967296) (w : World) :
    Calls Try.prog 12 #[.int .i64 a, .int .i64 n] w fun e w' => e = .returned (.int .i64 (a / n)) ∧ w = w' := by
  obtain ⟨b1, b2, b3, b4, hq⟩ := tdiv_num a n h1 h2 hn
  by_cases h : a < a.tdiv n * n
  · rw [if_pos h] at hq
    have HQ := Lib.hid (show a.tdiv n - 1 = a / n from by omega)
    have hb := (tdiv_num a n h1 h2 hn)
    have b5 : -9223372036854775808 ≤ a.tdiv n - 1 := by
      by_cases h0 : a.tdiv n = -9223372036854775808
      · rw [h0] at b3 h
        have h9 : n = 1 := by omega
        rw [h9] at h; omega
      · omega
    clear hq hb
    go_enter Try.func12, Try.ntmps12
    go_wp2
    go_ret
    exact ⟨ret_int HQ.out, rfl⟩
  · rw [if_neg h] at hq
    have HQ := Lib.hid (show a.tdiv n = a / n from by omega)
    clear hq
    go_enter Try.func12, Try.ntmps12
    go_wp2
    go_ret
    exact ⟨ret_int HQ.out, rfl⟩
theorem rup_any (a : Int) (h1 : -9223372036854775808 ≤ a) (h2 : a ≤ 9223372036854775807) (w : World) :
    Calls Try.prog 15 #[.int .i64 a] w fun e w' => e = .returned (.int .i64 (upV a)) ∧ w = w' := by
  by_cases h : a % 1024 = 0
  · have H : a ≤ a / 1024 * 1024 := by omega
    have HU := Lib.hid (show upV a = a / 1024 from by unfold upV; rw [if_pos h])
    clear h
    go_enter Try.func15, Try.ntmps15
    go_wp2_with fail
    go_call (rdiv_any _ _ h1 h2 (by omega) (by omega) _) as e w' ⟨rfl, rfl⟩
    go_wp2_with fail
    go_ret
    exact ⟨ret_int HU.out.symm, rfl⟩
  · have H : a / 1024 * 1024 < a := by omega
    have HU := Lib.hid (show upV a = a / 1024 + 1 from by unfold upV; rw [if_neg h])
    clear h
    go_enter Try.func15, Try.ntmps15
    go_wp2_with fail
    go_call (rdiv_any _ _ h1 h2 (by omega) (by omega) _) as e w' ⟨rfl, rfl⟩
    go_wp2_with fail
    go_ret
    exact ⟨ret_int HU.out.symm, rfl⟩

def zigV (a : Int) : Int := if a < 0 then -2 * a - 1 else 2 * a
theorem zig_num (a b : Int) (h : a < 0) (h1 : -9223372036854775808 ≤ a) (hb : b = -1 - a) : IntKind.u64.wrap (IntKind.u64.wrap (2 * IntKind.u64.wrap b) + 1) = zigV a := by
  unfold zigV; rw [if_pos h]; simp only [IntKind.wrap_u64]; omega
theorem zig_any (a : Int) (h1 : -9223372036854775808 ≤ a) (h2 : a ≤ 9223372036854775807) (w : World) :
    Calls Try.prog 18 #[.int .i64 a] w fun e w' => e = .returned (.int .u64 (zigV a)) ∧ w = w' := by
  go_enter Try.func18, Try.ntmps18
  go_wp2
  · go_ret
    exact ⟨ret_int (zig_num a _ (by omega) h1 (Bits.not_i64 a ⟨h1, h2⟩)), rfl⟩
  · go_ret
    exact ⟨ret_int (by unfold zigV; rw [if_neg (by omega)]), rfl⟩
theorem rzig_num (a : Int) (h : a < 0) (h1 : -9223372036854775808 ≤ a) : IntKind.u64.wrap (IntKind.u64.wrap (IntKind.u64.wrap (-(a + 1)) * 2) + 1) = zigV a := by
  unfold zigV; rw [if_pos h]; simp only [IntKind.wrap_u64]; omega
theorem rzig_any (a : Int) (h1 : -9223372036854775808 ≤ a) (h2 : a ≤ 9223372036854775807) (w : World) :
    Calls Try.prog 19 #[.int .i64 a] w fun e w' => e = .returned (.int .u64 (zigV a)) ∧ w = w' := by
  by_cases h : a < 0
  · go_enter Try.func19, Try.ntmps19
    go_wp2
    go_ret
    exact ⟨ret_int (by unfold zigV; rw [if_pos (by omega)]; omega), rfl⟩
  · go_enter Try.func19, Try.ntmps19
    go_wp2
    go_ret
    exact ⟨ret_int (by unfold zigV; rw [if_neg (by omega)]; omega), rfl⟩
def zagV (u : Int) : Int := if u % 2 = 0 then u / 2 else -1 - u / 2
theorem zag_any (u : Int) (h1 : 0 ≤ u) (h2 : u ≤ 18446744073709551615) (w : World) :
    Calls Try.prog 28 #[.int .u64 u] w fun e w' => e = .returned (.int .i64 (zagV u)) ∧ w = w' := by
  have E := Bits.and1_u64 u h1 h2
  by_cases h : u % 2 = 0
  · have H : (bits .and .u64 u 1 != 0) = false := by rw [E]; simpa using h
    have HZ := Lib.hid (show zagV u = u / 2 from by unfold zagV; rw [if_pos h])
    clear E h
    go_enter Try.func28, Try.ntmps28
    go_wp2
    go_ret
    exact ⟨ret_int HZ.out.symm, rfl⟩
  · have H : (bits .and .u64 u 1 != 0) = true := by rw [E]; simpa using h
    have HZ := Lib.hid (show zagV u = -1 - u / 2 from by unfold zagV; rw [if_neg h])
    clear E h
    go_enter Try.func28, Try.ntmps28
    go_wp2
    go_ret
    exact ⟨ret_int (by rw [HZ.out]; exact Bits.not_i64 _ (by omega)), rfl⟩

theorem halves_any (u : Int) (h1 : 0 ≤ u) (h2 : u ≤ 18446744073709551615) (w : World) :
    Calls Try.prog 27 #[.int .u64 u] w fun e w' => e = .returned (.tuple #[.int .u32 (u / 4294967296), .int .u32 (u % 4294967296)]) ∧ w = w' := by
  go_enter Try.func27, Try.ntmps27
  go_wp2
  go_ret2
  exact ⟨rfl, rfl⟩
theorem whole_any (a b : Int) (h1 : 0 ≤ a) (h2 : a ≤ 4294967295) (h3 : 0 ≤ b) (h4 : b ≤ 4294967295) (w : World) :
    Calls Try.prog 29 #[.int .u32 a, .int .u32 b] w fun e w' => e = .returned (.int .u64 (a * 4294967296 + b)) ∧ w = w' := by
  go_enter Try.func29, Try.ntmps29
  go_wp2
  go_ret
  refine ⟨ret_int ?_, rfl⟩
  have e := Bits.or_u64 (a * 4294967296) b 32 (by omega) h3 (by omega) (by omega) (by omega) (by omega)
  exact e

def lowV (a : Int) : Int := (a + 2147483648) % 4294967296 - 2147483648
theorem low_bd (a : Int) : -2147483648 ≤ lowV a ∧ lowV a ≤ 2147483647 := by unfold lowV; omega
theorem low_any (a : Int) (w : World) :
    Calls Try.prog 21 #[.int .i64 a] w fun e w' => e = .returned (.int .i32 (lowV a)) ∧ w = w' := by
  go_enter Try.func21, Try.ntmps21
  go_wp2
  go_ret
  exact ⟨ret_int (by unfold lowV; simp only [wrap32]), rfl⟩
theorem rlow_any (a : Int) (h1 : -9223372036854775808 ≤ a) (h2 : a ≤ 9223372036854775807) (w : World) :
    Calls Try.prog 20 #[.int .i64 a] w fun e w' => e = .returned (.int .i64 (lowV a)) ∧ w = w' := by
  have f1 : -9223372036854775808 ≤ a / 4294967296 * 4294967296 := by omega
  have f2 : 0 ≤ a - a / 4294967296 * 4294967296 := by omega
  have f3 : a - a / 4294967296 * 4294967296 ≤ 4294967295 := by omega
  by_cases h : 2147483647 < a - a / 4294967296 * 4294967296
  all_goals
    go_enter Try.func20, Try.ntmps20
    go_wp2_with fail
    go_call (rdiv_any _ _ h1 h2 (by omega) (by omega) _) as e w' ⟨rfl, rfl⟩
    go_wp2_with fail
    go_ret
    exact ⟨ret_int (by unfold lowV; omega), rfl⟩
theorem fits_any (a : Int) (w : World) :
    Calls Try.prog 22 #[.int .i64 a] w fun e w' => e = .returned (.bool (lowV a == a)) ∧ w = w' := by
  have b := low_bd a
  go_enter Try.func22, Try.ntmps22
  go_wp2_with fail
  go_call (low_any _ _) as e w' ⟨rfl, rfl⟩
  go_wp2_with fail
  go_ret
  exact ⟨rfl, rfl⟩
def nearV (a b : Int) : Int := wrap64 (a + lowV (b - lowV a))
theorem near_num (a b : Int) (h3 : 0 ≤ b) (h4 : b ≤ 4294967295) : wrap64 (wrap32 ((b - a) % 4294967296)) = lowV (b - lowV a) := by
  unfold wrap64 wrap32 lowV; omega
theorem near_any (a b : Int) (h1 : -9223372036854775808 ≤ a) (h2 : a ≤ 9223372036854775807) (h3 : 0 ≤ b) (h4 : b ≤ 4294967295) (w : World) :
    Calls Try.prog 23 #[.int .i64 a, .int .u32 b] w fun e w' => e = .returned (.int .i64 (nearV a b)) ∧ w = w' := by
  go_enter Try.func23, Try.ntmps23
  go_wp2
  go_ret
  refine ⟨ret_int ?_, rfl⟩
  unfold nearV
  rw [← near_num a b h3 h4]
theorem rnear_any (a b : Int) (h1 : -9223372036854775808 ≤ a) (h2 : a ≤ 9223372036854775807) (h3 : 0 ≤ b) (h4 : b ≤ 4294967295) (w : World) :
    Calls Try.prog 24 #[.int .i64 a, .int .u32 b] w fun e w' => e = .returned (.int .i64 (nearV a b)) ∧ w = w' := by
  obtain ⟨l1, l2⟩ := low_bd a
  have C := Lib.hid (fun W => rlow_any (b - lowV a) (by omega) (by omega) W)
  go_enter Try.func24, Try.ntmps24
  go_wp2_with fail
  go_call (rlow_any _ h1 h2 _) as e w' ⟨rfl, rfl⟩
  go_wp2_with fail
  go_call (C.out _) as e w' ⟨rfl, rfl⟩
  go_wp2_with fail
  go_ret
  exact ⟨rfl, rfl⟩

theorem works_any (w : World) :
    Calls Try.prog 17 #[] w fun e w' => e = .returned (.bool true) ∧ w = w' := by
  have c1 : grV 3 = 3072 := by decide
  have c2 : grB 3 = true := by decide
  have c3 : zigV (-1) = 1 := by decide
  have c4 : nearV 4294967295 1 = 4294967297 := by unfold nearV lowV wrap64; omega
  have C1 := Lib.hid (fun W => grains_any 3 (by omega) (by omega) W)
  have C2 := Lib.hid (fun W => ticks_any (-1) W)
  have C3 := Lib.hid (fun W => rest_any (-1) W)
  have C4 := Lib.hid (fun W => zig_any (-1) (by omega) (by omega) W)
  have C5 := Lib.hid (fun W => near_any 4294967295 1 (by omega) (by omega) (by omega) (by omega) W)
  rw [c1, c2] at C1; rw [c3] at C4; rw [c4] at C5
  clear c1 c2 c3 c4
  go_enter Try.func17, Try.ntmps17
  go_wp2_with fail
  go_call (C1.out _) as e w' ⟨rfl, rfl⟩
  go_wp2_with fail
  go_call (C2.out _) as e w' ⟨rfl, rfl⟩
  go_wp2_with fail
  go_call (C3.out _) as e w' ⟨rfl, rfl⟩
  go_wp2_with fail
  go_call (C4.out _) as e w' ⟨rfl, rfl⟩
  go_wp2_with fail
  go_call (C5.out _) as e w' ⟨rfl, rfl⟩
  go_wp2_with fail
  go_ret
  exact ⟨rfl, rfl⟩
end Go.Proofs.Ytlfngdgaffbloaa.Units
