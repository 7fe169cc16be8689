/- The sum of 32 bits, four bits at a step: the table of the program's text against bits fed one by one; no Go in sight. -/
import Derived.Test.YtgacljanapmnfaaDoorCrcN
namespace Go.Proofs.YtgacljanapmnfaaDoor.Crc
set_option linter.unusedVariables false

def fourL : List Nat := [0, 498536548, 997073096, 651767980, 1994146192, 1802195444, 1303535960, 1342533948, 3988292384, 4027552580, 3604390888, 3412177804, 2607071920, 2262029012, 2685067896, 3183342108]
def fourN (j : Nat) : Nat := fourL.getD j 0
theorem four_feed : ∀ j, j < 16 → feed j (zs 4) = fourN j := by decide +kernel
theorem four_lt : ∀ j, j < 16 → fourN j < 4294967296 := by decide +kernel
def nib (s : Nat) : Nat := s / 16 ^^^ fourN (s % 16)
theorem zip_same (n : Nat) : List.zipWith (· ^^ ·) (zs n) (zs n) = zs n := by
  have := zip_zs (zs n); rwa [show (zs n).length = n from by simp [zs]] at this
theorem feed_zs_xor (n a b : Nat) : feed (a ^^^ b) (zs n) = feed a (zs n) ^^^ feed b (zs n) := by
  have := feed_xor (zs n) (zs n) rfl a b
  rwa [zip_same] at this
theorem stp_two (x : Nat) : stp (2 * x) false = x := by
  unfold stp
  rw [show 2 * x % 2 = 0 from by omega, show 2 * x / 2 = x from by omega]
  simp
theorem feed_up (q : Nat) : feed (16 * q) (zs 4) = q := by
  show stp (stp (stp (stp (16 * q) false) false) false) false = q
  rw [show 16 * q = 2 * (8 * q) from by omega, stp_two, show 8 * q = 2 * (4 * q) from by omega, stp_two, show 4 * q = 2 * (2 * q) from by omega, stp_two, stp_two]
theorem split16 (s : Nat) : s = 16 * (s / 16) ^^^ (s % 16) := by
  refine Nat.eq_of_testBit_eq fun j => ?_
  rw [Nat.testBit_xor, show (16 : Nat) = 2 ^ 4 from rfl, Nat.testBit_two_pow_mul, Nat.testBit_mod_two_pow, Nat.testBit_div_two_pow]
  by_cases h : j < 4
  · simp [h, show ¬ 4 ≤ j by omega]
  · simp [h, show 4 ≤ j by omega, show j - 4 + 4 = j by omega]
theorem nib_feed (s : Nat) : feed s (zs 4) = nib s := by
  conv => lhs; rw [split16 s]
  rw [feed_zs_xor, feed_up, four_feed _ (Nat.mod_lt _ (by decide))]
  rfl
theorem nib_lt {s : Nat} (h : s < 4294967296) : nib s < 4294967296 := by rw [← nib_feed]; exact feed_lt _ h
theorem mor_one (q : Nat) (x : UInt8) : mor q [x] = nib (nib (q ^^^ x.toNat)) := by
  unfold mor
  rw [bits_cons, bits_nil, List.append_nil, feed_num, num8, bits8_len, show zs 8 = zs 4 ++ zs 4 from rfl, feed_append, nib_feed, nib_feed]
theorem mor_nil (s : Nat) : mor s [] = s := rfl
theorem mor_snoc (s : Nat) (l : List UInt8) (x : UInt8) : mor s (l ++ [x]) = nib (nib (mor s l ^^^ x.toNat)) := by rw [mor_append, mor_one]
theorem xor_byte_lt {q : Nat} (h : q < 4294967296) (x : UInt8) : q ^^^ x.toNat < 4294967296 := by
  have := x.toNat_lt
  exact Nat.xor_lt_two_pow (n := 32) h (by omega)
/-- One byte of bits, what is left of it. -/
def low (y m : Nat) : List Bool := (List.range m).map fun k => y.testBit k
theorem low_zero (y : Nat) : low y 0 = [] := rfl
theorem low_succ (y m : Nat) : low y (m + 1) = (y % 2 == 1) :: low (y / 2) m := by
  unfold low
  rw [List.range_succ_eq_map, List.map_cons, List.map_map]
  congr 1
  · rw [Nat.testBit_zero]; by_cases h : y % 2 = 1 <;> simp [h]
  · refine List.map_congr_left fun k _ => ?_
    simp [Nat.testBit_succ]
theorem low8 (x : UInt8) : low x.toNat 8 = bits8 x := rfl
theorem mor_one' (q : Nat) (x : UInt8) : mor q [x] = feed q (low x.toNat 8) := by
  unfold mor; rw [bits_cons, bits_nil, List.append_nil]; rfl
end Go.Proofs.YtgacljanapmnfaaDoor.Crc
