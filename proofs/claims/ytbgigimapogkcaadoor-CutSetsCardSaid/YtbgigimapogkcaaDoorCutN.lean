/- Plain: the next set, as the program reckons it; the last one of so many. -/
import Derived.Test.YtbgigimapogkcaaDoorCutM
namespace Go.Proofs.YtbgigimapogkcaaDoor.Cut
open Nodes (mem pc mem_mem allN firstN andNotN all_pow bit_andNot bit_setP bitN ofL leastN least_spec eq_of_bits setP_lt mem_first mem_partN mem_lt)
set_option linter.unusedVariables false
set_option linter.unusedSimpArgs false
theorem bit_join {i a b j : Nat} (h : b < 2 ^ i) : (a * 2 ^ i + b).testBit j = if j < i then b.testBit j else a.testBit (j - i) := by
  rw [Nat.mul_comm]
  exact Nat.testBit_two_pow_mul_add a h j
theorem bit_ones (r j : Nat) : (2 ^ r - 1).testBit j = decide (j < r) := Nat.testBit_two_pow_sub_one r j
theorem bit_lowrun (p r j : Nat) : ((2 ^ r - 1) * 2 ^ p).testBit j = (decide (p ≤ j) && decide (j < p + r)) := by
  have := bit_join (i := p) (a := 2 ^ r - 1) (b := 0) (j := j) (Nat.two_pow_pos p)
  rw [Nat.add_zero] at this
  rw [this]
  by_cases h : j < p
  · rw [if_pos h]; simp; omega
  · rw [if_neg h, bit_ones, Bool.eq_iff_iff]; simp; omega
section
variable {a p r : Nat}
theorem bit_run (hr : 1 ≤ r) (j : Nat) : (runN a p r).testBit j = if j < p + r + 1 then (decide (p ≤ j) && decide (j < p + r)) else a.testBit (j - (p + r + 1)) := by
  have := low_lt (p := p) hr
  have := pow1 p r
  unfold runN
  rw [bit_join (by omega), bit_lowrun]
def upN (a p r : Nat) : Nat := a * 2 ^ (p + r + 1) + 2 ^ (p + r)
theorem bit_up (j : Nat) : (upN a p r).testBit j = if j < p + r + 1 then decide (j = p + r) else a.testBit (j - (p + r + 1)) := by
  have := pow1 p r
  have := Nat.two_pow_pos (p + r)
  unfold upN
  rw [bit_join (by omega), Nat.testBit_two_pow]
  by_cases h : j < p + r + 1
  · rw [if_pos h, if_pos h, Bool.eq_iff_iff]; simp; omega
  · rw [if_neg h, if_neg h]
theorem run_pos (hr : 1 ≤ r) : 0 < runN a p r := by
  have h1 : (2 : Nat) ^ 1 ≤ 2 ^ r := Nat.pow_le_pow_right (by decide) hr
  have := Nat.mul_le_mul_right (2 ^ p) (show 1 ≤ 2 ^ r - 1 by omega)
  have := Nat.two_pow_pos p
  unfold runN
  omega
theorem run_up (hr : 1 ≤ r) : runN a p r + 2 ^ p = upN a p r := by
  have h0 := two_pos r
  have : (2 ^ r - 1) * 2 ^ p + 2 ^ p = 2 ^ (p + r) := by
    rw [Nat.pow_add, Nat.mul_comm (2 ^ p), Nat.sub_mul]
    have := Nat.mul_le_mul_right (2 ^ p) h0
    omega
  unfold runN upN
  omega
theorem up_le : upN a p r ≤ nxt a p r := by unfold upN nxt; omega
theorem p_lt (hr : 1 ≤ r) (h : nxt a p r < 2 ^ 64) : p + r < 64 := by
  rcases Nat.lt_or_ge (p + r) 64 with h' | h'
  · exact h'
  · have : (2 : Nat) ^ 64 ≤ 2 ^ (p + r) := Nat.pow_le_pow_right (by decide) h'
    unfold nxt at h
    omega
theorem least_run (hr : 1 ≤ r) (h : nxt a p r < 2 ^ 64) : leastN (runN a p r) = (p : Int) := by
  have hlt := run_lt_nxt (a := a) (p := p) hr
  have hp := p_lt hr h
  have h0 := run_pos (a := a) (p := p) hr
  have h64 : runN a p r < 18446744073709551616 := by have : (2 : Nat) ^ 64 = 18446744073709551616 := by decide
                                                     omega
  obtain ⟨hk, hm⟩ := least_spec h64 (by omega)
  unfold leastN
  rw [if_neg (by omega)]
  have hin : Go.Lib.ctz 64 (runN a p r) ∈ mem (runN a p r) := by rw [hm]; simp
  have hpin : p ∈ mem (runN a p r) := mem_mem.2 ⟨by omega, by rw [bit_run hr, if_pos (by omega)]; simp; omega⟩
  have hb := (mem_mem.1 hin).2
  have hs := Nodes.mem_sorted (runN a p r)
  rw [hm] at hpin hs
  have hle : Go.Lib.ctz 64 (runN a p r) ≤ p := by
    rcases List.mem_cons.1 hpin with h' | h'
    · omega
    · exact Nat.le_of_lt ((List.pairwise_cons.1 hs).1 p h')
  rw [bit_run hr, if_pos (by omega)] at hb
  simp at hb
  omega
theorem bitN_pow {p : Nat} (h : p < 64) : bitN (p : Int) = 2 ^ p := by unfold bitN; rw [if_pos (by omega)]; simp
theorem of_one (z : Int) : ofL [z] = bitN z := by
  refine eq_of_bits (setP_lt _) (Nodes.bitN_lt z) fun j hj => ?_
  unfold ofL
  rw [bit_setP, Nodes.bit_bitN]
  simp
theorem andNot_run (hr : 1 ≤ r) (h : nxt a p r < 2 ^ 64) : cnt (andNotN (runN a p r) (upN a p r)) = r := by
  have e64 : (2 : Nat) ^ 64 = 18446744073709551616 := by decide
  have hlt := run_lt_nxt (a := a) (p := p) hr
  have hup := up_le (a := a) (p := p) (r := r)
  have hl := low_lt (p := p) hr
  have hu : 2 ^ (p + r) ≤ upN a p r := by unfold upN; omega
  have e : andNotN (runN a p r) (upN a p r) = (2 ^ r - 1) * 2 ^ p := by
    refine eq_of_bits (Nodes.andNot_lt _ (by omega)) (by omega) fun j hj => ?_
    rw [bit_andNot _ (by omega), bit_run hr, bit_up, bit_lowrun, Bool.eq_iff_iff]
    by_cases hj1 : j < p + r + 1
    · rw [if_pos hj1, if_pos hj1]; simp; omega
    · rw [if_neg hj1, if_neg hj1]
      cases hab : a.testBit (j - (p + r + 1)) <;> simp <;> omega
  rw [e, cnt_low_run hr (by omega)]
theorem or_nxt (hr : 1 ≤ r) (h : nxt a p r < 2 ^ 64) : upN a p r ||| allN ((r : Int) - 1) = nxt a p r := by
  have hp := p_lt hr h
  have ht := top_lt (p := p) hr
  have e : ((r : Int) - 1) = ((r - 1 : Nat) : Int) := by omega
  rw [e, all_pow (by omega)]
  unfold upN nxt
  have hm : a * 2 ^ (p + r + 1) + 2 ^ (p + r) = 2 ^ (p + r) * (a * 2 + 1) := by rw [Nat.pow_succ, Nat.mul_add, Nat.mul_one, ← Nat.mul_assoc, Nat.mul_comm a, Nat.mul_assoc]
  rw [hm]
  exact (Nat.two_pow_add_eq_or_of_lt ht _).symm
end
/-- What alike makes of it. -/
theorem first_all {n k : Nat} (h : k ≤ n) (hn : n ≤ 64) : firstN (allN (n : Int)) k = 2 ^ k - 1 := by
  have hm : ∀ {m : Nat}, m ≤ 64 → mem (allN (m : Int)) = List.range m := fun {m} hm => by
    unfold mem
    have : (fun j => (allN (m : Int)).testBit j) = fun j => (decide (j < 64) && decide (j < m)) := by
      funext j
      unfold allN
      rw [bit_setP]
      congr 1
      rw [Bool.eq_iff_iff]; simp
    rw [this]
    have e : (List.range 64) = List.range m ++ List.range' m (64 - m) := by
      have := List.range'_append_1 (s := 0) (m := m) (n := 64 - m)
      rw [Nat.zero_add, show m + (64 - m) = 64 by omega] at this
      rw [List.range_eq_range', List.range_eq_range', this]
    rw [e, List.filter_append, List.filter_eq_self.2 (by intro j hj; simp at hj ⊢; omega), List.filter_eq_nil_iff.2 (by intro j hj; simp at hj ⊢; omega), List.append_nil]
  have hk : firstN (allN (n : Int)) k = allN (k : Int) := by
    refine eq_of_bits (setP_lt _) (setP_lt _) fun j hj => ?_
    have h1 := mem_first (allN (n : Int)) k
    rw [hm hn, List.take_range, Nat.min_eq_left h, ← hm (by omega : k ≤ 64)] at h1
    have h2 : j ∈ mem (firstN (allN (n : Int)) k) ↔ j ∈ mem (allN (k : Int)) := by rw [h1]
    rw [mem_mem, mem_mem] at h2
    rw [Bool.eq_iff_iff]
    constructor
    · intro hb; exact (h2.1 ⟨hj, hb⟩).2
    · intro hb; exact (h2.2 ⟨hj, hb⟩).2
  rw [hk, all_pow (by omega)]
theorem cnt_all {n : Nat} (hn : n ≤ 64) : cnt (allN (n : Int)) = n := by rw [all_pow hn, cnt_ones hn]
theorem last_of {n k : Nat} (h : k ≤ n) (hn : n ≤ 64) : andNotN (allN (n : Int)) (firstN (allN (n : Int)) (n - k)) = lastK n k := by
  have e64 : (2 : Nat) ^ 64 = 18446744073709551616 := by decide
  have := last_lt h
  have h64 := pow64 hn
  have h2 : (2 : Nat) ^ (n - k) ≤ 2 ^ n := Nat.pow_le_pow_right (by decide) (by omega)
  rw [first_all (by omega) hn, all_pow hn]
  have := two_pos (n - k)
  refine eq_of_bits (Nodes.andNot_lt _ (by omega)) (by omega) fun j hj => ?_
  rw [bit_andNot _ (by omega), bit_ones, bit_ones]
  unfold lastK
  rw [bit_lowrun, Bool.eq_iff_iff]
  simp
  omega
end Go.Proofs.YtbgigimapogkcaaDoor.Cut
