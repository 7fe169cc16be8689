/- Plain: the sets of so many of n nodes, rising, as numbers; the next one of as many nodes. -/
import Derived.Test.YtbgigimapogkcaaDoorNodX
import Derived.Test.YtbgigimapogkcaaDoorNodesP
namespace Go.Proofs.YtbgigimapogkcaaDoor.Cut
open Nodes (mem pc pc_bits pc_le mem_mem allN firstN andNotN all_pow bit_andNot bit_setP)
set_option linter.unusedVariables false
set_option linter.unusedSimpArgs false
/-- How many nodes a set has. -/
def cnt (s : Nat) : Nat := (mem s).length
theorem cnt_pc (s : Nat) : cnt s = pc 64 s := pc_bits 64 s
theorem pc_zero : ∀ k, pc k 0 = 0
  | 0 => rfl
  | k + 1 => by rw [pc, Nat.zero_div, pc_zero k]
theorem pc_split (k a : Nat) : ∀ (m b : Nat), b < 2 ^ m → pc (m + k) (a * 2 ^ m + b) = pc k a + pc m b
  | 0, b, h => by
    obtain rfl : b = 0 := by simpa using h
    simp [pc]
  | m + 1, b, h => by
    have e : m + 1 + k = (m + k) + 1 := by omega
    have hp : (2 : Nat) ^ (m + 1) = 2 ^ m * 2 := Nat.pow_succ 2 m
    have h1 : (a * 2 ^ (m + 1) + b) % 2 = b % 2 := by rw [hp, ← Nat.mul_assoc]; omega
    have h2 : (a * 2 ^ (m + 1) + b) / 2 = a * 2 ^ m + b / 2 := by rw [hp, ← Nat.mul_assoc]; omega
    rw [e, pc, h1, h2, pc_split k a m (b / 2) (by rw [hp] at h; omega), pc]
    omega
theorem pc_more {k m x : Nat} (h : x < 2 ^ k) (hm : k ≤ m) : pc m x = pc k x := by
  have := pc_split (m - k) 0 k x h
  rw [pc_zero, Nat.zero_mul, Nat.zero_add, Nat.zero_add, show k + (m - k) = m by omega] at this
  exact this
theorem two_pos (k : Nat) : 1 ≤ 2 ^ k := Nat.two_pow_pos k
theorem pc_ones : ∀ k, pc k (2 ^ k - 1) = k
  | 0 => rfl
  | k + 1 => by
    have hp : (2 : Nat) ^ (k + 1) = 2 ^ k * 2 := Nat.pow_succ 2 k
    have h0 := two_pos k
    rw [pc, show (2 ^ (k + 1) - 1) % 2 = 1 by omega, show (2 ^ (k + 1) - 1) / 2 = 2 ^ k - 1 by omega, pc_ones k]
    omega
theorem pc_lt : ∀ k x, x < 2 ^ k - 1 → pc k x < k
  | 0, x, h => by simp at h
  | k + 1, x, h => by
    have hp : (2 : Nat) ^ (k + 1) = 2 ^ k * 2 := Nat.pow_succ 2 k
    have h0 := two_pos k
    rw [pc]
    have hl := pc_le k (x / 2)
    by_cases hx : x / 2 = 2 ^ k - 1
    · have : x % 2 = 0 := by omega
      omega
    · have := pc_lt k (x / 2) (by omega)
      have : x % 2 < 2 := Nat.mod_lt _ (by decide)
      omega
theorem pc_pos : ∀ k x, 0 < x → x < 2 ^ k → 0 < pc k x
  | 0, x, h, h' => by simp at h'; omega
  | k + 1, x, h, h' => by
    have hp : (2 : Nat) ^ (k + 1) = 2 ^ k * 2 := Nat.pow_succ 2 k
    rw [pc]
    by_cases hx : x % 2 = 0
    · have := pc_pos k (x / 2) (by omega) (by omega)
      omega
    · omega
theorem cnt_low {m x : Nat} (h : x < 2 ^ m) (hm : m ≤ 64) : cnt x = pc m x := by rw [cnt_pc, pc_more h hm]
theorem cnt_le {m x : Nat} (h : x < 2 ^ m) (hm : m ≤ 64) : cnt x ≤ m := by rw [cnt_low h hm]; exact pc_le m x
theorem cnt_ones {k : Nat} (h : k ≤ 64) : cnt (2 ^ k - 1) = k := by
  have := two_pos k
  rw [cnt_low (m := k) (by omega) h, pc_ones]
theorem cnt_less {k x : Nat} (hk : k ≤ 64) (h : x < 2 ^ k - 1) : cnt x < k := by
  rw [cnt_low (m := k) (by omega) hk]
  exact pc_lt k x h
theorem cnt_add {a m b : Nat} (hb : b < 2 ^ m) (h : a * 2 ^ m + b < 2 ^ 64) : cnt (a * 2 ^ m + b) = cnt a + cnt b := by
  have h0 := two_pos m
  by_cases hm : m ≤ 64
  · have ha : a < 2 ^ (64 - m) := by
      refine Nat.lt_of_mul_lt_mul_right (a := 2 ^ m) ?_
      rw [← Nat.pow_add, show 64 - m + m = 64 by omega]
      omega
    rw [cnt_pc, show 64 = m + (64 - m) by omega, pc_split _ _ _ _ hb, cnt_low ha (by omega), cnt_low hb hm]
  · have : (2 : Nat) ^ 64 ≤ 2 ^ m := Nat.pow_le_pow_right (by decide) (by omega)
    have : a = 0 := by
      rcases Nat.eq_zero_or_pos a with h' | h'
      · exact h'
      · have := Nat.le_mul_of_pos_left (2 ^ m) h'
        omega
    subst this
    simp [cnt, Nodes.mem_zero]
/-- The topmost ones of the lowest run, and what is behind it: a bits above, a run of r at p. -/
def runN (a p r : Nat) : Nat := a * 2 ^ (p + r + 1) + (2 ^ r - 1) * 2 ^ p
def nxt (a p r : Nat) : Nat := (a * 2 ^ (p + r + 1) + 2 ^ (p + r)) + (2 ^ (r - 1) - 1)
theorem run_of : ∀ s, 0 < s → ∃ a p r, 1 ≤ r ∧ s = runN a p r
  | s, h => by
    by_cases h2 : s % 2 = 0
    · obtain ⟨a, p, r, hr, e⟩ := run_of (s / 2) (by omega)
      refine ⟨a, p + 1, r, hr, ?_⟩
      have : s = 2 * (s / 2) := by omega
      rw [this, e, runN, runN, show p + 1 + r + 1 = (p + r + 1) + 1 by omega, Nat.pow_succ 2 (p + r + 1), Nat.pow_succ 2 p, ← Nat.mul_assoc, ← Nat.mul_assoc]
      omega
    · by_cases h4 : s / 2 % 2 = 0
      · refine ⟨s / 4, 0, 1, Nat.le_refl _, ?_⟩
        unfold runN
        simp
        omega
      · obtain ⟨a, p, r, hr, e⟩ := run_of (s / 2) (by omega)
        have hp0 : p = 0 := by
          rcases Nat.eq_zero_or_pos p with h' | h'
          · exact h'
          · exfalso
            obtain ⟨q, rfl⟩ : ∃ q, p = q + 1 := ⟨p - 1, by omega⟩
            apply h4
            rw [e, runN, show q + 1 + r + 1 = (q + r + 1) + 1 by omega, Nat.pow_succ 2 (q + r + 1), Nat.pow_succ 2 q, ← Nat.mul_assoc, ← Nat.mul_assoc]
            omega
        subst hp0
        refine ⟨a, 0, r + 1, by omega, ?_⟩
        have h0 := two_pos r
        have hp : (2 : Nat) ^ (r + 1) = 2 ^ r * 2 := Nat.pow_succ 2 r
        have hq : (2 : Nat) ^ (r + 1 + 1) = 2 ^ (r + 1) * 2 := Nat.pow_succ 2 (r + 1)
        have : s = 2 * (s / 2) + 1 := by omega
        rw [this, e]
        unfold runN
        simp only [Nat.zero_add, Nat.pow_zero, Nat.mul_one]
        rw [hq, hp]
        simp only [← Nat.mul_assoc]
        omega
  termination_by s => s
section
variable {a p r : Nat}
theorem low_lt (hr : 1 ≤ r) : (2 ^ r - 1) * 2 ^ p < 2 ^ (p + r) := by
  have h0 := two_pos r
  have h1 := two_pos p
  rw [Nat.pow_add, Nat.mul_comm (2 ^ p), Nat.sub_mul]
  have : 1 * 2 ^ p ≤ 2 ^ r * 2 ^ p := Nat.mul_le_mul_right _ h0
  omega
theorem pow1 (p r : Nat) : (2 : Nat) ^ (p + r + 1) = 2 ^ (p + r) + 2 ^ (p + r) := by rw [Nat.pow_succ]; omega
theorem top_lt (hr : 1 ≤ r) : 2 ^ (r - 1) - 1 < 2 ^ (p + r) := by
  have : (2 : Nat) ^ (r - 1) ≤ 2 ^ (p + r) := Nat.pow_le_pow_right (by decide) (by omega)
  have := two_pos (r - 1)
  omega
theorem run_lt_nxt (hr : 1 ≤ r) : runN a p r < nxt a p r := by
  have := low_lt (p := p) hr
  unfold runN nxt
  omega
theorem cnt_low_run (hr : 1 ≤ r) (h : (2 ^ r - 1) * 2 ^ p < 2 ^ 64) : cnt ((2 ^ r - 1) * 2 ^ p) = r := by
  have h1 := two_pos p
  have h0 := two_pos r
  have hr1 : (2 : Nat) ^ 1 ≤ 2 ^ r := Nat.pow_le_pow_right (by decide) hr
  have hrl : r ≤ 64 := by
    rcases Nat.lt_or_ge 64 r with h' | h'
    · have hh : (2 : Nat) ^ 65 ≤ 2 ^ r := Nat.pow_le_pow_right (by decide) (by omega)
      have : (2 ^ r - 1) * 1 ≤ (2 ^ r - 1) * 2 ^ p := Nat.mul_le_mul_left _ h1
      have e65 : (2 : Nat) ^ 65 = 2 * 2 ^ 64 := by decide
      have : (1 : Nat) ≤ 2 ^ 64 := two_pos 64
      omega
    · exact h'
  have := cnt_add (a := 2 ^ r - 1) (m := p) (b := 0) h1 (by simpa using h)
  rw [Nat.add_zero] at this
  rw [this, cnt_ones hrl]
  simp [cnt, Nodes.mem_zero]
theorem cnt_run (hr : 1 ≤ r) (h : runN a p r < 2 ^ 64) : cnt (runN a p r) = cnt a + r := by
  have hl := low_lt (p := p) hr
  have := pow1 p r
  unfold runN at h ⊢
  rw [cnt_add (by omega) h, cnt_low_run hr (by omega)]
theorem cnt_top (hr : 1 ≤ r) (h : 2 ^ (p + r) + (2 ^ (r - 1) - 1) < 2 ^ 64) : cnt (2 ^ (p + r) + (2 ^ (r - 1) - 1)) = r := by
  have hl := top_lt (p := p) hr
  have hrl : r ≤ 64 := by
    rcases Nat.lt_or_ge 64 r with h' | h'
    · have hh : (2 : Nat) ^ 64 ≤ 2 ^ (p + r) := Nat.pow_le_pow_right (by decide) (by omega)
      omega
    · exact h'
  have := cnt_add (a := 1) (m := p + r) (b := 2 ^ (r - 1) - 1) hl (by rw [Nat.one_mul]; exact h)
  rw [Nat.one_mul] at this
  rw [this, cnt_ones (by omega)]
  have : cnt 1 = 1 := by decide
  omega
theorem cnt_nxt (hr : 1 ≤ r) (h : nxt a p r < 2 ^ 64) : cnt (nxt a p r) = cnt a + r := by
  have hl := top_lt (p := p) hr
  have := pow1 p r
  unfold nxt at h ⊢
  rw [Nat.add_assoc] at h ⊢
  rw [cnt_add (by omega) h, cnt_top hr (by omega)]
/-- None between a set and the next one has as many nodes. -/
theorem cnt_between (hr : 1 ≤ r) (h : nxt a p r < 2 ^ 64) {t : Nat} (h1 : runN a p r < t) (h2 : t < nxt a p r) : cnt t ≠ cnt a + r := by
  have hl := low_lt (p := p) hr
  have ht := top_lt (p := p) hr
  have hp := pow1 p r
  have h0 := two_pos (r - 1)
  have hpp := two_pos p
  have hrr := two_pos r
  unfold nxt at h2 h
  unfold runN at h1
  obtain ⟨u, rfl⟩ : ∃ u, t = a * 2 ^ (p + r + 1) + u := ⟨t - a * 2 ^ (p + r + 1), by omega⟩
  rw [cnt_add (by omega) (by omega)]
  have hu : cnt u ≠ r := by
    by_cases hs : u < 2 ^ (p + r)
    · -- the run stands, something is behind it
      have hmod : u % 2 ^ p < 2 ^ p := Nat.mod_lt _ hpp
      have hdiv : u / 2 ^ p = 2 ^ r - 1 := by
        refine Nat.le_antisymm ?_ ?_
        · have : u / 2 ^ p < 2 ^ r := by rw [Nat.div_lt_iff_lt_mul hpp, ← Nat.pow_add, Nat.add_comm r p]; exact hs
          omega
        · rw [Nat.le_div_iff_mul_le hpp]; omega
      have hue : u = (2 ^ r - 1) * 2 ^ p + u % 2 ^ p := by
        have := Nat.div_add_mod u (2 ^ p)
        rw [hdiv, Nat.mul_comm] at this
        omega
      have h64 : u < 2 ^ 64 := by omega
      have hpl : p ≤ 64 := by
        rcases Nat.lt_or_ge 64 p with h' | h'
        · have hh : (2 : Nat) ^ 64 ≤ 2 ^ p := Nat.pow_le_pow_right (by decide) (by omega)
          have hr1 : (2 : Nat) ^ 1 ≤ 2 ^ r := Nat.pow_le_pow_right (by decide) hr
          have : 1 * 2 ^ p ≤ (2 ^ r - 1) * 2 ^ p := Nat.mul_le_mul_right _ (by omega)
          omega
        · exact h'
      have hc := cnt_add (a := 2 ^ r - 1) hmod (by rw [← hue]; exact h64)
      have hlow := cnt_low_run (p := p) hr (by omega)
      have hc0 := cnt_add (a := 2 ^ r - 1) (b := 0) (m := p) hpp (by rw [Nat.add_zero]; omega)
      rw [Nat.add_zero, hlow] at hc0
      have hz : cnt 0 = 0 := by simp [cnt, Nodes.mem_zero]
      have hpos : 0 < cnt (u % 2 ^ p) := by
        rw [cnt_low hmod hpl]
        exact pc_pos _ _ (by omega) hmod
      rw [← hue] at hc
      omega
    · obtain ⟨v, rfl⟩ : ∃ v, u = 2 ^ (p + r) + v := ⟨u - 2 ^ (p + r), by omega⟩
      have hv : v < 2 ^ (r - 1) - 1 := by omega
      have hrl : r ≤ 64 := by
        rcases Nat.lt_or_ge 64 r with h' | h'
        · have hh : (2 : Nat) ^ 64 ≤ 2 ^ (p + r) := Nat.pow_le_pow_right (by decide) (by omega)
          omega
        · exact h'
      have := cnt_add (a := 1) (m := p + r) (b := v) (by omega) (by rw [Nat.one_mul]; omega)
      rw [Nat.one_mul] at this
      have hc1 : cnt 1 = 1 := by decide
      have := cnt_less (k := r - 1) (by omega) hv
      omega
  omega
/-- A set of n nodes that is not the last one: the next one is one of n nodes. -/
theorem nxt_lt {n : Nat} (hr : 1 ≤ r) (h : runN a p r < 2 ^ n) (hl : ¬ (a = 0 ∧ p + r = n)) : nxt a p r < 2 ^ n := by
  have ht := top_lt (p := p) hr
  have hp := pow1 p r
  have hpp := two_pos p
  have hrr := two_pos r
  by_cases hn : p + r + 1 ≤ n
  · have e : (2 : Nat) ^ n = 2 ^ (n - (p + r + 1)) * 2 ^ (p + r + 1) := by rw [← Nat.pow_add]; congr 1; omega
    have ha : a < 2 ^ (n - (p + r + 1)) := by
      refine Nat.lt_of_mul_lt_mul_right (a := 2 ^ (p + r + 1)) ?_
      rw [← e]
      unfold runN at h
      omega
    have : (a + 1) * 2 ^ (p + r + 1) ≤ 2 ^ (n - (p + r + 1)) * 2 ^ (p + r + 1) := Nat.mul_le_mul_right _ ha
    rw [← e, Nat.add_mul] at this
    unfold nxt
    omega
  · exfalso
    have hle : (2 : Nat) ^ n ≤ 2 ^ (p + r) := Nat.pow_le_pow_right (by decide) (by omega)
    have ha : a = 0 := by
      rcases Nat.eq_zero_or_pos a with h' | h'
      · exact h'
      · have := Nat.le_mul_of_pos_left (2 ^ (p + r + 1)) h'
        unfold runN at h
        omega
    refine hl ⟨ha, ?_⟩
    rcases Nat.lt_or_ge n (p + r) with h' | h'
    · exfalso
      have h2 : (2 : Nat) ^ n ≤ 2 ^ (p + (r - 1)) := Nat.pow_le_pow_right (by decide) (by omega)
      have h3 : (2 : Nat) ^ (r - 1) ≤ 2 ^ r - 1 := by
        have : (2 : Nat) ^ r = 2 ^ (r - 1) * 2 := by rw [← Nat.pow_succ]; congr 1; omega
        have := two_pos (r - 1)
        omega
      have h4 : 2 ^ (r - 1) * 2 ^ p ≤ (2 ^ r - 1) * 2 ^ p := Nat.mul_le_mul_right _ h3
      rw [← Nat.pow_add, Nat.add_comm (r - 1) p] at h4
      unfold runN at h
      omega
    · omega
end
/-! The sets of k of n nodes. -/
def isK (k s : Nat) : Bool := decide (cnt s = k)
def setsK (n k : Nat) : List Nat := (List.range (2 ^ n)).filter (isK k)
def restK (n k s : Nat) : List Nat := (List.range' s (2 ^ n - s)).filter (isK k)
def lastK (n k : Nat) : Nat := (2 ^ k - 1) * 2 ^ (n - k)
theorem rest_zero (n k : Nat) : restK n k 0 = setsK n k := by unfold restK setsK; rw [List.range_eq_range', Nat.sub_zero]
theorem rest_hit {n k s : Nat} (h : s < 2 ^ n) (hc : cnt s = k) : restK n k s = s :: restK n k (s + 1) := by
  unfold restK
  obtain ⟨d, hd⟩ : ∃ d, 2 ^ n - s = d + 1 := ⟨2 ^ n - s - 1, by omega⟩
  rw [hd, show 2 ^ n - (s + 1) = d by omega, List.range'_succ, List.filter_cons_of_pos (by simp [isK, hc])]
theorem rest_miss {n k s : Nat} (h : s < 2 ^ n) (hc : cnt s ≠ k) : restK n k s = restK n k (s + 1) := by
  unfold restK
  obtain ⟨d, hd⟩ : ∃ d, 2 ^ n - s = d + 1 := ⟨2 ^ n - s - 1, by omega⟩
  rw [hd, show 2 ^ n - (s + 1) = d by omega, List.range'_succ, List.filter_cons_of_neg (by simp [isK, hc])]
theorem rest_skip {n k s : Nat} : ∀ d, s + d ≤ 2 ^ n → (∀ t, s ≤ t → t < s + d → cnt t ≠ k) → restK n k s = restK n k (s + d)
  | 0, _, _ => rfl
  | d + 1, h, hc => by rw [rest_skip d (by omega) (fun t h1 h2 => hc t h1 (by omega)), rest_miss (by omega) (hc _ (by omega) (by omega))]; rfl
theorem rest_to {n k s t : Nat} (hst : s ≤ t) (ht : t ≤ 2 ^ n) (hc : ∀ u, s ≤ u → u < t → cnt u ≠ k) : restK n k s = restK n k t := by
  have := rest_skip (n := n) (k := k) (s := s) (t - s) (by omega) (fun u h1 h2 => hc u h1 (by omega))
  rwa [show s + (t - s) = t by omega] at this
theorem rest_end (n k : Nat) : restK n k (2 ^ n) = [] := by unfold restK; simp
theorem last_lt {n k : Nat} (h : k ≤ n) : lastK n k < 2 ^ n := by
  unfold lastK
  rcases Nat.eq_zero_or_pos k with rfl | h'
  · simpa using Nat.two_pow_pos n
  · have := low_lt (p := n - k) h'
    rwa [show n - k + k = n by omega] at this
theorem pow64 {n : Nat} (h : n ≤ 64) : (2 : Nat) ^ n ≤ 2 ^ 64 := Nat.pow_le_pow_right (by decide) h
theorem cnt_last {n k : Nat} (h : k ≤ n) (hn : n ≤ 64) : cnt (lastK n k) = k := by
  rcases Nat.eq_zero_or_pos k with rfl | h'
  · simp [lastK, cnt, Nodes.mem_zero]
  · have := last_lt h
    have := pow64 hn
    exact cnt_low_run h' (by unfold lastK at *; omega)
/-- The first one. -/
theorem rest_first {n k : Nat} (h : k ≤ n) (hn : n ≤ 64) : restK n k (2 ^ k - 1) = setsK n k := by
  rw [← rest_zero]
  have : (2 : Nat) ^ k ≤ 2 ^ n := Nat.pow_le_pow_right (by decide) h
  refine (rest_to (n := n) (k := k) (s := 0) (t := 2 ^ k - 1) (Nat.zero_le _) (Nat.le_trans (Nat.sub_le _ _) this) fun u _ h2 => ?_).symm
  have := cnt_less (k := k) (by omega) h2
  omega
/-- The next one. -/
theorem rest_next {n k : Nat} (hn : n ≤ 64) {a p r : Nat} (hr : 1 ≤ r) (hs : runN a p r < 2 ^ n) (hc : cnt (runN a p r) = k) (hl : runN a p r ≠ lastK n k) :
    restK n k (runN a p r) = runN a p r :: restK n k (nxt a p r) ∧ nxt a p r < 2 ^ n ∧ cnt (nxt a p r) = k := by
  have h64 := pow64 hn
  have hk := cnt_run hr (by omega : runN a p r < 2 ^ 64)
  rw [hc] at hk
  have hx := nxt_lt (n := n) hr hs (fun ⟨h1, h2⟩ => by
    subst h1
    have hz : cnt 0 = 0 := by simp [cnt, Nodes.mem_zero]
    rw [hz] at hk
    refine hl ?_
    unfold runN lastK
    rw [show k = r by omega, show n - r = p by omega, Nat.zero_mul, Nat.zero_add])
  refine ⟨?_, hx, ?_⟩
  · rw [rest_hit hs hc, rest_to (t := nxt a p r) (by have := run_lt_nxt (a := a) (p := p) hr; omega) (by omega) fun u h1 h2 => ?_]
    have := cnt_between hr (by omega) (show runN a p r < u by omega) h2
    omega
  · rw [cnt_nxt hr (by omega)]; omega
/-- The last one. -/
theorem rest_last {n k : Nat} (hk : k ≤ n) (hn : n ≤ 64) : restK n k (lastK n k) = [lastK n k] := by
  have hlt := last_lt hk
  have h64 := pow64 hn
  rw [rest_hit hlt (cnt_last hk hn), rest_to (t := 2 ^ n) (by omega) (Nat.le_refl _) fun u h1 h2 => ?_, rest_end]
  intro hu
  have hpp := two_pos (n - k)
  have e : (2 : Nat) ^ n = 2 ^ k * 2 ^ (n - k) := by rw [← Nat.pow_add]; congr 1; omega
  have hmod : u % 2 ^ (n - k) < 2 ^ (n - k) := Nat.mod_lt _ hpp
  have hkk := two_pos k
  have hdiv : u / 2 ^ (n - k) = 2 ^ k - 1 := by
    refine Nat.le_antisymm ?_ ?_
    · have : u / 2 ^ (n - k) < 2 ^ k := by rw [Nat.div_lt_iff_lt_mul hpp, ← e]; exact h2
      omega
    · rw [Nat.le_div_iff_mul_le hpp]; unfold lastK at h1; omega
  have hue : u = (2 ^ k - 1) * 2 ^ (n - k) + u % 2 ^ (n - k) := by
    have := Nat.div_add_mod u (2 ^ (n - k))
    rw [hdiv, Nat.mul_comm] at this
    omega
  have hc := cnt_add (a := 2 ^ k - 1) hmod (by rw [← hue]; omega)
  rw [← hue, hu, cnt_ones (by omega)] at hc
  have hpos : 0 < cnt (u % 2 ^ (n - k)) := by
    rw [cnt_low hmod (by omega)]
    exact pc_pos _ _ (by unfold lastK at h1; omega) hmod
  omega
theorem mem_sets {n k s : Nat} : s ∈ setsK n k ↔ s < 2 ^ n ∧ cnt s = k := by simp [setsK, isK]
theorem sets_pos {n k : Nat} (h : k ≤ n) (hn : n ≤ 64) : 0 < (setsK n k).length := List.length_pos_of_mem (mem_sets.2 ⟨last_lt h, cnt_last h hn⟩)
/-! All sets of fewer than m of n nodes, by their size. -/
def upTo (n m : Nat) : List Nat := (List.range m).flatMap (setsK n)
theorem upTo_succ (n m : Nat) : upTo n (m + 1) = upTo n m ++ setsK n m := by simp [upTo, List.range_succ]
theorem mem_upTo {n m s : Nat} : s ∈ upTo n m ↔ s < 2 ^ n ∧ cnt s < m := by
  simp only [upTo, List.mem_flatMap, List.mem_range, mem_sets]
  exact ⟨fun ⟨k, h1, h2, h3⟩ => ⟨h2, by omega⟩, fun ⟨h1, h2⟩ => ⟨cnt s, h2, h1, rfl⟩⟩
/-- How many are asked: of at most 'most' of n. -/
def manyN (n : Nat) (most : Int) : Nat := (min most (n : Int) + 1).toNat
end Go.Proofs.YtbgigimapogkcaaDoor.Cut
