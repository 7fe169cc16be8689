/- Bits of bytes turned by whole bytes, the bits in which bytes differ, and how wide some bits are: the plain mathematics of layer burst; no Go in sight. -/
import Derived.Test.YtpibmppolnfckaaDoorCrcX
import Derived.Lib.TrailingZeros
import Derived.Lib.BitFns
namespace Go.Proofs.YtpibmppolnfckaaDoor.Bst
open Go.Proofs.YtpibmppolnfckaaDoor.Crc
set_option linter.unusedVariables false

/-! Turned by whole bytes. -/
def xb (x : UInt8) (n : Nat) : UInt8 := UInt8.ofNat (x.toNat ^^^ n % 256)
theorem xb_nat (x : UInt8) (n : Nat) : (xb x n).toNat = x.toNat ^^^ n % 256 := by
  unfold xb
  rw [UInt8.toNat_ofNat']
  exact Nat.mod_eq_of_lt (Nat.xor_lt_two_pow (n := 8) x.toNat_lt (Nat.mod_lt _ (by decide)))
theorem xb_bit (x : UInt8) (n j : Nat) (h : j < 8) : (xb x n).toNat.testBit j = (x.toNat.testBit j ^^ n.testBit j) := by
  rw [xb_nat, Nat.testBit_xor, show (256 : Nat) = 2 ^ 8 from rfl, Nat.testBit_mod_two_pow, decide_eq_true h, Bool.true_and]
def tw (s : List UInt8) (j m : Nat) : Nat → List UInt8
  | 0 => s
  | k + 1 => (tw s j m k).set (j + k) (xb ((tw s j m k).getD (j + k) 0) (m / 256 ^ k))
theorem tw_len (s : List UInt8) (j m k : Nat) : (tw s j m k).length = s.length := by
  induction k with
  | zero => rfl
  | succ k ih => rw [tw, List.length_set, ih]
theorem tw_bit (s : List UInt8) (j m k : Nat) : ∀ q, q < 8 * s.length → ((tw s j m k).getD (q / 8) 0).toNat.testBit (q % 8) = ((s.getD (q / 8) 0).toNat.testBit (q % 8) ^^ (decide (8 * j ≤ q ∧ q < 8 * (j + k)) && m.testBit (q - 8 * j))) := by
  induction k with
  | zero => intro q hq; rw [tw, decide_eq_false (by omega)]; simp
  | succ k ih =>
    intro q hq
    have hl := tw_len s j m k
    have hq8 : q / 8 < (tw s j m k).length := by omega
    rw [tw]
    by_cases h : q / 8 = j + k
    · have e : ((tw s j m k).set (j + k) (xb ((tw s j m k).getD (j + k) 0) (m / 256 ^ k))).getD (q / 8) 0 = xb ((tw s j m k).getD (q / 8) 0) (m / 256 ^ k) := by
        rw [← h]; simp [List.getD, hq8]
      rw [e, xb_bit _ _ _ (Nat.mod_lt _ (by decide)), ih q hq, decide_eq_false (by omega), decide_eq_true (by omega), show (256 : Nat) = 2 ^ 8 from rfl, ← Nat.pow_mul, Nat.testBit_div_two_pow, show q % 8 + 8 * k = q - 8 * j by omega]
      simp
    · have e : ((tw s j m k).set (j + k) (xb ((tw s j m k).getD (j + k) 0) (m / 256 ^ k))).getD (q / 8) 0 = (tw s j m k).getD (q / 8) 0 := by
        have h' : ¬ j + k = q / 8 := fun e => h e.symm
        simp [List.getD, h']
      rw [e, ih q hq]
      congr 2
      rw [decide_eq_decide]; omega
theorem eq_of_bits {s t : List UInt8} (hl : s.length = t.length) (h : ∀ q, q < 8 * s.length → (s.getD (q / 8) 0).toNat.testBit (q % 8) = (t.getD (q / 8) 0).toNat.testBit (q % 8)) : s = t := by
  refine bits_inj (List.ext_getElem? fun q => ?_)
  by_cases hq : q < 8 * s.length
  · rw [bits_at s q hq, bits_at t q (by omega), h q hq]
  · rw [List.getElem?_eq_none (by rw [bits_len]; omega), List.getElem?_eq_none (by rw [bits_len]; omega)]
theorem high_none {m k i : Nat} (h : m / 256 ^ k = 0) (hi : 8 * k ≤ i) : m.testBit i = false := by
  have h2 : (m / 2 ^ (8 * k)).testBit (i - 8 * k) = false := by
    rw [Nat.pow_mul, show (2 : Nat) ^ 8 = 256 from rfl, h, Nat.zero_testBit]
  rw [Nat.testBit_div_two_pow, show i - 8 * k + 8 * k = i by omega] at h2
  exact h2
/-- As far as there is anything left to turn it is the document's own. -/
theorem tw_turn (s : List UInt8) (p bs k : Nat) (hb : bs < 4294967296) (h : bs * 2 ^ (p % 8) / 256 ^ k = 0 ∨ s.length ≤ p / 8 + k) :
    tw s (p / 8) (bs * 2 ^ (p % 8)) k = turnB s p bs 32 := by
  refine eq_of_bits (by rw [tw_len, turnB_len]) fun q hq => ?_
  rw [tw_len] at hq
  rw [tw_bit s _ _ _ q hq, turnB_bit s p bs 32 q hq]
  congr 1
  have hm : ∀ i, (bs * 2 ^ (p % 8)).testBit i = (decide (p % 8 ≤ i) && bs.testBit (i - p % 8)) := fun i => by
    rw [Nat.mul_comm, Nat.testBit_two_pow_mul]
  by_cases hlo : p ≤ q
  · by_cases hhi : q < p + 32
    · rw [decide_eq_true (show p ≤ q ∧ q < p + 32 from ⟨hlo, hhi⟩), Bool.true_and]
      by_cases hk : q < 8 * (p / 8 + k)
      · rw [decide_eq_true (by omega), Bool.true_and, hm, decide_eq_true (by omega), Bool.true_and, show q - 8 * (p / 8) - p % 8 = q - p by omega]
      · rcases h with h | h
        · have h1 := high_none (i := q - 8 * (p / 8)) h (by omega)
          rw [hm, decide_eq_true (by omega), Bool.true_and, show q - 8 * (p / 8) - p % 8 = q - p by omega] at h1
          rw [h1, decide_eq_false (by omega)]; rfl
        · omega
    · have hz : bs.testBit (q - p) = false := Nat.testBit_lt_two_pow (Nat.lt_of_lt_of_le hb (Nat.pow_le_pow_right (n := 2) (by decide) (show 32 ≤ q - p by omega)))
      rw [hm, show q - 8 * (p / 8) - p % 8 = q - p by omega, hz]; simp
  · rw [decide_eq_false (show ¬ (p ≤ q ∧ q < p + 32) by omega), hm]
    by_cases h8 : p % 8 ≤ q - 8 * (p / 8)
    · rw [decide_eq_false (show ¬ (8 * (p / 8) ≤ q ∧ q < 8 * (p / 8 + k)) by omega)]; rfl
    · rw [decide_eq_false h8]; simp
theorem turn_twice (s : List UInt8) (p bs : Nat) : turnB (turnB s p bs 32) p bs 32 = s := by
  refine eq_of_bits (by rw [turnB_len, turnB_len]) fun q hq => ?_
  rw [turnB_len, turnB_len] at hq
  rw [turnB_bit _ p bs 32 q (by rw [turnB_len]; exact hq), turnB_bit s p bs 32 q hq, Bool.xor_assoc, Bool.xor_self, Bool.xor_false]

/-! Where bytes differ. -/
/-- The first of some numbers, and what lies behind the last: 0 of none. -/
def fst (l : List Nat) : Nat := l.headD 0
def lst (l : List Nat) : Nat := (l.getLast?.map (· + 1)).getD 0
def wid (l : List Nat) : Nat := lst l - fst l
theorem lst_zero {l : List Nat} : lst l = 0 ↔ l = [] := by
  unfold lst
  cases h : l.getLast? with
  | none => simp [List.getLast?_eq_none_iff.1 h]
  | some x =>
    have : l ≠ [] := by rintro rfl; simp at h
    simp [this]
theorem fst_append (l m : List Nat) : fst (l ++ m) = if l = [] then fst m else fst l := by
  cases l <;> simp [fst]
theorem lst_append (l m : List Nat) : lst (l ++ m) = if m = [] then lst l else lst m := by
  unfold lst
  rw [List.getLast?_append]
  cases h : m.getLast? with
  | none => simp [List.getLast?_eq_none_iff.1 h]
  | some x =>
    have : m ≠ [] := by rintro rfl; simp at h
    simp [this]
theorem fst_mem {l : List Nat} (h : l ≠ []) : fst l ∈ l := by
  cases l with
  | nil => exact absurd rfl h
  | cons a l => simp [fst]
theorem lst_mem {l : List Nat} (h : l ≠ []) : ∃ x, lst l = x + 1 ∧ x ∈ l := by
  unfold lst
  cases e : l.getLast? with
  | none => exact absurd (List.getLast?_eq_none_iff.1 e) h
  | some x => exact ⟨x, by simp, List.mem_of_getLast? e⟩
theorem fst_le {l : List Nat} (h : l.Pairwise (· < ·)) {x : Nat} (hx : x ∈ l) : fst l ≤ x := by
  cases l with
  | nil => simp at hx
  | cons a l =>
    rcases List.mem_cons.1 hx with rfl | hx
    · simp [fst]
    · exact Nat.le_of_lt ((List.pairwise_cons.1 h).1 x hx)
theorem le_lst {l : List Nat} (h : l.Pairwise (· < ·)) {x : Nat} (hx : x ∈ l) : x < lst l := by
  rcases List.eq_nil_or_concat l with rfl | ⟨m, y, rfl⟩
  · simp at hx
  · rw [List.concat_eq_append] at *
    rw [lst_append]
    simp only [List.cons_ne_self, if_false]
    have e : lst [y] = y + 1 := rfl
    rw [e]
    rcases List.mem_append.1 hx with hx | hx
    · have := (List.pairwise_append.1 h).2.2 x hx y (by simp); omega
    · simp at hx; omega
def dif (a b : List UInt8) (q : Nat) : Bool := (a.getD (q / 8) 0).toNat.testBit (q % 8) != (b.getD (q / 8) 0).toNat.testBit (q % 8)
/-- The bits in which bytes differ, of the first n. -/
def difs (a b : List UInt8) (n : Nat) : List Nat := (List.range n).filter (dif a b)
/-- The bits of a number, of the first n. -/
def ons (x n : Nat) : List Nat := (List.range n).filter x.testBit
theorem up_difs (a b : List UInt8) (n : Nat) : (difs a b n).Pairwise (· < ·) := List.pairwise_lt_range.filter _
theorem up_ons (x n : Nat) : (ons x n).Pairwise (· < ·) := List.pairwise_lt_range.filter _
theorem mem_difs {a b : List UInt8} {n q : Nat} : q ∈ difs a b n ↔ q < n ∧ dif a b q = true := by simp [difs]
theorem mem_ons {x n q : Nat} : q ∈ ons x n ↔ q < n ∧ x.testBit q = true := by simp [ons]
theorem difs_succ (a b : List UInt8) (n : Nat) : difs a b (n + 1) = if dif a b n = true then difs a b n ++ [n] else difs a b n := by
  unfold difs
  rw [List.range_succ, List.filter_append]
  cases h : dif a b n <;> simp [h]
theorem ons_succ (x n : Nat) : ons x (n + 1) = if x.testBit n = true then ons x n ++ [n] else ons x n := by
  unfold ons
  rw [List.range_succ, List.filter_append]
  cases h : x.testBit n <;> simp [h]
theorem difs_eight (a b : List UInt8) (k : Nat) : difs a b (8 * (k + 1)) = difs a b (8 * k) ++ (ons ((a.getD k 0).toNat ^^^ (b.getD k 0).toNat) 8).map (8 * k + ·) := by
  unfold difs ons
  rw [show 8 * (k + 1) = 8 * k + 8 by omega, List.range_add, List.filter_append, List.filter_map]
  congr 2
  refine List.filter_congr fun i hi => ?_
  have hi8 := List.mem_range.1 hi
  simp only [Function.comp, dif]
  rw [show (8 * k + i) / 8 = k by omega, show (8 * k + i) % 8 = i by omega, Nat.testBit_xor]
theorem ons8' : ∀ u, u < 256 → u ≠ 0 → ons u 8 ≠ [] ∧ fst (ons u 8) = Go.Lib.trailingZeros8 u ∧ lst (ons u 8) = Go.Lib.bitLen u := by decide +kernel
theorem ons_zero (n : Nat) : ons 0 n = [] := by
  unfold ons
  rw [List.filter_eq_nil_iff]
  intro i _
  simp
theorem fst_map {l : List Nat} (c : Nat) (h : l ≠ []) : fst (l.map (c + ·)) = c + fst l := by
  cases l with
  | nil => exact absurd rfl h
  | cons a l => rfl
theorem lst_map {l : List Nat} (c : Nat) (h : l ≠ []) : lst (l.map (c + ·)) = c + lst l := by
  unfold lst
  rw [List.getLast?_map]
  cases e : l.getLast? with
  | none => exact absurd (List.getLast?_eq_none_iff.1 e) h
  | some x => simp; omega
/-- One byte more, alike in both or not. -/
theorem difs_same (a b : List UInt8) (k u : Nat) (hu : (a.getD k 0).toNat ^^^ (b.getD k 0).toNat = u) (h : u = 0) : difs a b (8 * (k + 1)) = difs a b (8 * k) := by
  rw [difs_eight, hu, h, ons_zero]; simp
theorem difs_more (a b : List UInt8) (k u : Nat) (hu : (a.getD k 0).toNat ^^^ (b.getD k 0).toNat = u) (h : u ≠ 0) (h8 : u < 256) :
    fst (difs a b (8 * (k + 1))) = (if lst (difs a b (8 * k)) = 0 then 8 * k + Go.Lib.trailingZeros8 u else fst (difs a b (8 * k))) ∧ lst (difs a b (8 * (k + 1))) = 8 * k + Go.Lib.bitLen u := by
  obtain ⟨h1, h2, h3⟩ := ons8' u h8 h
  have h4 : (ons u 8).map (8 * k + ·) ≠ [] := by simpa using h1
  rw [difs_eight, hu, fst_append, lst_append, if_neg h4, lst_map _ h1, fst_map _ h1, h2, h3]
  refine ⟨?_, rfl⟩
  by_cases e : difs a b (8 * k) = []
  · rw [if_pos e, if_pos (lst_zero.2 e)]
  · rw [if_neg e, if_neg (fun h => e (lst_zero.1 h))]
theorem wid_nil {l : List Nat} (hp : l.Pairwise (· < ·)) : wid l = 0 ↔ l = [] := by
  constructor
  · intro h
    by_cases e : l = []
    · exact e
    · have := le_lst hp (fst_mem e)
      unfold wid at h; omega
  · rintro rfl; rfl
theorem fst_le_lst {l : List Nat} (hp : l.Pairwise (· < ·)) : fst l ≤ lst l := by
  by_cases e : l = []
  · subst e; exact Nat.le_refl _
  · exact Nat.le_of_lt (le_lst hp (fst_mem e))

/-! How wide bits are. -/
def widB (x : Nat) : Nat := Go.Lib.bitLen (x / 2 ^ Go.Lib.ctz 32 x)
theorem bit_top {y n : Nat} (hn : n < 64) (h1 : 2 ^ n ≤ y) (h2 : y < 2 ^ (n + 1)) : Go.Lib.bitLen y = n + 1 := by
  have hy : y < 2 ^ 64 := Nat.lt_of_lt_of_le h2 (Nat.pow_le_pow_right (by decide) (by omega))
  have e : y / 2 ^ n = 1 := by
    rw [Nat.pow_succ] at h2
    have := Nat.two_pow_pos n
    exact Nat.div_eq_of_lt_le (by omega) (by omega)
  rw [Go.Lib.bitLen_shift n y h1 hy, e]
  rfl
theorem ons_none {x : Nat} (hx : x < 4294967296) (h : ons x 32 = []) : x = 0 := by
  refine Nat.eq_of_testBit_eq fun j => ?_
  rw [Nat.zero_testBit]
  by_cases hj : j < 32
  · cases hb : x.testBit j with
    | false => rfl
    | true => have := mem_ons.2 ⟨hj, hb⟩; rw [h] at this; simp at this
  · exact Nat.testBit_lt_two_pow (Nat.lt_of_lt_of_le hx (Nat.pow_le_pow_right (n := 2) (by decide) (show 32 ≤ j by omega)))
theorem wid_ons (x : Nat) (hx : x < 4294967296) : widB x = wid (ons x 32) := by
  by_cases h0 : x = 0
  · subst h0; decide +kernel
  · have hne : ons x 32 ≠ [] := fun h => h0 (ons_none hx h)
    have hp := up_ons x 32
    obtain ⟨m, hm, hk⟩ := Go.Lib.ctzFrom_spec 32 x (by omega) hx
    have hc : Go.Lib.ctz 32 x = Go.Lib.ctzFrom 32 x := by unfold Go.Lib.ctz; rw [if_neg h0]
    unfold widB
    rw [hc]
    generalize Go.Lib.ctzFrom 32 x = k at hm hk
    have b1 : ∀ j, x.testBit j = if j < k then false else (2 * m + 1).testBit (j - k) := fun j => by
      have := Nat.testBit_two_pow_mul_add (2 * m + 1) (b := 0) (i := k) (Nat.two_pow_pos k) j
      rw [Nat.add_zero, ← hm] at this
      simpa using this
    have hf : fst (ons x 32) = k := by
      have h1 := mem_ons.1 (fst_mem hne)
      have h2 : fst (ons x 32) ≤ k := fst_le hp (mem_ons.2 ⟨hk, by rw [b1, if_neg (by omega), Nat.sub_self, Nat.testBit_zero]; simp⟩)
      by_cases hlt : fst (ons x 32) < k
      · rw [b1, if_pos hlt] at h1; simp at h1
      · omega
    obtain ⟨H, hl, hH⟩ := lst_mem hne
    obtain ⟨hH32, hHb⟩ := mem_ons.1 hH
    have hkH : k ≤ H := by have := le_lst hp (fst_mem hne); omega
    have g1 : 2 ^ H ≤ x := Nat.ge_two_pow_of_testBit hHb
    have g2 : x < 2 ^ (H + 1) := by
      refine Nat.lt_pow_two_of_testBit _ fun i hi => ?_
      by_cases hi32 : i < 32
      · cases hb : x.testBit i with
        | false => rfl
        | true => have := le_lst hp (mem_ons.2 ⟨hi32, hb⟩); omega
      · exact Nat.testBit_lt_two_pow (Nat.lt_of_lt_of_le hx (Nat.pow_le_pow_right (n := 2) (by decide) (show 32 ≤ i by omega)))
    unfold wid
    rw [hl, hf, show H + 1 - k = (H - k) + 1 by omega]
    refine bit_top (by omega) ?_ ?_
    · rw [Nat.le_div_iff_mul_le (Nat.two_pow_pos k), ← Nat.pow_add, show H - k + k = H by omega]; exact g1
    · rw [Nat.div_lt_iff_lt_mul (Nat.two_pow_pos k), ← Nat.pow_add, show H - k + 1 + k = H + 1 by omega]; exact g2
theorem widB_le (x : Nat) (hx : x < 4294967296) : widB x ≤ 32 := by
  rw [wid_ons x hx]
  unfold wid
  by_cases h : ons x 32 = []
  · rw [h]; decide
  · obtain ⟨H, hl, hH⟩ := lst_mem h
    have := (mem_ons.1 hH).1
    omega

/-! What Turn did is a burst, or nothing. -/
theorem dif_turned (s : List UInt8) (p bs q : Nat) (hq : q < 8 * s.length) : dif s (turnB s p bs 32) q = (decide (p ≤ q ∧ q < p + 32) && bs.testBit (q - p)) := by
  unfold dif
  rw [turnB_bit s p bs 32 q hq]
  cases (s.getD (q / 8) 0).toNat.testBit (q % 8) <;> cases (decide (p ≤ q ∧ q < p + 32) && bs.testBit (q - p)) <;> rfl
theorem wid_turned (s : List UInt8) (p bs : Nat) (hb : bs < 4294967296) : wid (difs s (turnB s p bs 32) (8 * s.length)) ≤ widB bs := by
  by_cases h : difs s (turnB s p bs 32) (8 * s.length) = []
  · rw [h]; exact Nat.zero_le _
  · have mem : ∀ q, q ∈ difs s (turnB s p bs 32) (8 * s.length) → p ≤ q ∧ q - p ∈ ons bs 32 := fun q hq => by
      obtain ⟨h1, h2⟩ := mem_difs.1 hq
      rw [dif_turned s p bs q h1, Bool.and_eq_true, decide_eq_true_iff] at h2
      exact ⟨h2.1.1, mem_ons.2 ⟨by omega, h2.2⟩⟩
    have hp := up_ons bs 32
    obtain ⟨f1, f2⟩ := mem _ (fst_mem h)
    obtain ⟨x, hl, hx⟩ := lst_mem h
    obtain ⟨x1, x2⟩ := mem x hx
    have g1 := fst_le hp f2
    have g2 := le_lst hp x2
    rw [wid_ons bs hb]
    unfold wid
    rw [hl]
    omega
theorem none_turned (s t : List UInt8) (hl : s.length = t.length) (h : difs s t (8 * s.length) = []) : s = t := by
  refine eq_of_bits hl fun q hq => ?_
  by_cases hd : dif s t q = true
  · have := mem_difs.2 ⟨hq, hd⟩
    rw [h] at this; simp at this
  · unfold dif at hd
    simpa using hd
end Go.Proofs.YtpibmppolnfckaaDoor.Bst
