/- Sets of at most 64 numbers as bits of one number: the plain mathematics of layer nodes; no Go in sight. -/
import Derived.Laws.BitsAllLaws
import Derived.Lib.TrailingZeros
namespace Go.Proofs.YtmkdemdeejhonaaDoor.Nodes
set_option linter.unusedVariables false

def sumTo (p : Nat → Bool) : Nat → Nat
  | 0 => 0
  | k + 1 => sumTo p k + if p k then 2 ^ k else 0
theorem sumTo_lt (p : Nat → Bool) (k : Nat) : sumTo p k < 2 ^ k := by
  induction k with
  | zero => simp [sumTo]
  | succ k ih => rw [sumTo, Nat.pow_succ]; split <;> omega
theorem bit_sumTo (p : Nat → Bool) (k j : Nat) : (sumTo p k).testBit j = (decide (j < k) && p j) := by
  induction k with
  | zero => simp [sumTo]
  | succ k ih =>
    rw [sumTo]
    by_cases hp : p k
    · rw [if_pos hp, Nat.add_comm]
      rcases Nat.lt_trichotomy j k with h | h | h
      · rw [Nat.testBit_two_pow_add_gt h, ih]; simp [h, Nat.lt_succ_of_lt h]
      · subst h; rw [Nat.testBit_two_pow_add_eq, ih]; simp [hp]
      · rw [Nat.testBit_lt_two_pow]
        · simp; omega
        · have := sumTo_lt p k
          have : 2 ^ (k + 1) ≤ 2 ^ j := Nat.pow_le_pow_right (by decide) h
          rw [Nat.pow_succ] at this; omega
    · rw [if_neg hp, Nat.add_zero, ih]
      by_cases h : j = k
      · subst h; simp at hp; simp [hp]
      · congr 1; rw [decide_eq_decide]; omega
def setP (p : Nat → Bool) : Nat := sumTo p 64
theorem setP_lt (p : Nat → Bool) : setP p < 18446744073709551616 := sumTo_lt p 64
theorem bit_setP (p : Nat → Bool) (j : Nat) : (setP p).testBit j = (decide (j < 64) && p j) := bit_sumTo p 64 j
theorem bit_hi {S j : Nat} (h : S < 18446744073709551616) (hj : 64 ≤ j) : S.testBit j = false := by
  refine Nat.testBit_lt_two_pow (Nat.lt_of_lt_of_le h ?_)
  exact Nat.pow_le_pow_right (n := 2) (by decide) hj
theorem eq_of_bits {S T : Nat} (hS : S < 18446744073709551616) (hT : T < 18446744073709551616) (h : ∀ j, j < 64 → S.testBit j = T.testBit j) : S = T := by
  refine Nat.eq_of_testBit_eq fun j => ?_
  by_cases hj : j < 64
  · exact h j hj
  · rw [bit_hi hS (by omega), bit_hi hT (by omega)]
theorem eq_setP {S : Nat} {p : Nat → Bool} (hS : S < 18446744073709551616) (h : ∀ j, j < 64 → S.testBit j = p j) : S = setP p :=
  eq_of_bits hS (setP_lt p) fun j hj => by rw [h j hj, bit_setP]; simp [hj]
theorem setP_congr {p q : Nat → Bool} (h : ∀ j, j < 64 → p j = q j) : setP p = setP q :=
  eq_of_bits (setP_lt p) (setP_lt q) fun j hj => by rw [bit_setP, bit_setP, h j hj]

def bitN (z : Int) : Nat := if 0 ≤ z ∧ z < 64 then 2 ^ z.toNat else 0
theorem bitN_lt (z : Int) : bitN z < 18446744073709551616 := by
  unfold bitN
  split
  · rename_i h
    exact Nat.pow_lt_pow_right (a := 2) (by decide) (show z.toNat < 64 by omega)
  · omega
theorem bit_bitN (z : Int) (j : Nat) : (bitN z).testBit j = (decide (j < 64) && decide ((j : Int) = z)) := by
  unfold bitN
  split
  · rename_i h
    rw [Nat.testBit_two_pow]
    rw [Bool.eq_iff_iff]; simp; omega
  · rename_i h
    rw [Nat.zero_testBit, Bool.eq_iff_iff]; simp; omega
def andNotN (a b : Nat) : Nat := a &&& (18446744073709551615 - b)
theorem bit_andNot (a : Nat) {b : Nat} (hb : b < 18446744073709551616) (j : Nat) : (andNotN a b).testBit j = (a.testBit j && (decide (j < 64) && !b.testBit j)) := by
  unfold andNotN
  rw [Nat.testBit_and, show 18446744073709551615 - b = 2 ^ 64 - (b + 1) from by omega, Nat.testBit_two_pow_sub_succ hb]
theorem andNot_lt {a : Nat} (b : Nat) (ha : a < 18446744073709551616) : andNotN a b < 18446744073709551616 := Nat.lt_of_le_of_lt Nat.and_le_left ha
theorem and_lt {a : Nat} (b : Nat) (ha : a < 18446744073709551616) : a &&& b < 18446744073709551616 := Nat.lt_of_le_of_lt Nat.and_le_left ha
theorem or_lt {a b : Nat} (ha : a < 18446744073709551616) (hb : b < 18446744073709551616) : a ||| b < 18446744073709551616 := Nat.or_lt_two_pow (n := 64) ha hb

def ofL (zs : List Int) : Nat := setP fun j => decide ((j : Int) ∈ zs)
def withN (S : Nat) (zs : List Int) : Nat := setP fun j => S.testBit j || decide ((j : Int) ∈ zs)
def withoutN (S : Nat) (zs : List Int) : Nat := setP fun j => S.testBit j && !decide ((j : Int) ∈ zs)
theorem bit_with (S : Nat) (zs : List Int) (j : Nat) : (withN S zs).testBit j = (decide (j < 64) && (S.testBit j || decide ((j : Int) ∈ zs))) := bit_setP _ _
theorem bit_without (S : Nat) (zs : List Int) (j : Nat) : (withoutN S zs).testBit j = (decide (j < 64) && (S.testBit j && !decide ((j : Int) ∈ zs))) := bit_setP _ _
theorem with_nil {S : Nat} (h : S < 18446744073709551616) : withN S [] = S := (eq_setP h fun j _ => by simp).symm
theorem without_nil {S : Nat} (h : S < 18446744073709551616) : withoutN S [] = S := (eq_setP h fun j _ => by simp).symm
theorem with_snoc (S : Nat) (zs : List Int) (z : Int) : withN S (zs ++ [z]) = withN S zs ||| bitN z :=
  (eq_setP (or_lt (setP_lt _) (bitN_lt z)) fun j hj => by
    rw [Nat.testBit_or, bit_setP, bit_bitN]
    simp only [hj, decide_true, Bool.true_and, List.mem_append, List.mem_singleton, Bool.decide_or, Bool.or_assoc]).symm
theorem without_snoc (S : Nat) (zs : List Int) (z : Int) : withoutN S (zs ++ [z]) = andNotN (withoutN S zs) (bitN z) :=
  (eq_setP (andNot_lt _ (setP_lt _)) fun j hj => by
    rw [bit_andNot _ (bitN_lt z), bit_setP, bit_bitN]
    simp only [hj, decide_true, Bool.true_and, List.mem_append, List.mem_singleton, Bool.decide_or, Bool.not_or, Bool.and_assoc]).symm
theorem with_zero (zs : List Int) : withN 0 zs = ofL zs := setP_congr fun j _ => by simp

/-! The list of a set. -/
def mem (S : Nat) : List Nat := (List.range 64).filter fun j => S.testBit j
def memI (S : Nat) : List Int := (mem S).map fun j : Nat => (j : Int)
theorem mem_mem {S j : Nat} : j ∈ mem S ↔ j < 64 ∧ S.testBit j = true := by simp [mem]
theorem mem_memI {S j : Nat} : (j : Int) ∈ memI S ↔ j < 64 ∧ S.testBit j = true := by
  rw [memI, List.mem_map]
  constructor
  · rintro ⟨a, ha, e⟩
    obtain rfl : a = j := by omega
    exact mem_mem.1 ha
  · exact fun h => ⟨j, mem_mem.2 h, rfl⟩
theorem memI_range {S : Nat} {z : Int} (h : z ∈ memI S) : 0 ≤ z ∧ z < 64 := by
  rw [memI, List.mem_map] at h
  obtain ⟨a, ha, rfl⟩ := h
  have := (mem_mem.1 ha).1
  omega
theorem mem_le (S : Nat) : (mem S).length ≤ 64 := by have := List.length_filter_le (fun j => S.testBit j) (List.range 64); simpa [mem] using this
theorem memI_len (S : Nat) : (memI S).length = (mem S).length := by simp [memI]
theorem mem_sorted (S : Nat) : (mem S).Pairwise (· < ·) := List.Pairwise.filter _ List.pairwise_lt_range
theorem mem_zero : mem 0 = [] := by simp [mem]
theorem ofL_mem_append {S : Nat} (zs : List Int) : ofL (memI S ++ zs) = withN S zs := setP_congr fun j hj => by
  rw [Bool.eq_iff_iff]
  simp only [decide_eq_true_iff, Bool.or_eq_true, List.mem_append, mem_memI, hj, true_and]
theorem ofL_memI {S : Nat} (h : S < 18446744073709551616) : ofL (memI S) = S := by
  have := ofL_mem_append (S := S) []
  rw [List.append_nil, with_nil h] at this
  exact this
theorem ofL_filter (S : Nat) (zs : List Int) : ofL ((memI S).filter fun z => !decide (z ∈ zs)) = withoutN S zs := setP_congr fun j hj => by
  rw [Bool.eq_iff_iff]
  simp only [decide_eq_true_iff, List.mem_filter, mem_memI, hj, true_and, Bool.and_eq_true]

/-- The sets' parts by a list of nodes. -/
def partN (l : List Nat) : Nat := setP fun j => decide (j ∈ l)
theorem ofL_map (l : List Nat) : ofL (l.map fun j : Nat => (j : Int)) = partN l := setP_congr fun j hj => by
  rw [decide_eq_decide, List.mem_map]
  exact ⟨fun ⟨a, ha, e⟩ => by obtain rfl : a = j := by omega
                              exact ha, fun h => ⟨j, h, rfl⟩⟩

theorem filter_range_split (q : Nat → Bool) (k : Nat) (hk : k < 64) (h : ∀ j, j < k → q j = false) :
    (List.range 64).filter q = (if q k then [k] else []) ++ (List.range' (k + 1) (63 - k)).filter q := by
  have e : List.range 64 = List.range' 0 k ++ (List.range' k 1 ++ List.range' (k + 1) (63 - k)) := by
    rw [List.range'_append_1, show 1 + (63 - k) = 64 - k from by omega]
    have := List.range'_append_1 (s := 0) (m := k) (n := 64 - k)
    rw [show k + (64 - k) = 64 from by omega, Nat.zero_add] at this
    rw [this, List.range_eq_range']
  rw [e, List.filter_append, List.filter_append]
  have h1 : (List.range' 0 k).filter q = [] := by
    rw [List.filter_eq_nil_iff]
    intro a ha
    have := List.mem_range'_1.1 ha
    simp [h a (by omega)]
  rw [h1, List.nil_append]
  congr 1
  simp [List.range'_one, List.filter_cons]

/-- The least node, and what is left without it. -/
theorem least_spec {S : Nat} (h : S < 18446744073709551616) (h0 : S ≠ 0) : Go.Lib.ctz 64 S < 64 ∧ mem S = Go.Lib.ctz 64 S :: mem (S &&& (S - 1)) := by
  obtain ⟨m, hm, hk⟩ := Go.Lib.ctzFrom_spec 64 S (by omega) h
  have hc : Go.Lib.ctz 64 S = Go.Lib.ctzFrom 64 S := by unfold Go.Lib.ctz; rw [if_neg h0]
  rw [hc]
  refine ⟨hk, ?_⟩
  generalize Go.Lib.ctzFrom 64 S = k at hm hk
  have b1 : ∀ j, S.testBit j = if j < k then false else (2 * m + 1).testBit (j - k) := fun j => by
    have := Nat.testBit_two_pow_mul_add (2 * m + 1) (b := 0) (i := k) (Nat.two_pow_pos k) j
    rw [Nat.add_zero, ← hm] at this
    simpa using this
  have b2 : ∀ j, (S - 1).testBit j = if j < k then (2 ^ k - 1).testBit j else (2 * m).testBit (j - k) := fun j => by
    have hp := Nat.two_pow_pos k
    have e : S - 1 = 2 ^ k * (2 * m) + (2 ^ k - 1) := by
      rw [Nat.mul_add, Nat.mul_one] at hm
      omega
    have := Nat.testBit_two_pow_mul_add (2 * m) (b := 2 ^ k - 1) (i := k) (by omega) j
    rw [← e] at this
    exact this
  have b3 : ∀ j, (S &&& (S - 1)).testBit j = if j ≤ k then false else m.testBit (j - k - 1) := fun j => by
    rw [Nat.testBit_and, b1, b2]
    by_cases hj : j < k
    · rw [if_pos hj, if_pos hj, if_pos (by omega), Bool.false_and]
    · rw [if_neg hj, if_neg hj]
      by_cases he : j = k
      · subst he; simp
      · rw [if_neg (by omega)]
        obtain ⟨i, rfl⟩ : ∃ i, j = k + (i + 1) := ⟨j - k - 1, by omega⟩
        rw [show k + (i + 1) - k = i + 1 from by omega, Nat.testBit_succ, Nat.testBit_succ, show (2 * m + 1) / 2 = m from by omega, show 2 * m / 2 = m from by omega]
        simp
  unfold mem
  rw [filter_range_split _ k hk (fun j hj => by rw [b1, if_pos hj]), filter_range_split (fun j => (S &&& (S - 1)).testBit j) k hk (fun j hj => by rw [b3, if_pos (by omega)])]
  rw [show S.testBit k = true from by rw [b1]; simp, show (S &&& (S - 1)).testBit k = false from by rw [b3, if_pos (Nat.le_refl _)]]
  simp only [if_true, Bool.false_eq_true, if_false, List.nil_append, List.singleton_append]
  congr 1
  refine List.filter_congr fun j hj => ?_
  have := List.mem_range'_1.1 hj
  rw [b1, b3, if_neg (by omega), if_neg (by omega)]
  obtain ⟨i, rfl⟩ : ∃ i, j = k + (i + 1) := ⟨j - k - 1, by omega⟩
  rw [show k + (i + 1) - k = i + 1 from by omega, Nat.testBit_succ, show (2 * m + 1) / 2 = m from by omega, show i + 1 - 1 = i from by omega]
def leastN (S : Nat) : Int := if S = 0 then -1 else (Go.Lib.ctz 64 S : Int)
theorem leastN_head {S : Nat} (h : S < 18446744073709551616) : leastN S = (memI S).headD (-1) := by
  unfold leastN
  by_cases h0 : S = 0
  · subst h0; rw [if_pos rfl]; simp [memI, mem_zero]
  · rw [if_neg h0, memI, (least_spec h h0).2]; simp
theorem mem_eq_nil {S : Nat} (h : S < 18446744073709551616) : mem S = [] ↔ S = 0 := by
  constructor
  · intro e
    by_cases h0 : S = 0
    · exact h0
    · rw [(least_spec h h0).2] at e; cases e
  · rintro rfl; exact mem_zero

def restN (S : Nat) : Nat → Nat
  | 0 => S
  | i + 1 => restN S i &&& (restN S i - 1)
theorem rest_lt {S : Nat} (h : S < 18446744073709551616) (i : Nat) : restN S i < 18446744073709551616 := by
  induction i with
  | zero => exact h
  | succ i ih => exact and_lt _ ih
theorem mem_rest {S : Nat} (h : S < 18446744073709551616) (i : Nat) : mem (restN S i) = (mem S).drop i := by
  induction i with
  | zero => rfl
  | succ i ih =>
    rw [restN]
    by_cases h0 : restN S i = 0
    · rw [h0, Nat.zero_and, mem_zero]
      rw [h0, mem_zero] at ih
      have : (mem S).drop (i + 1) = ((mem S).drop i).drop 1 := by rw [List.drop_drop]
      rw [this, ← ih]; rfl
    · have e := (least_spec (rest_lt h i) h0).2
      rw [ih] at e
      have : (mem S).drop (i + 1) = ((mem S).drop i).drop 1 := by rw [List.drop_drop]
      rw [this, e]; rfl
def firstN (S : Nat) (i : Nat) : Nat := partN ((mem S).take i)
theorem first_rest {S : Nat} (h : S < 18446744073709551616) (i : Nat) : andNotN S (restN S i) = firstN S i :=
  eq_setP (andNot_lt _ h) fun j hj => by
    rw [bit_andNot _ (rest_lt h i), Bool.eq_iff_iff]
    simp only [hj, decide_true, Bool.true_and, Bool.and_eq_true, Bool.not_eq_true', decide_eq_true_iff]
    have hr : (restN S i).testBit j = true ↔ j ∈ (mem S).drop i := by rw [← mem_rest h i, mem_mem]; simp [hj]
    have hs : S.testBit j = true ↔ j ∈ mem S := by rw [mem_mem]; simp [hj]
    have hr' : (restN S i).testBit j = false ↔ ¬ j ∈ (mem S).drop i := by rw [← hr]; simp
    rw [hs, hr']
    have hnd : ∀ x ∈ (mem S).take i, ∀ y ∈ (mem S).drop i, x < y := by
      have := mem_sorted S
      rw [← List.take_append_drop i (mem S), List.pairwise_append] at this
      exact this.2.2
    constructor
    · rintro ⟨h1, h2⟩
      rw [← List.take_append_drop i (mem S), List.mem_append] at h1
      exact h1.resolve_right h2
    · intro h1
      exact ⟨List.mem_of_mem_take h1, fun h2 => Nat.lt_irrefl _ (hnd j h1 j h2)⟩
theorem rest_stop {S : Nat} (h : S < 18446744073709551616) {i j : Nat} (h0 : restN S i = 0) (hj : i ≤ j) : firstN S j = firstN S i := by
  have e := mem_rest h i
  rw [h0, mem_zero] at e
  have hl : (mem S).length ≤ i := by simpa using e.symm
  unfold firstN
  rw [List.take_of_length_le hl, List.take_of_length_le (Nat.le_trans hl hj)]
theorem bit_partN {l : List Nat} (hl : ∀ x ∈ l, x < 64) (j : Nat) : (partN l).testBit j = decide (j ∈ l) := by
  rw [partN, bit_setP]
  by_cases h : j ∈ l
  · simp [h, hl j h]
  · simp [h]
theorem mem_partN {l : List Nat} (hl : ∀ x ∈ l, x < 64) (hs : l.Pairwise (· < ·)) : mem (partN l) = l := by
  have h1 : (mem (partN l)).Pairwise (· < ·) := mem_sorted _
  refine List.Perm.eq_of_pairwise (le := (· < ·)) (fun a b _ _ h h' => absurd h (Nat.lt_asymm h')) h1 hs ?_
  refine (List.perm_ext_iff_of_nodup (h1.imp Nat.ne_of_lt) (hs.imp Nat.ne_of_lt)).2 fun a => ?_
  rw [mem_mem, bit_partN hl]
  simp only [decide_eq_true_iff]
  exact ⟨fun h => h.2, fun h => ⟨hl a h, h⟩⟩
theorem mem_lt {S : Nat} : ∀ x ∈ mem S, x < 64 := fun x hx => (mem_mem.1 hx).1
theorem mem_first (S i : Nat) : mem (firstN S i) = (mem S).take i :=
  mem_partN (fun x hx => mem_lt x (List.mem_of_mem_take hx)) ((mem_sorted S).sublist (List.take_sublist i _))

/-! Below a node. -/
def allN (n : Int) : Nat := setP fun j : Nat => decide ((j : Int) < n)
def belowN (S : Nat) (n : Int) : Nat := ((mem S).filter fun j : Nat => decide ((j : Int) < n)).length
theorem mem_and_all (S : Nat) (n : Int) : mem (S &&& allN n) = (mem S).filter fun j : Nat => decide ((j : Int) < n) := by
  unfold mem
  rw [List.filter_filter]
  refine List.filter_congr fun j hj => ?_
  have := List.mem_range.1 hj
  rw [Nat.testBit_and, allN, bit_setP, Bool.and_comm]
  simp [this]
theorem all_pow {n : Nat} (h : n ≤ 64) : allN n = 2 ^ n - 1 :=
  (eq_setP (by have := Nat.pow_le_pow_right (n := 2) (by decide) h; omega) fun j hj => by
    rw [Nat.testBit_two_pow_sub_one, decide_eq_decide]; omega).symm
theorem all_low {n : Int} (h : n ≤ 0) : allN n = 0 := (eq_setP (by omega) fun j hj => by simp; omega).symm
theorem all_high {n : Int} (h : 64 ≤ n) : allN n = 18446744073709551615 := by
  have := all_pow (Nat.le_refl 64)
  rw [show 18446744073709551615 = 2 ^ 64 - 1 from rfl, ← this]
  exact setP_congr fun j hj => by rw [decide_eq_decide]; omega
theorem ofL_upto (n : Int) (k : Nat) (hk : (k : Int) = n ∨ (n < 0 ∧ k = 0) ∨ (100 ≤ n ∧ k = 100)) : ofL ((List.range k).map fun j : Nat => (j : Int)) = allN n := setP_congr fun j hj => by
  rw [decide_eq_decide, List.mem_map]
  constructor
  · rintro ⟨a, ha, e⟩
    have := List.mem_range.1 ha
    omega
  · intro h
    exact ⟨j, List.mem_range.2 (by omega), rfl⟩

/-! Whether a node is in a set. -/
def hasN (S : Nat) (z : Int) : Bool := decide (0 ≤ z) && (decide (z < 64) && S.testBit z.toNat)
theorem has_bit (S : Nat) (z : Int) : (((S &&& bitN z : Nat) : Int) != 0) = hasN S z := by
  unfold hasN bitN
  by_cases h : 0 ≤ z ∧ z < 64
  · rw [if_pos h, nat_bit, Nat.testBit_eq_decide_div_mod_eq]
    simp only [h.1, h.2, decide_true, Bool.true_and]
    have hp := Nat.two_pow_pos z.toNat
    rcases Nat.mod_two_eq_zero_or_one (S / 2 ^ z.toNat) with e | e <;> rw [e]
    · simp
    · rw [Nat.one_mul, Bool.eq_iff_iff, bne_iff_ne]; generalize 2 ^ z.toNat = b at hp; simp; omega
  · rw [if_neg h, Nat.and_zero]
    rw [Bool.eq_iff_iff]; simp; omega
theorem has_div (S : Nat) (z : Int) (h0 : 0 ≤ z) (h1 : z < 64) : ((S : Int) / ((2 ^ z.toNat : Nat) : Int) % 2 == 1) = hasN S z := by
  unfold hasN
  rw [Nat.testBit_eq_decide_div_mod_eq]
  simp only [h0, h1, decide_true, Bool.true_and]
  rw [show (S : Int) / ((2 ^ z.toNat : Nat) : Int) % 2 = ((S / 2 ^ z.toNat % 2 : Nat) : Int) from by simp, Bool.eq_iff_iff, beq_iff_eq, decide_eq_true_iff]
  omega
theorem has_no (S : Nat) (z : Int) (h : ¬ (0 ≤ z ∧ z < 64)) : hasN S z = false := by unfold hasN; rw [Bool.eq_iff_iff]; simp; omega
theorem has_nat (S j : Nat) (h : S < 18446744073709551616) : hasN S j = S.testBit j := by
  unfold hasN
  by_cases hj : j < 64
  · simp; omega
  · simp only [Int.toNat_natCast, bit_hi h (show 64 ≤ j by omega), Bool.and_false]
end Go.Proofs.YtmkdemdeejhonaaDoor.Nodes
