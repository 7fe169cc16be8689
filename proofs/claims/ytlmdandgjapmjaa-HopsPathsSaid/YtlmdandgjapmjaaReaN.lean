/- Rings round a node as sets, the list of all distances, balls (layer 17): plain mathematics. -/
import Derived.Test.YtlmdandgjapmjaaReaM
namespace Go.Proofs.Ytlmdandgjapmjaa.Rea
open Grf (Pr lk lk_comm nearP Ok lk_range)
open Nodes (setP bit_setP setP_lt setP_congr eq_setP andNotN andNot_lt bit_andNot ofL allN eq_of_bits mem mem_mem)
set_option linter.unusedVariables false
/-- A number as a node: 64, which is none, for what lies outside. -/
def src (z : Int) : Nat := if 0 ≤ z ∧ z < 64 then z.toNat else 64
theorem src_nat {k : Nat} (h : k < 64) : src (k : Int) = k := by unfold src; rw [if_pos (by omega)]; omega
theorem src_out {z : Int} (h : ¬ (0 ≤ z ∧ z < 64)) : src z = 64 := by unfold src; rw [if_neg h]
theorem here_src {n S : Nat} (hn : n ≤ 64) (z : Int) : hereB n S (src z) = (decide (0 ≤ z) && (decide (z < (n : Int)) && !S.testBit z.toNat)) := by
  by_cases h : 0 ≤ z ∧ z < 64
  · obtain ⟨k, rfl⟩ := Int.eq_ofNat_of_zero_le h.1
    rw [src_nat (by omega), hereB, Bool.eq_iff_iff]
    simp
  · rw [src_out h, hereB, Bool.eq_iff_iff]
    simp
    omega
def leftN (n S : Nat) : Nat := andNotN (allN (n : Int)) S
theorem left_lt (n S : Nat) : leftN n S < 18446744073709551616 := andNot_lt _ (setP_lt _)
theorem bit_left {n S : Nat} (hn : n ≤ 64) (hS : S < 18446744073709551616) (j : Nat) : (leftN n S).testBit j = hereB n S j := by
  rw [leftN, bit_andNot _ hS, allN, bit_setP, hereB, Bool.eq_iff_iff]
  simp only [Bool.and_eq_true, decide_eq_true_iff, Bool.not_eq_true']
  exact ⟨fun h => ⟨by omega, h.2.2⟩, fun h => ⟨⟨by omega, by omega⟩, by omega, h.2⟩⟩
section
variable (n S : Nat) (L : List Pr) (i : Nat)
def ringN (k : Nat) : Nat := setP fun x => dst n S L i x == (k : Int)
def restN (k : Nat) : Nat := setP fun x => hereB n S x && !(decide (0 ≤ dst n S L i x) && decide (dst n S L i x < (k : Int)))
def aboutL (L : List Pr) (ys : List Nat) : Nat := setP fun x => ys.any fun y => lk L (y : Int) (x : Int)
def ringsL (c : Nat) : List Nat := (List.range c).map (ringN n S L i)
/-- How many rings there are. -/
def IsCnt (c : Nat) : Prop := (∀ x, dst n S L i x < (c : Int)) ∧ ∀ k, k < c → ∃ x, dst n S L i x = (k : Int)
def farL (p : Nat → Bool) : List Int := (List.range n).map fun x => if p x then dst n S L i x else -1
def ballK (most : Int) (k : Nat) : Nat := setP fun x => decide (0 ≤ dst n S L i x) && (decide (dst n S L i x < (k : Int)) && decide (dst n S L i x ≤ most))
def ballN (most : Int) : Nat := setP fun x => decide (0 ≤ dst n S L i x) && decide (dst n S L i x ≤ most)
def fromN : Nat := setP fun x => decide (0 ≤ dst n S L i x)
def dstL : List Int := (List.range n).map (dst n S L i)
end
section
variable {n S : Nat} {L : List Pr} {i : Nat}
theorem ring_lt (k : Nat) : ringN n S L i k < 18446744073709551616 := setP_lt _
theorem rest_lt (k : Nat) : restN n S L i k < 18446744073709551616 := setP_lt _
theorem about_lt (ys : List Nat) : aboutL L ys < 18446744073709551616 := setP_lt _
theorem here64 (hn : n ≤ 64) {x : Nat} (h : hereB n S x = true) : x < 64 := Nat.lt_of_lt_of_le (here_lt h) hn
theorem dst64 (hn : n ≤ 64) {x : Nat} (h : 0 ≤ dst n S L i x) : x < 64 := here64 hn (dst_here h).1
theorem bit_ring (hn : n ≤ 64) (k x : Nat) : (ringN n S L i k).testBit x = (dst n S L i x == (k : Int)) := by
  rw [ringN, bit_setP, Bool.eq_iff_iff, Bool.and_eq_true, decide_eq_true_iff]
  exact ⟨fun h => h.2, fun h => ⟨dst64 hn (by rw [beq_iff_eq.1 h]; omega), h⟩⟩
theorem rest_zero (hn : n ≤ 64) (hS : S < 18446744073709551616) : restN n S L i 0 = leftN n S := by
  refine (eq_setP (left_lt n S) fun j hj => ?_).symm
  rw [bit_left hn hS, Bool.eq_iff_iff]
  simp only [Bool.and_eq_true, Bool.not_eq_true', Bool.and_eq_false_iff, decide_eq_false_iff_not]
  exact ⟨fun h => ⟨h, by omega⟩, fun h => h.1⟩
theorem rest_succ (hn : n ≤ 64) (k : Nat) : andNotN (restN n S L i k) (ringN n S L i k) = restN n S L i (k + 1) := by
  refine eq_setP (andNot_lt _ (rest_lt k)) fun j hj => ?_
  rw [bit_andNot _ (ring_lt k), bit_ring hn, restN, bit_setP, Bool.eq_iff_iff]
  simp only [Bool.and_eq_true, Bool.not_eq_true', Bool.and_eq_false_iff, decide_eq_true_iff, decide_eq_false_iff_not, beq_eq_false_iff_ne]
  exact ⟨fun ⟨⟨_, h1, h2⟩, _, h3⟩ => ⟨h1, by omega⟩, fun ⟨h1, h2⟩ => ⟨⟨hj, h1, by omega⟩, hj, by omega⟩⟩
theorem ring_zero (hn : n ≤ 64) (hS : S < 18446744073709551616) (z : Int) : ofL [z] &&& leftN n S = ringN n S L (src z) 0 := by
  refine eq_setP (Nat.lt_of_le_of_lt Nat.and_le_left (setP_lt _)) fun j hj => ?_
  rw [Nat.testBit_and, bit_left hn hS, ofL, bit_setP, Bool.eq_iff_iff]
  simp only [Bool.and_eq_true, decide_eq_true_iff, List.mem_singleton, beq_iff_eq, Int.natCast_zero, dst_zero]
  constructor
  · rintro ⟨⟨-, rfl⟩, h⟩
    exact ⟨src_nat hj, h⟩
  · rintro ⟨h, h2⟩
    refine ⟨⟨hj, ?_⟩, h2⟩
    by_cases hz : 0 ≤ z ∧ z < 64
    · unfold src at h
      rw [if_pos hz] at h
      omega
    · rw [src_out hz] at h
      omega
theorem ring_succ (hn : n ≤ 64) (k : Nat) : aboutL L (mem (ringN n S L i k)) &&& restN n S L i (k + 1) = ringN n S L i (k + 1) := by
  refine eq_setP (Nat.lt_of_le_of_lt Nat.and_le_left (about_lt _)) fun j hj => ?_
  rw [Nat.testBit_and, aboutL, restN, bit_setP, bit_setP, Bool.eq_iff_iff, beq_iff_eq, dst_step]
  simp only [Bool.and_eq_true, decide_eq_true_iff, List.any_eq_true, Bool.not_eq_true', Bool.and_eq_false_iff, decide_eq_false_iff_not]
  constructor
  · rintro ⟨⟨-, y, hy, hl⟩, -, h1, h2⟩
    refine ⟨⟨h1, by omega⟩, y, ?_, hl⟩
    have := (mem_mem.1 hy).2
    rw [bit_ring hn, beq_iff_eq] at this
    exact this
  · rintro ⟨⟨h1, h2⟩, y, hy, hl⟩
    refine ⟨⟨hj, y, mem_mem.2 ⟨dst64 (S := S) (L := L) (i := i) hn (by omega), ?_⟩, hl⟩, hj, h1, by omega⟩
    rw [bit_ring hn, beq_iff_eq]
    exact hy
theorem about_nil : aboutL L [] = 0 := by
  refine (eq_setP (by omega) fun j hj => by simp).symm
theorem about_snoc (ys : List Nat) (y : Nat) : aboutL L ys ||| nearP L (y : Int) = aboutL L (ys ++ [y]) := by
  refine eq_setP (Nodes.or_lt (about_lt _) (Grf.near_lt _ _)) fun j hj => ?_
  rw [Nat.testBit_or, aboutL, nearP, bit_setP, bit_setP, List.any_append, Bool.eq_iff_iff]
  simp [hj]
theorem mind_down {k : Nat} : ∀ {m x : Nat}, k ≤ m → mind n S L i m x → ∃ y, mind n S L i k y
  | 0, x, h, hm => ⟨x, by obtain rfl : k = 0 := by omega
                          exact hm⟩
  | m + 1, x, h, hm => by
    by_cases he : k = m + 1
    · exact ⟨x, by rw [he]; exact hm⟩
    · obtain ⟨y, h1, _⟩ := mind_prev hm
      exact mind_down (by omega) h1
theorem ring_none (hn : n ≤ 64) {k : Nat} (h : ringN n S L i k = 0) (x : Nat) : dst n S L i x < (k : Int) := by
  rcases dst_cases (n := n) (S := S) (L := L) i x with ⟨h1, _⟩ | ⟨m, h1, h2, _⟩
  · omega
  · rcases Nat.lt_or_ge m k with hlt | hge
    · omega
    · obtain ⟨y, hy⟩ := mind_down hge h2
      have := bit_ring (S := S) (L := L) (i := i) hn k y
      rw [h, Nat.zero_testBit, dst_some hy] at this
      simp at this
theorem ring_some (hn : n ≤ 64) {k : Nat} (h : ringN n S L i k ≠ 0) : ∃ x, dst n S L i x = (k : Int) := by
  obtain ⟨x, hx⟩ := Nat.exists_testBit_of_ne_zero h
  rw [bit_ring hn, beq_iff_eq] at hx
  exact ⟨x, hx⟩
theorem cnt_le {c : Nat} (h : IsCnt n S L i c) : c ≤ n := by
  cases c with
  | zero => omega
  | succ c =>
    obtain ⟨x, hx⟩ := h.2 c (by omega)
    have := dst_hi (n := n) (S := S) (L := L) i x (by omega)
    omega
theorem rings_snoc (k : Nat) : ringsL n S L i (k + 1) = ringsL n S L i k ++ [ringN n S L i k] := by simp [ringsL, List.range_succ]
theorem rings_len (k : Nat) : (ringsL n S L i k).length = k := by simp [ringsL]
theorem rings_at {k c : Nat} (h : k < c) : (ringsL n S L i c).getD k 0 = ringN n S L i k := by simp [ringsL, h]
theorem cnt_made (hn : n ≤ 64) {c : Nat} (h0 : ringN n S L i c = 0) (h : ∀ k, k < c → ringN n S L i k ≠ 0) : IsCnt n S L i c := ⟨ring_none hn h0, fun k hk => ring_some hn (h k hk)⟩
theorem far_len (p : Nat → Bool) : (farL n S L i p).length = n := by simp [farL]
theorem far_none : farL n S L i (fun _ => false) = List.replicate n (-1) := by
  apply List.ext_getElem?
  intro j
  by_cases hj : j < n <;> simp [farL, hj]
theorem far_set (p : Nat → Bool) (x : Nat) : (farL n S L i p).set x (dst n S L i x) = farL n S L i (fun y => p y || decide (y = x)) := by
  apply List.ext_getElem?
  intro j
  rw [List.getElem?_set]
  by_cases hj : j < n
  · by_cases hx : x = j
    · subst hx; simp [farL, hj]
    · have : ¬ j = x := fun e => hx e.symm
      simp [farL, hj, hx, this]
  · by_cases hx : x = j
    · subst hx; simp [farL, hj]
    · simp [farL, hj, hx]
theorem far_congr {p q : Nat → Bool} (h : ∀ x, x < n → p x = q x ∨ dst n S L i x = -1) : farL n S L i p = farL n S L i q := by
  unfold farL
  refine List.map_congr_left fun x hx => ?_
  rcases h x (List.mem_range.1 hx) with h | h
  · rw [h]
  · rw [h]; split <;> split <;> rfl
def upK (k : Nat) (x : Nat) : Bool := decide (0 ≤ dst n S L i x) && decide (dst n S L i x < (k : Int))
theorem far_ring (hn : n ≤ 64) (k : Nat) : farL n S L i (fun x => upK (n := n) (S := S) (L := L) (i := i) k x || decide (x ∈ mem (ringN n S L i k))) = farL n S L i (upK (n := n) (S := S) (L := L) (i := i) (k + 1)) := by
  refine far_congr fun x hx => .inl ?_
  have hb : decide (x ∈ mem (ringN n S L i k)) = (dst n S L i x == (k : Int)) := by
    rw [Bool.eq_iff_iff, decide_eq_true_iff, mem_mem, bit_ring hn]
    exact ⟨fun h => h.2, fun h => ⟨by omega, h⟩⟩
  rw [hb, upK, upK, Bool.eq_iff_iff]
  simp only [Bool.or_eq_true, Bool.and_eq_true, decide_eq_true_iff, beq_iff_eq]
  omega
theorem far_zero : farL n S L i (upK (n := n) (S := S) (L := L) (i := i) 0) = List.replicate n (-1) := by
  rw [← far_none (S := S) (L := L) (i := i)]
  refine far_congr fun x hx => .inl ?_
  unfold upK
  rw [Bool.and_eq_false_iff, decide_eq_false_iff_not, decide_eq_false_iff_not]
  omega
theorem far_all {c : Nat} (h : ∀ x, dst n S L i x < (c : Int)) : farL n S L i (upK (n := n) (S := S) (L := L) (i := i) c) = dstL n S L i := by
  unfold farL dstL
  refine List.map_congr_left fun x hx => ?_
  have := h x
  have := dst_lo (n := n) (S := S) (L := L) i x
  unfold upK
  by_cases h0 : 0 ≤ dst n S L i x
  · simp [*]
  · simp [h0]; omega
theorem dst_len : (dstL n S L i).length = n := by simp [dstL]
theorem dstL_at {k : Nat} (h : k < n) : (dstL n S L i).getD k 0 = dst n S L i k := by simp [dstL, h]
theorem ballK_lt (most : Int) (k : Nat) : ballK n S L i most k < 18446744073709551616 := setP_lt _
theorem ballN_lt (most : Int) : ballN n S L i most < 18446744073709551616 := setP_lt _
theorem fromN_lt : fromN n S L i < 18446744073709551616 := setP_lt _
theorem ball_zero (most : Int) : ballK n S L i most 0 = 0 := by
  refine (eq_setP (by omega) fun j hj => ?_).symm
  rw [Nat.zero_testBit, Eq.comm, Bool.eq_false_iff]
  simp
  omega
theorem ball_hit (hn : n ≤ 64) {most : Int} {k : Nat} (h : (k : Int) ≤ most) : ballK n S L i most k ||| ringN n S L i k = ballK n S L i most (k + 1) := by
  refine eq_setP (Nodes.or_lt (ballK_lt _ _) (ring_lt _)) fun j hj => ?_
  rw [Nat.testBit_or, ballK, bit_setP, bit_ring hn, Bool.eq_iff_iff]
  simp only [Bool.or_eq_true, Bool.and_eq_true, decide_eq_true_iff, beq_iff_eq]
  omega
theorem ball_miss {most : Int} {k : Nat} (h : ¬ (k : Int) ≤ most) : ballK n S L i most k = ballK n S L i most (k + 1) := by
  refine setP_congr fun j hj => ?_
  rw [Bool.eq_iff_iff]
  simp only [Bool.and_eq_true, decide_eq_true_iff]
  omega
theorem ball_all {most : Int} {c : Nat} (h : ∀ x, dst n S L i x < (c : Int)) : ballK n S L i most c = ballN n S L i most := by
  refine setP_congr fun j hj => ?_
  have := h j
  rw [Bool.eq_iff_iff]
  simp only [Bool.and_eq_true, decide_eq_true_iff]
  omega
theorem ball_from {most : Int} (h : (n : Int) ≤ most) : ballN n S L i most = fromN n S L i := by
  refine setP_congr fun j hj => ?_
  rw [Bool.eq_iff_iff]
  simp only [Bool.and_eq_true, decide_eq_true_iff]
  constructor
  · exact fun h => h.1
  · intro h0
    have := dst_hi (n := n) (S := S) (L := L) i j h0
    omega
theorem bit_from (hn : n ≤ 64) (x : Nat) : (fromN n S L i).testBit x = decide (0 ≤ dst n S L i x) := by
  rw [fromN, bit_setP, Bool.eq_iff_iff, Bool.and_eq_true, decide_eq_true_iff, decide_eq_true_iff]
  exact ⟨fun h => h.2, fun h => ⟨dst64 hn h, h⟩⟩
/-- Whole: there is a node that is there, and each is reached from each. -/
def wholeP (n S : Nat) (L : List Pr) : Prop := (∃ x, hereB n S x = true) ∧ ∀ x y, hereB n S x = true → hereB n S y = true → 0 ≤ dst n S L x y
theorem dst_trans {x y z : Nat} (h1 : 0 ≤ dst n S L x y) (h2 : 0 ≤ dst n S L y z) : 0 ≤ dst n S L x z := by
  rcases dst_cases (n := n) (S := S) (L := L) x y with ⟨h3, _⟩ | ⟨k, _, hk, _⟩
  · omega
  rcases dst_cases (n := n) (S := S) (L := L) y z with ⟨h3, _⟩ | ⟨m, _, hm, _⟩
  · omega
  obtain ⟨j, _, hj⟩ := mind_of (wk_add hk.1 hm.1)
  rw [dst_some hj]
  omega
theorem whole_from (hn : n ≤ 64) (hS : S < 18446744073709551616) {s : Nat} (hs : hereB n S s = true) : fromN n S L s = leftN n S ↔ wholeP n S L := by
  constructor
  · intro h
    have h1 : ∀ x, hereB n S x = true → 0 ≤ dst n S L s x := fun x hx => by
      have := bit_left hn hS x
      rw [← h, bit_from hn, hx, decide_eq_true_iff] at this
      exact this
    exact ⟨⟨s, hs⟩, fun x y hx hy => dst_trans (y := s) (by rw [dst_comm]; exact h1 x hx) (h1 y hy)⟩
  · rintro ⟨_, h⟩
    refine eq_of_bits fromN_lt (left_lt n S) fun j hj => ?_
    rw [bit_from hn, bit_left hn hS, Bool.eq_iff_iff, decide_eq_true_iff]
    exact ⟨fun h => (dst_here h).1, fun hj => h s j hs hj⟩
theorem left_zero (hn : n ≤ 64) (hS : S < 18446744073709551616) : leftN n S = 0 ↔ ∀ x, hereB n S x = false := by
  constructor
  · intro h x
    have := bit_left hn hS x
    rw [h, Nat.zero_testBit] at this
    exact this.symm
  · intro h
    refine eq_of_bits (left_lt n S) (by omega) fun j hj => ?_
    rw [bit_left hn hS, h, Nat.zero_testBit]
/-- How wide: the greatest distance of two that are there; -1 if it is not whole. -/
def IsWide (n S : Nat) (L : List Pr) (v : Int) : Prop :=
  (¬ wholeP n S L ∧ v = -1) ∨ (wholeP n S L ∧ (∃ x y, hereB n S x = true ∧ hereB n S y = true ∧ dst n S L x y = v) ∧ ∀ x y, hereB n S x = true → hereB n S y = true → dst n S L x y ≤ v)
theorem wide_eq {v u : Int} (h1 : IsWide n S L v) (h2 : IsWide n S L u) : v = u := by
  rcases h1 with ⟨a, rfl⟩ | ⟨a, ⟨x, y, hx, hy, rfl⟩, b⟩
  · rcases h2 with ⟨c, rfl⟩ | ⟨c, _⟩
    · rfl
    · exact absurd c a
  · rcases h2 with ⟨c, rfl⟩ | ⟨c, ⟨x', y', hx', hy', rfl⟩, d⟩
    · exact absurd a c
    · have := b x' y' hx' hy'
      have := d x y hx hy
      omega
end
end Go.Proofs.Ytlmdandgjapmjaa.Rea
