/- Layer 28 (drift), plain: notes, how far their clocks are apart, who is out of pace. -/
import Derived.Test.YtmkdemdeejhonaaDoorNodesM
import Derived.Test.YtmkdemdeejhonaaDoorSpanB
namespace Go.Proofs.YtmkdemdeejhonaaDoor.Drf
open Nodes (mem mem_mem allN hasN has_nat bit_setP)
open Span (clampV fitV fitB divV upV)
set_option linter.unusedVariables false
/-- A tick, or what a clock tells, as it is kept. -/
def kp (x : Int) : Int := clampV x 0 1152921504606846976
theorem kp_bd (x : Int) : 0 ≤ kp x ∧ kp x ≤ 1152921504606846976 := by
  unfold kp clampV
  split
  · omega
  · split <;> omega
/-- A note as it came. -/
structure Nt where
  tick : Int
  l : List Int
  set : Nat
/-- The clocks of it that the list has. -/
def Nt.s (n : Nt) : Nat := n.set &&& allN (n.l.length : Int)
def Nt.t (n : Nt) (i : Nat) : Int := kp (n.l.getD i 0)
def Nt.has (n : Nt) (i : Nat) : Bool := decide (i < n.l.length) && hasN n.set (i : Int)
def nt0 : Nt := ⟨0, [], 0⟩
theorem Nt.t_bd (n : Nt) (i : Nat) : 0 ≤ n.t i ∧ n.t i ≤ 1152921504606846976 := kp_bd _
theorem s_lt {n : Nt} (h : n.set < 18446744073709551616) : n.s < 18446744073709551616 := Nodes.and_lt _ h
theorem has_bit {n : Nt} (h : n.set < 18446744073709551616) {i : Nat} (hi : i < 64) : n.has i = n.s.testBit i := by
  unfold Nt.has Nt.s
  rw [has_nat n.set i h, Nat.testBit_and, allN, bit_setP]
  by_cases h1 : i < n.l.length
  · simp [h1, hi]
  · simp [h1]
theorem s_len {n : Nt} {i : Nat} (h : n.s.testBit i = true) : i < n.l.length := by
  unfold Nt.s at h
  rw [Nat.testBit_and, allN, bit_setP] at h
  simp at h
  omega
theorem mem_has {n : Nt} (h : n.set < 18446744073709551616) {i : Nat} : i ∈ mem n.s ↔ i < 64 ∧ n.has i = true := by
  rw [mem_mem]
  constructor
  · rintro ⟨a, b⟩; exact ⟨a, by rw [has_bit h a]; exact b⟩
  · rintro ⟨a, b⟩; exact ⟨a, by rw [← has_bit h a]; exact b⟩
/-! How far the clocks of a note are apart. -/
/-- What is it, of the pairs below (i, k)? -/
def Gs (n : Nt) (i k : Nat) (v : Int) : Prop :=
  0 ≤ v ∧ v ≤ 1152921504606846976 ∧ (∀ a b, a < 64 → b < 64 → (a < i ∨ a = i ∧ b < k) → n.has a = true → n.has b = true → n.t a - n.t b ≤ v) ∧
    (v = 0 ∨ ∃ a b, a < 64 ∧ b < 64 ∧ n.has a = true ∧ n.has b = true ∧ n.t a - n.t b = v)
theorem Gs.nil (n : Nt) : Gs n 0 0 0 := ⟨by omega, by omega, fun a b _ _ h => by omega, .inl rfl⟩
theorem Gs.row {n : Nt} {i : Nat} {v : Int} (h : Gs n i 64 v) : Gs n (i + 1) 0 v :=
  ⟨h.1, h.2.1, fun a b ha hb hab => h.2.2.1 a b ha hb (by omega), h.2.2.2⟩
theorem Gs.no {n : Nt} {i k : Nat} {v : Int} (h : Gs n i k v) (hno : n.has i = false ∨ n.has k = false ∨ ¬ v < n.t i - n.t k) : Gs n i (k + 1) v := by
  refine ⟨h.1, h.2.1, fun a b ha hb hab h1 h2 => ?_, h.2.2.2⟩
  by_cases hq : a = i ∧ b = k
  · obtain ⟨rfl, rfl⟩ := hq
    rcases hno with h3 | h3 | h3
    · rw [h3] at h1; cases h1
    · rw [h3] at h2; cases h2
    · omega
  · exact h.2.2.1 a b ha hb (by omega) h1 h2
theorem Gs.yes {n : Nt} {i k : Nat} {v : Int} (h : Gs n i k v) (hi : i < 64) (hk : k < 64) (h1 : n.has i = true) (h2 : n.has k = true) (hv : v < n.t i - n.t k) : Gs n i (k + 1) (n.t i - n.t k) := by
  have b1 := n.t_bd i
  have b2 := n.t_bd k
  have := h.1
  refine ⟨by omega, by omega, fun a b ha hb hab h3 h4 => ?_, .inr ⟨i, k, hi, hk, h1, h2, rfl⟩⟩
  by_cases hq : a = i ∧ b = k
  · obtain ⟨rfl, rfl⟩ := hq; omega
  · have := h.2.2.1 a b ha hb (by omega) h3 h4; omega
theorem Gs.one {n : Nt} {u v : Int} (hu : Gs n 64 0 u) (hv : Gs n 64 0 v) : u = v := by
  have h1 : u ≤ v := by
    rcases hu.2.2.2 with h | ⟨a, b, ha, hb, h3, h4, h5⟩
    · have := hv.1; omega
    · have := hv.2.2.1 a b ha hb (.inl ha) h3 h4; omega
  have h2 : v ≤ u := by
    rcases hv.2.2.2 with h | ⟨a, b, ha, hb, h3, h4, h5⟩
    · have := hu.1; omega
    · have := hu.2.2.1 a b ha hb (.inl ha) h3 h4; omega
  omega
/-- The least and the greatest of some clocks, and of one more. -/
def lo (n : Nt) (h : Nat) (l : List Nat) : Int := l.foldl (fun m i => min m (n.t i)) (n.t h)
def hi (n : Nt) (h : Nat) (l : List Nat) : Int := l.foldl (fun m i => max m (n.t i)) (n.t h)
theorem lo_nil (n : Nt) (h : Nat) : lo n h [] = n.t h := rfl
theorem hi_nil (n : Nt) (h : Nat) : hi n h [] = n.t h := rfl
theorem lo_snoc (n : Nt) (h : Nat) (l : List Nat) (i : Nat) : lo n h (l ++ [i]) = min (lo n h l) (n.t i) := by unfold lo; rw [List.foldl_append]; rfl
theorem hi_snoc (n : Nt) (h : Nat) (l : List Nat) (i : Nat) : hi n h (l ++ [i]) = max (hi n h l) (n.t i) := by unfold hi; rw [List.foldl_append]; rfl
theorem lo_spec (n : Nt) (h : Nat) (l : List Nat) : (∀ i ∈ h :: l, lo n h l ≤ n.t i) ∧ ∃ i ∈ h :: l, lo n h l = n.t i := by
  suffices H : ∀ (l : List Nat) (m : Int), (l.foldl (fun m i => min m (n.t i)) m ≤ m ∧ ∀ i ∈ l, l.foldl (fun m i => min m (n.t i)) m ≤ n.t i) ∧ (l.foldl (fun m i => min m (n.t i)) m = m ∨ ∃ i ∈ l, l.foldl (fun m i => min m (n.t i)) m = n.t i) by
    obtain ⟨⟨h1, h2⟩, h3⟩ := H l (n.t h)
    refine ⟨fun i hi => ?_, ?_⟩
    · rcases List.mem_cons.1 hi with rfl | hi
      · exact h1
      · exact h2 i hi
    · rcases h3 with h3 | ⟨i, hi, h3⟩
      · exact ⟨h, by simp, h3⟩
      · exact ⟨i, by simp [hi], h3⟩
  intro l
  induction l with
  | nil => intro m; exact ⟨⟨Int.le_refl _, by simp⟩, .inl rfl⟩
  | cons x l ih =>
    intro m
    obtain ⟨⟨h1, h2⟩, h3⟩ := ih (min m (n.t x))
    rw [List.foldl_cons]
    refine ⟨⟨by omega, fun i hi => ?_⟩, ?_⟩
    · rcases List.mem_cons.1 hi with rfl | hi
      · omega
      · exact h2 i hi
    · rcases h3 with h3 | ⟨i, hi, h3⟩
      · rw [h3]
        by_cases hm : m ≤ n.t x
        · exact .inl (by omega)
        · exact .inr ⟨x, by simp, by omega⟩
      · exact .inr ⟨i, by simp [hi], h3⟩
theorem hi_spec (n : Nt) (h : Nat) (l : List Nat) : (∀ i ∈ h :: l, n.t i ≤ hi n h l) ∧ ∃ i ∈ h :: l, hi n h l = n.t i := by
  suffices H : ∀ (l : List Nat) (m : Int), (m ≤ l.foldl (fun m i => max m (n.t i)) m ∧ ∀ i ∈ l, n.t i ≤ l.foldl (fun m i => max m (n.t i)) m) ∧ (l.foldl (fun m i => max m (n.t i)) m = m ∨ ∃ i ∈ l, l.foldl (fun m i => max m (n.t i)) m = n.t i) by
    obtain ⟨⟨h1, h2⟩, h3⟩ := H l (n.t h)
    refine ⟨fun i hi => ?_, ?_⟩
    · rcases List.mem_cons.1 hi with rfl | hi
      · exact h1
      · exact h2 i hi
    · rcases h3 with h3 | ⟨i, hi, h3⟩
      · exact ⟨h, by simp, h3⟩
      · exact ⟨i, by simp [hi], h3⟩
  intro l
  induction l with
  | nil => intro m; exact ⟨⟨Int.le_refl _, by simp⟩, .inl rfl⟩
  | cons x l ih =>
    intro m
    obtain ⟨⟨h1, h2⟩, h3⟩ := ih (max m (n.t x))
    rw [List.foldl_cons]
    refine ⟨⟨by omega, fun i hi => ?_⟩, ?_⟩
    · rcases List.mem_cons.1 hi with rfl | hi
      · omega
      · exact h2 i hi
    · rcases h3 with h3 | ⟨i, hi, h3⟩
      · rw [h3]
        by_cases hm : n.t x ≤ m
        · exact .inl (by omega)
        · exact .inr ⟨x, by simp, by omega⟩
      · exact .inr ⟨i, by simp [hi], h3⟩
/-- How far they are apart. -/
def gapV (n : Nt) : Int := if n.s = 0 then 0 else hi n (Go.Lib.ctz 64 n.s) (mem n.s) - lo n (Go.Lib.ctz 64 n.s) (mem n.s)
theorem head_mem {S : Nat} (hS : S < 18446744073709551616) (h0 : S ≠ 0) : Go.Lib.ctz 64 S ∈ mem S := by
  rw [(Nodes.least_spec hS h0).2]; simp
theorem lo_bd (n : Nt) (h : Nat) (l : List Nat) : 0 ≤ lo n h l ∧ lo n h l ≤ 1152921504606846976 := by
  obtain ⟨_, i, _, e⟩ := lo_spec n h l
  rw [e]; exact n.t_bd i
theorem hi_bd (n : Nt) (h : Nat) (l : List Nat) : 0 ≤ hi n h l ∧ hi n h l ≤ 1152921504606846976 := by
  obtain ⟨_, i, _, e⟩ := hi_spec n h l
  rw [e]; exact n.t_bd i
theorem lo_hi (n : Nt) (h : Nat) (l : List Nat) : lo n h l ≤ hi n h l := by
  have h1 := (lo_spec n h l).1 h (by simp)
  have h2 := (hi_spec n h l).1 h (by simp)
  omega
theorem gap_is {n : Nt} (hn : n.set < 18446744073709551616) : Gs n 64 0 (gapV n) := by
  have hS := s_lt hn
  unfold gapV
  by_cases h0 : n.s = 0
  · rw [if_pos h0]
    refine ⟨by omega, by omega, fun a b ha hb _ h1 _ => ?_, .inl rfl⟩
    rw [has_bit hn ha, h0] at h1
    simp at h1
  · rw [if_neg h0]
    have hh := head_mem hS h0
    generalize Go.Lib.ctz 64 n.s = h at hh ⊢
    have b1 := lo_bd n h (mem n.s)
    have b2 := hi_bd n h (mem n.s)
    have b3 := lo_hi n h (mem n.s)
    obtain ⟨l1, i, li, l2⟩ := lo_spec n h (mem n.s)
    obtain ⟨g1, k, gk, g2⟩ := hi_spec n h (mem n.s)
    have back : ∀ x, x ∈ h :: mem n.s → x ∈ mem n.s := fun x hx => by
      rcases List.mem_cons.1 hx with rfl | hx
      · exact hh
      · exact hx
    have hi' := (mem_has hn).1 (back i li)
    have hk' := (mem_has hn).1 (back k gk)
    refine ⟨by omega, by omega, fun a b ha hb _ h1 h2 => ?_, .inr ⟨k, i, hk'.1, hi'.1, hk'.2, hi'.2, by omega⟩⟩
    have := l1 b (List.mem_cons_of_mem _ ((mem_has hn).2 ⟨hb, h2⟩))
    have := g1 a (List.mem_cons_of_mem _ ((mem_has hn).2 ⟨ha, h1⟩))
    omega
theorem gap_eq {n : Nt} (hn : n.set < 18446744073709551616) {v : Int} (h : Gs n 64 0 v) : v = gapV n := h.one (gap_is hn)
theorem gap_bd {n : Nt} (hn : n.set < 18446744073709551616) : 0 ≤ gapV n ∧ gapV n ≤ 1152921504606846976 := ⟨(gap_is hn).1, (gap_is hn).2.1⟩
/-! Who is out of pace. -/
/-- Is a clock, that went on by so much in so many ticks? -/
def badB (slow fast ticks went : Int) : Bool := decide (went < ticks * slow) || decide (ticks * fast < went)
theorem fdiv_ge {a b c : Int} (hb : 0 < b) : c ≤ a.fdiv b ↔ b * c ≤ a := by
  rw [Int.fdiv_eq_ediv_of_nonneg _ (by omega), Int.le_ediv_iff_mul_le hb, Int.mul_comm]
theorem pace_div {slow fast ticks went : Int} (ht : 1 ≤ ticks) (ht' : ticks ≤ 1152921504606846976) (h1 : -1152921504606846976 ≤ went) (h2 : went ≤ 1152921504606846976) :
    (decide (slow ≤ divV went ticks) && decide (upV went ticks ≤ fast)) = !badB slow fast ticks went := by
  have e1 : divV went ticks = went.fdiv ticks := by
    unfold divV
    rw [if_neg (by omega)]
    exact (Span.fit_yes _ (Math.fdiv_bd _ _ (by omega) (by omega) (by omega))).1
  have e2 : upV went ticks = Math.cdiv went ticks := by
    unfold upV
    rw [if_neg (by omega)]
    exact (Span.fit_yes _ (Math.cdiv_bd _ _ (by omega) (by omega) (by omega))).1
  rw [e1, e2]
  have f1 : slow ≤ went.fdiv ticks ↔ ticks * slow ≤ went := fdiv_ge (by omega)
  have f2 : Math.cdiv went ticks ≤ fast ↔ went ≤ ticks * fast := by
    unfold Math.cdiv
    have := fdiv_ge (a := -went) (b := ticks) (c := -fast) (by omega)
    rw [Int.mul_neg] at this
    omega
  unfold badB
  rw [Bool.eq_iff_iff]
  simp [f1, f2]
theorem pace_ref {slow fast ticks went : Int} (ht : 1 ≤ ticks) (h1 : -1152921504606846976 ≤ went) (h2 : went ≤ 1152921504606846976) :
    (fitB (ticks * slow) && decide (went < fitV (ticks * slow)) || !fitB (ticks * slow) && decide (0 < slow) || fitB (ticks * fast) && decide (fitV (ticks * fast) < went) || !fitB (ticks * fast) && decide (fast < 0)) = badB slow fast ticks went := by
  unfold badB
  have key : ∀ z : Int, (0 < z → 0 < ticks * z) ∧ (¬ 0 < z → ticks * z ≤ 0) ∧ (z < 0 → ticks * z < 0) ∧ (¬ z < 0 → 0 ≤ ticks * z) := fun z =>
    ⟨fun h => Int.mul_pos (by omega) h, fun h => Int.mul_nonpos_of_nonneg_of_nonpos (by omega) (by omega), fun h => Int.mul_neg_of_pos_of_neg (by omega) h, fun h => Int.mul_nonneg (by omega) (by omega)⟩
  have e1 : (fitB (ticks * slow) && decide (went < fitV (ticks * slow)) || !fitB (ticks * slow) && decide (0 < slow)) = decide (went < ticks * slow) := by
    by_cases hf : -9223372036854775808 ≤ ticks * slow ∧ ticks * slow ≤ 9223372036854775807
    · rw [(Span.fit_yes _ hf).1, (Span.fit_yes _ hf).2]; simp
    · rw [(Span.fit_no _ hf).2]
      obtain ⟨k1, k2, _, _⟩ := key slow
      by_cases hs : 0 < slow
      · have := k1 hs
        simp [hs]; omega
      · have := k2 hs
        simp [hs]; omega
  have e2 : (fitB (ticks * fast) && decide (fitV (ticks * fast) < went) || !fitB (ticks * fast) && decide (fast < 0)) = decide (ticks * fast < went) := by
    by_cases hf : -9223372036854775808 ≤ ticks * fast ∧ ticks * fast ≤ 9223372036854775807
    · rw [(Span.fit_yes _ hf).1, (Span.fit_yes _ hf).2]; simp
    · rw [(Span.fit_no _ hf).2]
      obtain ⟨_, _, k3, k4⟩ := key fast
      by_cases hs : fast < 0
      · have := k3 hs
        simp [hs]; omega
      · have := k4 hs
        simp [hs]; omega
  rw [Bool.or_assoc, e1, e2]
/-- Is a clock out of pace from one note to the next one? -/
def outB (a b : Nt) (slow fast : Int) (i : Nat) : Bool := badB slow fast (kp b.tick - kp a.tick) (b.t i - a.t i)
def lateN (a b : Nt) (slow fast : Int) : Nat := if kp b.tick - kp a.tick < 1 then 0 else ((mem (b.s &&& a.s)).filter (outB a b slow fast)).length
/-- The first so many, as the document counts them. -/
def lateK (a b : Nt) (slow fast : Int) (k : Nat) : Nat := ((List.range k).filter fun i => a.has i && b.has i && outB a b slow fast i).length
theorem lateK_zero (a b : Nt) (slow fast : Int) : lateK a b slow fast 0 = 0 := rfl
theorem lateK_le (a b : Nt) (slow fast : Int) (k : Nat) : lateK a b slow fast k ≤ k := by
  unfold lateK
  have := List.length_filter_le (fun i => a.has i && b.has i && outB a b slow fast i) (List.range k)
  simpa using this
theorem lateK_yes {a b : Nt} {slow fast : Int} {k : Nat} (h : (a.has k && b.has k && outB a b slow fast k) = true) : lateK a b slow fast (k + 1) = lateK a b slow fast k + 1 := by
  unfold lateK
  rw [List.range_succ, List.filter_append, List.length_append, List.filter_cons_of_pos (by simpa using h)]
  rfl
theorem lateK_no {a b : Nt} {slow fast : Int} {k : Nat} (h : (a.has k && b.has k && outB a b slow fast k) = false) : lateK a b slow fast (k + 1) = lateK a b slow fast k := by
  unfold lateK
  rw [List.range_succ, List.filter_append, List.length_append, List.filter_cons_of_neg (by simpa using h)]
  rfl
theorem late_eq {a b : Nt} (ha : a.set < 18446744073709551616) (hb : b.set < 18446744073709551616) {slow fast : Int} (ht : ¬ kp b.tick - kp a.tick < 1) : lateK a b slow fast 64 = lateN a b slow fast := by
  unfold lateK lateN
  rw [if_neg ht]
  unfold mem
  rw [List.filter_filter]
  congr 1
  refine List.filter_congr fun i hi => ?_
  rw [has_bit ha (List.mem_range.1 hi), has_bit hb (List.mem_range.1 hi), Nat.testBit_and]
  cases a.s.testBit i <;> cases b.s.testBit i <;> simp
theorem late_no {a b : Nt} {slow fast : Int} (ht : kp b.tick - kp a.tick < 1) : lateN a b slow fast = 0 := by unfold lateN; rw [if_pos ht]
theorem late_le (a b : Nt) (slow fast : Int) : lateN a b slow fast ≤ 64 := by
  unfold lateN
  split
  · omega
  · exact Nat.le_trans (List.length_filter_le _ _) (Nodes.mem_le _)
/-- How many of some clocks are. -/
def lateL (a b : Nt) (slow fast : Int) (l : List Nat) : Nat := (l.filter (outB a b slow fast)).length
theorem lateL_snoc (a b : Nt) (slow fast : Int) (l : List Nat) (i : Nat) : lateL a b slow fast (l ++ [i]) = lateL a b slow fast l + (if outB a b slow fast i then 1 else 0) := by
  unfold lateL
  rw [List.filter_append, List.length_append]
  by_cases h : outB a b slow fast i <;> simp [h]
end Go.Proofs.YtmkdemdeejhonaaDoor.Drf
