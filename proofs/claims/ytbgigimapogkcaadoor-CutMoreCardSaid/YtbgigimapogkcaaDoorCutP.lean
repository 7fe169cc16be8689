/- Plain: the first set that cuts, how safe a graph is, what a link more makes of it. -/
import Derived.Test.YtbgigimapogkcaaDoorCutG
namespace Go.Proofs.YtbgigimapogkcaaDoor.Cut
open Nodes (mem)
open Grf (Pr Ok lk nearP nearL)
open Rea (wholeB wholeP wholeB_iff hereB here_iff adj adj_iff wk wk_zero wk_succ wk_src wk_here wk_one wk_back mind mind_prev dst dst_iff dst_cases dst_zero dst_comm)
set_option linter.unusedVariables false
set_option linter.unusedSimpArgs false
theorem whole_false {n s : Nat} {L : List Pr} : wholeB n s L = false ↔ ¬ wholeP n s L := by
  rw [← wholeB_iff]; simp
theorem upTo_sorted (n : Nat) : ∀ m, (upTo n m).Pairwise fun a b => cnt a ≤ cnt b
  | 0 => by simp [upTo]
  | m + 1 => by
    rw [upTo_succ, List.pairwise_append]
    refine ⟨upTo_sorted n m, ?_, fun a ha b hb => ?_⟩
    · refine List.Pairwise.imp_of_mem (R := fun _ _ => True) (fun ha hb _ => ?_) (List.pairwise_of_forall fun _ _ => trivial)
      rw [(mem_sets.1 ha).2, (mem_sets.1 hb).2]
      exact Nat.le_refl _
    · have := (mem_upTo.1 ha).2
      have := (mem_sets.1 hb).2
      omega
section
variable {n : Nat} {L : List Pr} {f : Int}
theorem many_iff {s : Nat} (hn : n ≤ 64) (hs : s < 2 ^ n) : cnt s < manyN n (min f 3) ↔ (cnt s : Int) ≤ min f 3 := by
  have := cnt_le hs hn
  unfold manyN
  omega
theorem firstO_none (hn : n ≤ 64) : firstO n L f = none ↔ ∀ s, s < 2 ^ n → (cnt s : Int) ≤ min f 3 → wholeP n s L := by
  unfold firstO
  rw [List.find?_eq_none]
  constructor
  · intro h s hs hc
    have := h s (mem_upTo.2 ⟨hs, (many_iff hn hs).2 hc⟩)
    rw [Bool.not_eq_true', Bool.not_eq_false] at this
    exact wholeB_iff.1 this
  · intro h s hs
    obtain ⟨h1, h2⟩ := mem_upTo.1 hs
    rw [wholeB_iff.2 (h s h1 ((many_iff hn h1).1 h2))]
    simp
theorem firstO_some (hn : n ≤ 64) {s : Nat} (h : firstO n L f = some s) : s < 2 ^ n ∧ (cnt s : Int) ≤ min f 3 ∧ ¬ wholeP n s L ∧ ∀ t, t < 2 ^ n → cnt t < cnt s → wholeP n t L := by
  unfold firstO at h
  have hm := mem_upTo.1 (List.mem_of_find?_eq_some h)
  have hp := List.find?_some h
  refine ⟨hm.1, (many_iff hn hm.1).1 hm.2, whole_false.1 (by simpa using hp), fun t ht hct => ?_⟩
  obtain ⟨_, l1, l2, e, hno⟩ := List.find?_eq_some_iff_append.1 h
  have hin : t ∈ upTo n (manyN n (min f 3)) := mem_upTo.2 ⟨ht, by omega⟩
  have hs := upTo_sorted n (manyN n (min f 3))
  rw [e] at hin hs
  rcases List.mem_append.1 hin with h1 | h1
  · have := hno t h1
    simp at this
    exact wholeB_iff.1 this
  · exfalso
    rcases List.mem_cons.1 h1 with rfl | h2
    · omega
    · have := (List.pairwise_cons.1 (List.pairwise_append.1 hs).2.1).1 t h2
      omega
theorem all_cut (n : Nat) (L : List Pr) : ¬ wholeP n (2 ^ n - 1) L := by
  rintro ⟨⟨x, hx⟩, -⟩
  obtain ⟨h1, h2⟩ := here_iff.1 hx
  rw [Nat.testBit_two_pow_sub_one] at h2
  simp at h2
  omega
/-- Is it safe of f? -/
noncomputable def safeB (n : Nat) (L : List Pr) (f : Int) : Bool := (firstO n L f).isNone && (decide (0 ≤ f) && decide (f ≤ 3))
theorem few_cut (hn : n ≤ 64) (h0 : 0 ≤ f) (h3 : f ≤ 3) (h : (n : Int) ≤ f) : firstO n L f ≠ none := fun he => by
  have := (firstO_none hn).1 he (2 ^ n - 1) (by have := two_pos n; omega) (by rw [cnt_ones hn]; omega)
  exact all_cut n L this
theorem safe_iff (hn : n ≤ 64) : safeB n L f = true ↔ 0 ≤ f ∧ f ≤ 3 ∧ ∀ s, s < 2 ^ n → (cnt s : Int) ≤ f → wholeP n s L := by
  unfold safeB
  rw [Bool.and_eq_true, Bool.and_eq_true, decide_eq_true_eq, decide_eq_true_eq, Option.isNone_iff_eq_none, firstO_none hn]
  constructor
  · rintro ⟨h1, h2, h3⟩
    exact ⟨h2, h3, fun s hs hc => h1 s hs (by omega)⟩
  · rintro ⟨h2, h3, h1⟩
    exact ⟨fun s hs hc => h1 s hs (by omega), h2, h3⟩
theorem safe_less (hn : n ≤ 64) {g : Int} (h : safeB n L f = true) (h0 : 0 ≤ g) (hg : g ≤ f) : safeB n L g = true := by
  obtain ⟨h1, h2, h3⟩ := (safe_iff hn).1 h
  exact (safe_iff hn).2 ⟨h0, by omega, fun s hs hc => h3 s hs (by omega)⟩
/-- How many may fail. -/
noncomputable def strP (n : Nat) (L : List Pr) : Int := match firstO n L 3 with | none => 3 | some s => (cnt s : Int) - 1
/-- The greatest one below k that it is safe of. -/
noncomputable def mostK (n : Nat) (L : List Pr) : Nat → Int
  | 0 => -1
  | k + 1 => if safeB n L (k : Int) = true then (k : Int) else mostK n L k
theorem most_str (hn : n ≤ 64) : mostK n L 4 = strP n L := by
  unfold strP
  cases h : firstO n L 3 with
  | none =>
    have h3 : safeB n L 3 = true := (safe_iff hn).2 ⟨by omega, by omega, fun s hs hc => (firstO_none hn).1 h s hs (by omega)⟩
    simp [mostK, h3]
  | some s =>
    obtain ⟨h1, h2, h3, h4⟩ := firstO_some hn h
    have hs : ∀ k : Nat, k ≤ 3 → (safeB n L (k : Int) = true ↔ k < cnt s) := fun k hk => by
      rw [safe_iff hn]
      constructor
      · rintro ⟨_, _, h7⟩
        rcases Nat.lt_or_ge k (cnt s) with h' | h'
        · exact h'
        · exact absurd (h7 s h1 (by omega)) h3
      · intro h'
        exact ⟨by omega, by omega, fun t ht hc => h4 t ht (by omega)⟩
    have e : ∀ k : Nat, k ≤ 4 → mostK n L k = (min k (cnt s) : Int) - 1 := by
      intro k
      induction k with
      | zero => intro _; simp [mostK]; omega
      | succ k ih =>
        intro hk
        rw [mostK]
        by_cases hks : safeB n L (k : Int) = true
        · rw [if_pos hks]
          have := (hs k (by omega)).1 hks
          omega
        · rw [if_neg hks, ih (by omega)]
          have : ¬ k < cnt s := fun h' => hks ((hs k (by omega)).2 h')
          omega
    have := e 4 (by omega)
    simp only [this]
    omega
theorem near_mem (hn : n ≤ 64) (hok : Ok n L) (i : Int) : mem (nearP L i) = (List.range n).filter fun j => lk L i (j : Nat) := by
  unfold mem
  have e : (List.range 64) = List.range n ++ List.range' n (64 - n) := by
    have := List.range'_append_1 (s := 0) (m := n) (n := 64 - n)
    rw [Nat.zero_add, show n + (64 - n) = 64 by omega] at this
    rw [List.range_eq_range', List.range_eq_range', this]
  have h2 : (List.range' n (64 - n)).filter (fun j => (nearP L i).testBit j) = [] := by
    rw [List.filter_eq_nil_iff]
    intro j hj
    unfold nearP
    rw [Nodes.bit_setP]
    intro hl
    rw [Bool.and_eq_true] at hl
    have := Grf.lk_range hok hl.2
    simp at hj
    omega
  rw [e, List.filter_append, h2, List.append_nil]
  refine List.filter_congr fun j hj => ?_
  unfold nearP
  rw [Nodes.bit_setP]
  have := List.mem_range.1 hj
  simp
  omega
theorem near_len (hn : n ≤ 64) (hok : Ok n L) (i : Int) : cnt (nearP L i) = (nearL n L i).length := by
  unfold cnt nearL
  rw [near_mem hn hok, List.length_map]
/-- Each node of it has more links than that, or there are no more nodes. -/
theorem near_many (hn : n ≤ 64) (hok : Ok n L) {k : Int} (h : safeB n L k = true) {i : Nat} (hi : i < n) (hd : (cnt (nearP L (i : Int)) : Int) ≤ k) : n ≤ cnt (nearP L (i : Int)) + 1 := by
  rcases Nat.lt_or_ge (cnt (nearP L (i : Int)) + 1) n with hlt | hge
  · exfalso
    obtain ⟨-, -, hw⟩ := (safe_iff hn).1 h
    have hbit : ∀ j, (nearP L (i : Int)).testBit j = (decide (j < 64) && lk L (i : Int) (j : Int)) := fun j => by unfold nearP; rw [Nodes.bit_setP]
    have hs : nearP L (i : Int) < 2 ^ n := by
      refine Nat.lt_pow_two_of_testBit _ fun j hj => ?_
      rw [hbit]
      rw [Bool.and_eq_false_iff]
      right
      rw [← Bool.not_eq_true]
      intro hl
      have := Grf.lk_range hok hl
      omega
    obtain ⟨-, hall⟩ := hw _ hs hd
    have hih : hereB n (nearP L (i : Int)) i = true := here_iff.2 ⟨hi, Grf.near_self hok i⟩
    have hex : ∃ y, y < n ∧ y ≠ i ∧ (nearP L (i : Int)).testBit y = false := by
      refine Classical.byContradiction fun hne => ?_
      have hsub : ∀ y ∈ (List.range n).erase i, y ∈ mem (nearP L (i : Int)) := fun y hy => by
        have h1 := (List.Nodup.mem_erase_iff List.nodup_range).1 hy
        have h2 := List.mem_range.1 h1.2
        refine Nodes.mem_mem.2 ⟨by omega, ?_⟩
        rcases Bool.eq_false_or_eq_true ((nearP L (i : Int)).testBit y) with h3 | h3
        · exact h3
        · exact absurd ⟨y, h2, h1.1, h3⟩ hne
      have := Grf.nodup_le (List.Nodup.erase i List.nodup_range) hsub
      rw [List.length_erase_of_mem (List.mem_range.2 hi), List.length_range] at this
      unfold cnt at hlt
      omega
    obtain ⟨y, hy1, hy2, hy3⟩ := hex
    have hyh : hereB n (nearP L (i : Int)) y = true := here_iff.2 ⟨hy1, hy3⟩
    have h0 := hall y i hyh hih
    rcases dst_cases (n := n) (S := nearP L (i : Int)) (L := L) y i with ⟨e, -⟩ | ⟨m, e, hm, -⟩
    · omega
    · rcases Nat.eq_zero_or_pos m with rfl | hpos
      · have := (dst_zero (n := n) (S := nearP L (i : Int)) (L := L) (i := y) (x := i)).1 (by rw [e]; rfl)
        exact hy2 this.1
      · obtain ⟨m', rfl⟩ : ∃ m', m = m' + 1 := ⟨m - 1, by omega⟩
        obtain ⟨z, -, hz⟩ := mind_prev hm
        obtain ⟨hz1, -, hz3⟩ := adj_iff.1 hz
        have hzz := here_iff.1 hz1
        rw [hbit, Grf.lk_comm, hz3] at hzz
        have := hzz.1
        have := hzz.2
        simp at this
        omega
  · exact hge
end
/-! A link more. -/
section
variable {n S : Nat} {L M : List Pr}
theorem adj_mono (h : ∀ a b, lk L a b = true → lk M a b = true) {y x : Nat} (ha : adj n S L y x = true) : adj n S M y x = true := by
  obtain ⟨h1, h2, h3⟩ := adj_iff.1 ha
  exact adj_iff.2 ⟨h1, h2, h _ _ h3⟩
theorem wk_mono (h : ∀ a b, lk L a b = true → lk M a b = true) {i : Nat} : ∀ k x, wk n S L i k x = true → wk n S M i k x = true
  | 0, x, hw => wk_zero.2 (wk_zero.1 hw)
  | k + 1, x, hw => by
    obtain ⟨y, h1, h2⟩ := wk_succ.1 hw
    exact wk_succ.2 ⟨y, wk_mono h k y h1, adj_mono h h2⟩
theorem whole_mono (h : ∀ a b, lk L a b = true → lk M a b = true) (hw : wholeP n S L) : wholeP n S M := by
  refine ⟨hw.1, fun x y hx hy => ?_⟩
  have h0 := hw.2 x y hx hy
  rcases dst_cases (n := n) (S := S) (L := L) x y with ⟨e, -⟩ | ⟨m, -, hm, -⟩
  · omega
  · have := wk_mono h m y hm.1
    rcases dst_cases (n := n) (S := S) (L := M) x y with ⟨-, hno⟩ | ⟨m', e', -, -⟩
    · rw [hno m] at this
      cases this
    · omega
theorem str_mono (hn : n ≤ 64) (h : ∀ a b, lk L a b = true → lk M a b = true) : strP n L ≤ strP n M := by
  unfold strP
  cases hL : firstO n L 3 with
  | none =>
    cases hM : firstO n M 3 with
    | none => exact Int.le_refl _
    | some t =>
      obtain ⟨h1, h2, h3, -⟩ := firstO_some hn hM
      exact absurd (whole_mono h ((firstO_none hn).1 hL t h1 h2)) h3
  | some s =>
    obtain ⟨-, g2, -, g4⟩ := firstO_some hn hL
    cases hM : firstO n M 3 with
    | none => simp only; omega
    | some t =>
      obtain ⟨h1, h2, h3, -⟩ := firstO_some hn hM
      simp only
      rcases Nat.lt_or_ge (cnt t) (cnt s) with h' | h'
      · exact absurd (whole_mono h (g4 t h1 h')) h3
      · omega
theorem lk_more (p : Pr) : ∀ a b, lk L a b = true → lk (L ++ [p]) a b = true := fun a b h => by rw [Grf.lk_snoc, h]; rfl
end
end Go.Proofs.YtbgigimapogkcaaDoor.Cut
