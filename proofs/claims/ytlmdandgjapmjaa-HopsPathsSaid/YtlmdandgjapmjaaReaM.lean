/- Distances over the links of a graph (layer 17): walks, how far one is, rings; plain mathematics. -/
import Derived.Test.YtlmdandgjapmjaaGrfM
namespace Go.Proofs.Ytlmdandgjapmjaa.Rea
open Grf (Pr lk lk_comm nearP Ok lk_range)
open Nodes (setP bit_setP setP_lt setP_congr eq_setP andNotN bit_andNot ofL allN)
set_option linter.unusedVariables false
section
variable (n S : Nat) (L : List Pr)
/-- Is a number a node that is not taken out? -/
def hereB (x : Nat) : Bool := decide (x < n) && !S.testBit x
def adj (y x : Nat) : Bool := hereB n S y && (hereB n S x && lk L (y : Int) (x : Int))
/-- Is there a walk of just so many links? -/
def wk (i : Nat) : Nat → Nat → Bool
  | 0, x => decide (i = x) && hereB n S x
  | k + 1, x => (List.range n).any fun y => wk i k y && adj n S L y x
def mind (i k x : Nat) : Prop := wk n S L i k x = true ∧ ∀ j, j < k → wk n S L i j x = false
/-- How far one is: -1 if it is not reached. -/
def dst (i x : Nat) : Int := match (List.range n).find? (fun k => wk n S L i k x) with | some k => (k : Int) | none => -1
end
section
variable {n S : Nat} {L : List Pr}
theorem here_lt {x : Nat} (h : hereB n S x = true) : x < n := by simp [hereB] at h; exact h.1
theorem here_iff {x : Nat} : hereB n S x = true ↔ x < n ∧ S.testBit x = false := by simp [hereB]
theorem adj_iff {y x : Nat} : adj n S L y x = true ↔ hereB n S y = true ∧ hereB n S x = true ∧ lk L (y : Int) (x : Int) = true := by simp [adj]
theorem adj_comm (y x : Nat) : adj n S L y x = adj n S L x y := by
  rw [Bool.eq_iff_iff, adj_iff, adj_iff, lk_comm L (y : Int) (x : Int)]
  exact ⟨fun ⟨a, b, c⟩ => ⟨b, a, c⟩, fun ⟨a, b, c⟩ => ⟨b, a, c⟩⟩
theorem wk_zero {i x : Nat} : wk n S L i 0 x = true ↔ i = x ∧ hereB n S x = true := by simp [wk]
theorem wk_succ {i k x : Nat} : wk n S L i (k + 1) x = true ↔ ∃ y, wk n S L i k y = true ∧ adj n S L y x = true := by
  rw [wk, List.any_eq_true]
  constructor
  · rintro ⟨y, _, h⟩
    rw [Bool.and_eq_true] at h
    exact ⟨y, h⟩
  · rintro ⟨y, h1, h2⟩
    exact ⟨y, List.mem_range.2 (here_lt (adj_iff.1 h2).1), by rw [h1, h2]; rfl⟩
theorem wk_here {i k x : Nat} (h : wk n S L i k x = true) : hereB n S x = true := by
  cases k with
  | zero => exact (wk_zero.1 h).2
  | succ k => obtain ⟨y, _, h2⟩ := wk_succ.1 h; exact (adj_iff.1 h2).2.1
theorem wk_src {i k x : Nat} (h : wk n S L i k x = true) : hereB n S i = true := by
  induction k generalizing x with
  | zero => obtain ⟨rfl, h⟩ := wk_zero.1 h; exact h
  | succ k ih => obtain ⟨y, h1, _⟩ := wk_succ.1 h; exact ih h1
theorem wk_one {i x : Nat} (h : adj n S L i x = true) : wk n S L i 1 x = true :=
  wk_succ.2 ⟨i, wk_zero.2 ⟨rfl, (adj_iff.1 h).1⟩, h⟩
theorem wk_add {i y x a b : Nat} (h1 : wk n S L i a y = true) (h2 : wk n S L y b x = true) : wk n S L i (a + b) x = true := by
  induction b generalizing x with
  | zero => obtain ⟨rfl, _⟩ := wk_zero.1 h2; exact h1
  | succ b ih => obtain ⟨z, h3, h4⟩ := wk_succ.1 h2; exact wk_succ.2 ⟨z, ih h3, h4⟩
theorem wk_back {i x k : Nat} (h : wk n S L i k x = true) : wk n S L x k i = true := by
  induction k generalizing x with
  | zero => obtain ⟨rfl, h⟩ := wk_zero.1 h; exact wk_zero.2 ⟨rfl, h⟩
  | succ k ih =>
    obtain ⟨y, h1, h2⟩ := wk_succ.1 h
    have := wk_add (wk_one (by rw [adj_comm]; exact h2)) (ih h1)
    rwa [Nat.add_comm] at this
theorem least_of {p : Nat → Bool} : ∀ k, p k = true → ∃ m, m ≤ k ∧ p m = true ∧ ∀ j, j < m → p j = false := by
  intro k
  induction k using Nat.strongRecOn with
  | _ k ih =>
    intro h
    by_cases h2 : ∃ j, j < k ∧ p j = true
    · obtain ⟨j, hj, hp⟩ := h2
      obtain ⟨m, hm, h3⟩ := ih j hj hp
      exact ⟨m, by omega, h3⟩
    · refine ⟨k, Nat.le_refl _, h, fun j hj => ?_⟩
      cases hp : p j with
      | false => rfl
      | true => exact absurd ⟨j, hj, hp⟩ h2
theorem mind_of {i k x : Nat} (h : wk n S L i k x = true) : ∃ m, m ≤ k ∧ mind n S L i m x := least_of (p := fun k => wk n S L i k x) k h
theorem mind_eq {i k m x : Nat} (h1 : mind n S L i k x) (h2 : mind n S L i m x) : k = m := by
  rcases Nat.lt_trichotomy k m with h | h | h
  · have := h2.2 k h; rw [h1.1] at this; cases this
  · exact h
  · have := h1.2 m h; rw [h2.1] at this; cases this
theorem mind_le {i k m x : Nat} (h1 : mind n S L i k x) (h2 : wk n S L i m x = true) : k ≤ m := by
  rcases Nat.lt_or_ge m k with h | h
  · have := h1.2 m h; rw [h2] at this; cases this
  · exact h
theorem mind_prev {i k x : Nat} (h : mind n S L i (k + 1) x) : ∃ y, mind n S L i k y ∧ adj n S L y x = true := by
  obtain ⟨y, h1, h2⟩ := wk_succ.1 h.1
  obtain ⟨m, hm, h3⟩ := mind_of h1
  have := mind_le h (wk_succ.2 ⟨y, h3.1, h2⟩)
  obtain rfl : m = k := by omega
  exact ⟨y, h3, h2⟩
/-- A node that is so far has as many nodes on its way: so it is nearer than there are nodes. -/
theorem mind_list {i : Nat} : ∀ k x, mind n S L i k x → ∃ l : List Nat, l.length = k + 1 ∧ l.Nodup ∧ ∀ y ∈ l, y < n ∧ ∃ j, j ≤ k ∧ mind n S L i j y
  | 0, x, h => ⟨[x], rfl, by simp, fun y hy => by
      rw [List.mem_singleton] at hy
      subst hy
      exact ⟨here_lt (wk_here h.1), 0, Nat.le_refl _, h⟩⟩
  | k + 1, x, h => by
    obtain ⟨y, h1, h2⟩ := mind_prev h
    obtain ⟨l, hl, hn, hm⟩ := mind_list k y h1
    refine ⟨x :: l, by rw [List.length_cons, hl], List.nodup_cons.2 ⟨fun hx => ?_, hn⟩, fun z hz => ?_⟩
    · obtain ⟨_, j, hj, h3⟩ := hm x hx
      have := mind_eq h h3
      omega
    · rcases List.mem_cons.1 hz with rfl | hz
      · exact ⟨here_lt (wk_here h.1), k + 1, Nat.le_refl _, h⟩
      · obtain ⟨a, j, hj, b⟩ := hm z hz
        exact ⟨a, j, by omega, b⟩
theorem mind_lt {i k x : Nat} (h : mind n S L i k x) : k < n := by
  obtain ⟨l, hl, hn, hm⟩ := mind_list k x h
  have := Grf.nodup_le (m := List.range n) hn (fun y hy => List.mem_range.2 (hm y hy).1)
  rw [hl, List.length_range] at this
  omega
theorem dst_some {i k x : Nat} (h : mind n S L i k x) : dst n S L i x = (k : Int) := by
  have hk := mind_lt h
  unfold dst
  cases hf : (List.range n).find? (fun k => wk n S L i k x) with
  | none =>
    rw [List.find?_eq_none] at hf
    exact absurd h.1 (hf k (List.mem_range.2 hk))
  | some m =>
    obtain ⟨hm, as1, bs, he, hb⟩ := List.find?_eq_some_iff_append.1 hf
    obtain ⟨j, hj, hmj⟩ := mind_of hm
    have e := mind_eq h hmj
    subst e
    suffices m ≤ k by
      have : m = k := by omega
      simp [this]
    rcases Nat.lt_or_ge k m with hlt | hge
    · have hmem : k ∈ as1 := by
        have hs : (as1 ++ m :: bs).Pairwise (· < ·) := by rw [← he]; exact List.pairwise_lt_range
        have hin : k ∈ as1 ++ m :: bs := by rw [← he]; exact List.mem_range.2 hk
        rcases List.mem_append.1 hin with h1 | h1
        · exact h1
        · exfalso
          rcases List.mem_cons.1 h1 with h2 | h2
          · omega
          · have := (List.pairwise_cons.1 (List.pairwise_append.1 hs).2.1).1 k h2
            omega
      have := hb k hmem
      rw [h.1] at this
      cases this
    · exact hge
theorem dst_none {i x : Nat} (h : ∀ k, wk n S L i k x = false) : dst n S L i x = -1 := by
  unfold dst
  rw [List.find?_eq_none.2 (fun k _ => by rw [h k]; simp)]
theorem dst_cases (i x : Nat) : (dst n S L i x = -1 ∧ ∀ k, wk n S L i k x = false) ∨ ∃ k : Nat, dst n S L i x = (k : Int) ∧ mind n S L i k x ∧ k < n := by
  by_cases h : ∃ k, wk n S L i k x = true
  · obtain ⟨k, hk⟩ := h
    obtain ⟨m, _, hm⟩ := mind_of hk
    exact .inr ⟨m, dst_some hm, hm, mind_lt hm⟩
  · have h' : ∀ k, wk n S L i k x = false := fun k => by
      cases hk : wk n S L i k x with
      | false => rfl
      | true => exact absurd ⟨k, hk⟩ h
    exact .inl ⟨dst_none h', h'⟩
theorem dst_iff {i k x : Nat} : dst n S L i x = (k : Int) ↔ mind n S L i k x := by
  constructor
  · intro h
    rcases dst_cases (n := n) (S := S) (L := L) i x with ⟨h1, _⟩ | ⟨m, h1, h2, _⟩
    · omega
    · obtain rfl : m = k := by omega
      exact h2
  · exact dst_some
theorem dst_lo (i x : Nat) : -1 ≤ dst n S L i x := by
  rcases dst_cases (n := n) (S := S) (L := L) i x with ⟨h1, _⟩ | ⟨m, h1, h2, _⟩ <;> omega
theorem dst_hi (i x : Nat) (h : 0 ≤ dst n S L i x) : dst n S L i x < (n : Int) := by
  rcases dst_cases (n := n) (S := S) (L := L) i x with ⟨h1, _⟩ | ⟨m, h1, h2, _⟩ <;> omega
theorem dst_here {i x : Nat} (h : 0 ≤ dst n S L i x) : hereB n S x = true ∧ hereB n S i = true := by
  rcases dst_cases (n := n) (S := S) (L := L) i x with ⟨h1, _⟩ | ⟨m, h1, h2, _⟩
  · omega
  · exact ⟨wk_here h2.1, wk_src h2.1⟩
theorem dst_zero {i x : Nat} : dst n S L i x = 0 ↔ i = x ∧ hereB n S x = true := by
  have := dst_iff (n := n) (S := S) (L := L) (i := i) (k := 0) (x := x)
  rw [Int.natCast_zero] at this
  rw [this]
  exact ⟨fun h => wk_zero.1 h.1, fun h => ⟨wk_zero.2 h, fun j hj => by omega⟩⟩
/-- As far as back. -/
theorem dst_comm (i x : Nat) : dst n S L i x = dst n S L x i := by
  rcases dst_cases (n := n) (S := S) (L := L) i x with ⟨h1, h2⟩ | ⟨k, h1, h2, _⟩
  · rw [h1, dst_none]
    intro k
    cases hk : wk n S L x k i with
    | false => rfl
    | true => have := h2 k; rw [wk_back hk] at this; cases this
  · rw [h1]
    refine (dst_some ⟨wk_back h2.1, fun j hj => ?_⟩).symm
    cases hk : wk n S L x j i with
    | false => rfl
    | true => have := h2.2 j hj; rw [wk_back hk] at this; cases this
/-- A link is one further at most. -/
theorem dst_link {i y x : Nat} (h : adj n S L y x = true) : (dst n S L i y = -1 → dst n S L i x = -1) ∧ (0 ≤ dst n S L i y → 0 ≤ dst n S L i x ∧ dst n S L i x ≤ dst n S L i y + 1) := by
  constructor
  · intro h1
    rcases dst_cases (n := n) (S := S) (L := L) i x with ⟨h2, _⟩ | ⟨k, h2, h3, _⟩
    · exact h2
    · exfalso
      have hw := wk_succ.2 ⟨x, h3.1, (by rw [adj_comm]; exact h : adj n S L x y = true)⟩
      obtain ⟨m, _, hm⟩ := mind_of hw
      rw [dst_some hm] at h1
      omega
  · intro h1
    rcases dst_cases (n := n) (S := S) (L := L) i y with ⟨h2, _⟩ | ⟨k, h2, h3, _⟩
    · omega
    · have hw := wk_succ.2 ⟨y, h3.1, h⟩
      obtain ⟨m, hmk, hm⟩ := mind_of hw
      rw [dst_some hm, h2]
      omega
theorem dst_step {i k x : Nat} : dst n S L i x = ((k + 1 : Nat) : Int) ↔ (hereB n S x = true ∧ ¬ (0 ≤ dst n S L i x ∧ dst n S L i x < ((k + 1 : Nat) : Int))) ∧ ∃ y, dst n S L i y = (k : Int) ∧ lk L (y : Int) (x : Int) = true := by
  constructor
  · intro h
    have hm := dst_iff.1 h
    obtain ⟨y, h1, h2⟩ := mind_prev hm
    exact ⟨⟨wk_here hm.1, by rw [h]; omega⟩, y, dst_some h1, (adj_iff.1 h2).2.2⟩
  · rintro ⟨⟨h1, h2⟩, y, h3, h4⟩
    have hy := dst_here (n := n) (S := S) (L := L) (i := i) (x := y) (by rw [h3]; omega)
    have := (dst_link (i := i) (adj_iff.2 ⟨hy.1, h1, h4⟩)).2 (by rw [h3]; omega)
    rw [h3] at this
    omega
end
end Go.Proofs.Ytlmdandgjapmjaa.Rea
