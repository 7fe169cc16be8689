/- Plain mathematics of layer 19: paths of a graph. -/
import Derived.Test.YtlmdandgjapmjaaGrfM
import Derived.Lib.Hide
namespace Go.Proofs.Ytlmdandgjapmjaa.Hop
open Grf (Pr lk)
set_option linter.unusedVariables false

/-- Whether the k-th node of a list may follow those ahead of it. -/
def stepP (n : Nat) (L : List Pr) (l : List Int) (k : Nat) : Prop :=
  0 ≤ l.getD k 0 ∧ l.getD k 0 < (n : Int) ∧ (0 < k → lk L (l.getD (k - 1) 0) (l.getD k 0) = true) ∧ ∀ i, i < k → l.getD i 0 ≠ l.getD k 0
def pathP (n : Nat) (L : List Pr) (l : List Int) : Prop := l ≠ [] ∧ ∀ k, k < l.length → stepP n L l k
noncomputable def pathB (n : Nat) (L : List Pr) (l : List Int) : Bool := @decide (pathP n L l) (Classical.propDecidable _)
theorem pathB_iff {n : Nat} {L : List Pr} {l : List Int} : pathB n L l = true ↔ pathP n L l := @decide_eq_true_iff _ (Classical.propDecidable _)
theorem path_no {n : Nat} {L : List Pr} {l : List Int} {k : Nat} (hk : k < l.length) (h : ¬ stepP n L l k) : pathB n L l = false := by
  rw [← Bool.not_eq_true, pathB_iff]
  exact fun hp => h (hp.2 k hk)
theorem path_end {n : Nat} {L : List Pr} {l : List Int} (h : ∀ k, k < l.length → stepP n L l k) : pathB n L l = decide (0 < l.length) := by
  rw [Bool.eq_iff_iff, pathB_iff, decide_eq_true_iff]
  refine ⟨fun hp => List.length_pos_iff.2 hp.1, fun hp => ⟨List.length_pos_iff.1 hp, h⟩⟩
theorem path_nil {n : Nat} {L : List Pr} : pathB n L [] = false := by
  rw [← Bool.not_eq_true, pathB_iff]
  exact fun hp => hp.1 rfl
/-- Of no nodes nothing is a path. -/
theorem path_none {L : List Pr} {l : List Int} : pathB 0 L l = false := by
  rw [← Bool.not_eq_true, pathB_iff]
  intro hp
  have := hp.2 0 (List.length_pos_iff.2 hp.1)
  have h1 := this.1
  have h2 := this.2.1
  omega
theorem step_no_low {n : Nat} {L : List Pr} {l : List Int} {k : Nat} {x : Int} (hx : l.getD k 0 = x) (h : ¬ 0 ≤ x) : ¬ stepP n L l k := by rw [stepP, hx]; exact fun hp => h hp.1
theorem step_no_high {n : Nat} {L : List Pr} {l : List Int} {k : Nat} {x : Int} (hx : l.getD k 0 = x) (h : ¬ x < (n : Int)) : ¬ stepP n L l k := by rw [stepP, hx]; exact fun hp => h hp.2.1
theorem step_no_link {n : Nat} {L : List Pr} {l : List Int} {k : Nat} {x : Int} (hx : l.getD k 0 = x) (h0 : 0 < k) (h : lk L (l.getD (k - 1) 0) x = false) : ¬ stepP n L l k := by
  rw [stepP, hx]
  intro hp
  have := hp.2.2.1 h0
  rw [h] at this
  exact Bool.false_ne_true this
theorem step_no_twice {n : Nat} {L : List Pr} {l : List Int} {k i : Nat} (hi : i < k) (h : l.getD i 0 = l.getD k 0) : ¬ stepP n L l k := fun hp => hp.2.2.2 i hi h
/-- Which nodes were there, as 64 flags. -/
def beenB (l : List Int) (k : Nat) (i : Int) : Bool := (l.take k).contains i
theorem been_iff {l : List Int} {k : Nat} (hk : k ≤ l.length) {i : Int} : beenB l k i = true ↔ ∃ j, j < k ∧ l.getD j 0 = i := by
  rw [beenB, List.contains_iff_mem, List.mem_iff_getElem]
  constructor
  · rintro ⟨j, hj, e⟩
    have hj' := hj
    rw [List.length_take] at hj'
    refine ⟨j, by omega, ?_⟩
    rw [← e, List.getElem_take]
    simp [show j < l.length by omega]
  · rintro ⟨j, hj, e⟩
    refine ⟨j, by rw [List.length_take]; omega, ?_⟩
    rw [List.getElem_take, ← e]
    simp [show j < l.length by omega]
theorem been_succ {l : List Int} {k : Nat} (hk : k < l.length) (i : Int) : beenB l (k + 1) i = (beenB l k i || decide (l.getD k 0 = i)) := by
  rw [Bool.eq_iff_iff, been_iff (by omega), Bool.or_eq_true, been_iff (by omega), decide_eq_true_iff]
  constructor
  · rintro ⟨j, hj, e⟩
    by_cases h : j = k
    · subst h; exact .inr e
    · exact .inl ⟨j, by omega, e⟩
  · rintro (⟨j, hj, e⟩ | e)
    · exact ⟨j, by omega, e⟩
    · exact ⟨k, by omega, e⟩
theorem step_yes {n : Nat} {L : List Pr} {l : List Int} {k : Nat} {x : Int} (hk : k ≤ l.length) (hx : l.getD k 0 = x) (h0 : 0 ≤ x) (h1 : x < (n : Int)) (hb : beenB l k x = false) (h2 : 0 < k → lk L (l.getD (k - 1) 0) x = true) : stepP n L l k := by
  rw [stepP, hx]
  refine ⟨h0, h1, h2, fun i hi e => ?_⟩
  rw [← Bool.not_eq_true, been_iff hk] at hb
  exact hb ⟨i, hi, e⟩
theorem step_no_been {n : Nat} {L : List Pr} {l : List Int} {k : Nat} {x : Int} (hk : k ≤ l.length) (hx : l.getD k 0 = x) (hb : beenB l k x = true) : ¬ stepP n L l k := by
  obtain ⟨j, hj, e⟩ := (been_iff hk).1 hb
  exact step_no_twice hj (by rw [e, hx])
theorem steps_succ {n : Nat} {L : List Pr} {l : List Int} {k : Nat} (h : ∀ j, j < k → stepP n L l j) (hk : stepP n L l k) : ∀ j, j < k + 1 → stepP n L l j := fun j hj => by
  by_cases e : j = k
  · subst e; exact hk
  · exact h j (by omega)
/-- Numbers below n that are all unlike are n at most. -/
theorem nodup_le : ∀ (n : Nat) (l : List Int), l.Nodup → (∀ x ∈ l, 0 ≤ x ∧ x < (n : Int)) → l.length ≤ n
  | 0, l, _, h => by
    cases l with
    | nil => simp
    | cons x t => have := h x (by simp); omega
  | n + 1, l, hd, h => by
    have h1 := nodup_le n (l.erase (n : Int)) (hd.erase _) (fun x hx => by
      have hx1 := List.mem_of_mem_erase hx
      have hne : x ≠ (n : Int) := fun e => by subst e; exact (hd.not_mem_erase hx).elim
      have := h x hx1
      omega)
    by_cases hm : (n : Int) ∈ l
    · have h2 := List.length_erase_of_mem hm
      omega
    · rw [List.erase_of_not_mem hm] at h1
      omega
theorem path_len {n : Nat} {L : List Pr} {l : List Int} (h : pathP n L l) : l.length ≤ n := by
  refine nodup_le n l ?_ fun x hx => ?_
  · rw [List.nodup_iff_pairwise_ne, List.pairwise_iff_getElem]
    intro i j hi hj hij e
    have := (h.2 j hj).2.2.2 i hij
    simp only [List.getD_eq_getElem?_getD, List.getElem?_eq_getElem hi, List.getElem?_eq_getElem hj, Option.getD_some] at this
    exact this e
  · obtain ⟨k, hk, rfl⟩ := List.mem_iff_getElem.1 hx
    have := h.2 k hk
    simp only [stepP, List.getD_eq_getElem?_getD, List.getElem?_eq_getElem hk, Option.getD_some] at this
    exact ⟨this.1, this.2.1⟩

end Go.Proofs.Ytlmdandgjapmjaa.Hop
