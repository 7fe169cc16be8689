/- Contracts of the document's products (layer 1), for every layer (no Mul64 of the shelf). -/
import Derived.Test.YtmkdemdeejhonaaDoorSpanB
namespace Go.Proofs.YtmkdemdeejhonaaDoor.Span
open Go.ChangeShapes Go.WideShapes Go.ChangeAt Go.RowKit
set_option linter.unusedVariables false

theorem wrap_k (x : Int) : ∃ k : Int, wrap64 x = x + k * 18446744073709551616 := ⟨-((x + 9223372036854775808) / 18446744073709551616), by unfold wrap64; omega⟩
theorem wrap_bd (x : Int) : -9223372036854775808 ≤ wrap64 x ∧ wrap64 x ≤ 9223372036854775807 := by unfold wrap64; omega
theorem rmul_zero (a b : Int) (ha : -9223372036854775808 ≤ a ∧ a ≤ 9223372036854775807) (hb : -9223372036854775808 ≤ b ∧ b ≤ 9223372036854775807) (h : a = 0 ∨ b = 0) (w : World) :
    Calls Tryd.prog 17 #[.int .i64 a, .int .i64 b] w fun e w' => e = .returned (.tuple #[.int .i64 0, .bool true]) ∧ w = w' := by
  by_cases h0 : a = 0
  · subst h0
    go_enter Tryd.func17, Tryd.ntmps17
    go_wp2
    go_ret2
    exact ⟨rfl, rfl⟩
  · have hb0 : b = 0 := by omega
    subst hb0
    have h0' : (a == 0) = false := beq_eq_false_iff_ne.2 h0
    clear h h0
    go_enter Tryd.func17, Tryd.ntmps17
    go_wp2
    go_ret2
    exact ⟨rfl, rfl⟩
theorem rmul_one (a b : Int) (a0 : (a == 0) = false) (b0 : (b == 0) = false) (ma mb na nb : Bool) (HMA : (a == -1) = ma) (HMB : (b == -1) = mb) (HNA : (a == -9223372036854775808) = na) (HNB : (b == -9223372036854775808) = nb)
    (h : (ma || mb) = true) (h' : (na || nb) = false) (f1 : -9223372036854775808 ≤ a * b) (f2 : a * b ≤ 9223372036854775807) (w : World) :
    Calls Tryd.prog 17 #[.int .i64 a, .int .i64 b] w fun e w' => e = .returned (.tuple #[.int .i64 (a * b), .bool true]) ∧ w = w' := by
  cases ma <;> cases mb <;> cases na <;> cases nb <;> try (first | exact absurd h (by decide) | exact absurd h' (by decide))
  all_goals
    clear h h'
    go_enter Tryd.func17, Tryd.ntmps17
    go_wp2
    go_ret2
    exact ⟨rfl, rfl⟩
theorem rmul_onen (a b : Int) (a0 : (a == 0) = false) (b0 : (b == 0) = false) (ma mb na nb : Bool) (HMA : (a == -1) = ma) (HMB : (b == -1) = mb) (HNA : (a == -9223372036854775808) = na) (HNB : (b == -9223372036854775808) = nb)
    (h : (ma || mb) = true) (h' : (na || nb) = true) (w : World) :
    Calls Tryd.prog 17 #[.int .i64 a, .int .i64 b] w fun e w' => e = .returned (.tuple #[.int .i64 0, .bool false]) ∧ w = w' := by
  cases ma <;> cases mb <;> cases na <;> cases nb <;> try (first | exact absurd h (by decide) | exact absurd h' (by decide))
  all_goals
    clear h h'
    go_enter Tryd.func17, Tryd.ntmps17
    go_wp2
    go_ret2
    exact ⟨rfl, rfl⟩
theorem rmul_fits (a b : Int) (a0 : (a == 0) = false) (b0 : (b == 0) = false) (ma : (a == -1) = false) (mb : (b == -1) = false) (hb0 : b ≠ 0)
    (f1 : -9223372036854775808 ≤ a * b) (f2 : a * b ≤ 9223372036854775807) (t1 : -9223372036854775808 ≤ a) (t2 : a ≤ 9223372036854775807) (w : World) :
    Calls Tryd.prog 17 #[.int .i64 a, .int .i64 b] w fun e w' => e = .returned (.tuple #[.int .i64 (a * b), .bool true]) ∧ w = w' := by
  go_enter Tryd.func17, Tryd.ntmps17
  go_wp2
  go_ret2
  exact ⟨rfl, rfl⟩
theorem rmul_no (a b : Int) (a0 : (a == 0) = false) (b0 : (b == 0) = false) (ma : (a == -1) = false) (mb : (b == -1) = false) (hb0 : b ≠ 0)
    (t1 : -9223372036854775808 ≤ (wrap64 (a * b)).tdiv b) (t2 : (wrap64 (a * b)).tdiv b ≤ 9223372036854775807) (ht : ((wrap64 (a * b)).tdiv b != a) = true) (w : World) :
    Calls Tryd.prog 17 #[.int .i64 a, .int .i64 b] w fun e w' => e = .returned (.tuple #[.int .i64 0, .bool false]) ∧ w = w' := by
  go_enter Tryd.func17, Tryd.ntmps17
  go_wp2
  go_ret2
  exact ⟨rfl, rfl⟩
theorem rmul_any (a b : Int) (ha : -9223372036854775808 ≤ a ∧ a ≤ 9223372036854775807) (hb : -9223372036854775808 ≤ b ∧ b ≤ 9223372036854775807) (w : World) :
    Calls Tryd.prog 17 #[.int .i64 a, .int .i64 b] w fun e w' => e = .returned (.tuple #[.int .i64 (fitV (a * b)), .bool (fitB (a * b))]) ∧ w = w' := by
  by_cases hz : a = 0 ∨ b = 0
  · have e : a * b = 0 := by rcases hz with rfl | rfl <;> simp
    rw [e]
    exact rmul_zero a b ha hb hz w
  · have a0 : (a == 0) = false := beq_eq_false_iff_ne.2 (by omega)
    have b0 : (b == 0) = false := beq_eq_false_iff_ne.2 (by omega)
    by_cases hm : a = -1 ∨ b = -1
    · have hm' : ((a == -1) || (b == -1)) = true := by simpa using hm
      have e : a * b = -a ∨ a * b = -b := by
        rcases hm with rfl | rfl
        · right; omega
        · left; omega
      by_cases hn : a = -9223372036854775808 ∨ b = -9223372036854775808
      · have hn' : ((a == -9223372036854775808) || (b == -9223372036854775808)) = true := by simpa using hn
        have e2 : a * b = 9223372036854775808 := by
          rcases hm with rfl | rfl
          · rcases hn with h | rfl
            · exact absurd h (by decide)
            · decide
          · rcases hn with rfl | h
            · decide
            · exact absurd h (by decide)
        have q := fit_no (a * b) (by omega)
        rw [q.1, q.2]
        exact rmul_onen a b a0 b0 _ _ _ _ rfl rfl rfl rfl hm' hn' w
      · have hn' : ((a == -9223372036854775808) || (b == -9223372036854775808)) = false := by
          rw [Bool.or_eq_false_iff, beq_eq_false_iff_ne, beq_eq_false_iff_ne]
          exact ⟨fun h => hn (Or.inl h), fun h => hn (Or.inr h)⟩
        have q := fit_yes (a * b) (by omega)
        rw [q.1, q.2]
        exact rmul_one a b a0 b0 _ _ _ _ rfl rfl rfl rfl hm' hn' (by omega) (by omega) w
    · have ma : (a == -1) = false := beq_eq_false_iff_ne.2 (by omega)
      have mb : (b == -1) = false := beq_eq_false_iff_ne.2 (by omega)
      have hb0 : b ≠ 0 := by omega
      have hb1 : b ≠ -1 := by omega
      by_cases hf : -9223372036854775808 ≤ a * b ∧ a * b ≤ 9223372036854775807
      · have q := fit_yes (a * b) hf
        rw [q.1, q.2]
        exact rmul_fits a b a0 b0 ma mb hb0 hf.1 hf.2 ha.1 ha.2 w
      · have q := fit_no (a * b) hf
        rw [q.1, q.2]
        have hw := wrap_bd (a * b)
        have ht := Math.tdiv_bd (wrap64 (a * b)) b hw hb0 (fun h => hb1 h.2)
        refine rmul_no a b a0 b0 ma mb hb0 ht.1 ht.2 ?_ w
        rw [bne_iff_ne]
        intro h
        obtain ⟨k, hk⟩ := wrap_k (a * b)
        rw [hk] at h hw
        have := Math.mul_seen a b k hb hb0 h
        subst this
        omega

end Go.Proofs.YtmkdemdeejhonaaDoor.Span
