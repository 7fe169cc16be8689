/- Contracts of package key (layer 6): which key is ahead, may a key be, arrays. -/
import Derived.Test.YtolcidilnmjlmaaKeyC
import Derived.Handy
import Derived.Sort.Grow
namespace Go.Proofs.Ytolcidilnmjlmaa.Key
open Go.ChangeShapes Go.WideShapes Go.ChangeAt Go.RowKit Go.Sort
set_option linter.unusedVariables false
def cI (x y : Int) : Int := if x < y then -1 else if y < x then 1 else 0
def orI (a b c : Int) : Int := if a ≠ 0 then a else if b ≠ 0 then b else c
def cmpK (x y : Ky) : Int := orI (cI x.1 y.1) (cI x.2.1 y.2.1) (cI x.2.2 y.2.2)
theorem cmp_lt (x y : Ky) : decide (cmpK x y < 0) = ltK x y := by
  unfold cmpK orI cI ltK
  rw [decide_eq_decide]
  repeat' split
  all_goals omega
theorem nan64 (x : Int) (w : World) : Calls Try.prog 75 #[.int .i64 x] w fun e w' => e = .returned (.bool false) ∧ w = w' := by
  have h : (x != x) = false := by simp
  go_enter Try.func75, Try.ntmps75
  go_wp2_with fail
  go_ret
  exact ⟨rfl, rfl⟩
theorem nanint (x : Int) (w : World) : Calls Try.prog 76 #[.int .i64 x] w fun e w' => e = .returned (.bool false) ∧ w = w' := by
  have h : (x != x) = false := by simp
  go_enter Try.func76, Try.ntmps76
  go_wp2_with fail
  go_ret
  exact ⟨rfl, rfl⟩
theorem nan32 (x : Int) (w : World) : Calls Try.prog 77 #[.int .u32 x] w fun e w' => e = .returned (.bool false) ∧ w = w' := by
  have h : (x != x) = false := by simp
  go_enter Try.func77, Try.ntmps77
  go_wp2_with fail
  go_ret
  exact ⟨rfl, rfl⟩
theorem cmp64 (x y : Int) (w : World) : Calls Try.prog 69 #[.int .i64 x, .int .i64 y] w fun e w' => e = .returned (.int .i64 (cI x y)) ∧ w = w' := by
  have C1 := Lib.hid (nan64 x w)
  have C2 := Lib.hid (nan64 y w)
  by_cases h1 : x < y
  · have hv : cI x y = -1 := by unfold cI; rw [if_pos h1]
    rw [hv]
    go_enter Try.func69, Try.ntmps69
    go_wp2_with fail
    refine (C1.out).mono ?_; rintro e w' ⟨rfl, rfl⟩
    go_wp2_with fail
    refine (C2.out).mono ?_; rintro e w' ⟨rfl, rfl⟩
    go_wp2_with fail
    go_ret
    exact ⟨rfl, rfl⟩
  · by_cases h2 : y < x
    · have hv : cI x y = 1 := by unfold cI; rw [if_neg h1, if_pos h2]
      rw [hv]
      go_enter Try.func69, Try.ntmps69
      go_wp2_with fail
      refine (C1.out).mono ?_; rintro e w' ⟨rfl, rfl⟩
      go_wp2_with fail
      refine (C2.out).mono ?_; rintro e w' ⟨rfl, rfl⟩
      go_wp2_with fail
      go_ret
      exact ⟨rfl, rfl⟩
    · have hv : cI x y = 0 := by unfold cI; rw [if_neg h1, if_neg h2]
      rw [hv]
      go_enter Try.func69, Try.ntmps69
      go_wp2_with fail
      refine (C1.out).mono ?_; rintro e w' ⟨rfl, rfl⟩
      go_wp2_with fail
      refine (C2.out).mono ?_; rintro e w' ⟨rfl, rfl⟩
      go_wp2_with fail
      go_ret
      exact ⟨rfl, rfl⟩
theorem cmpint (x y : Int) (w : World) : Calls Try.prog 70 #[.int .i64 x, .int .i64 y] w fun e w' => e = .returned (.int .i64 (cI x y)) ∧ w = w' := by
  have C1 := Lib.hid (nanint x w)
  have C2 := Lib.hid (nanint y w)
  by_cases h1 : x < y
  · have hv : cI x y = -1 := by unfold cI; rw [if_pos h1]
    rw [hv]
    go_enter Try.func70, Try.ntmps70
    go_wp2_with fail
    refine (C1.out).mono ?_; rintro e w' ⟨rfl, rfl⟩
    go_wp2_with fail
    refine (C2.out).mono ?_; rintro e w' ⟨rfl, rfl⟩
    go_wp2_with fail
    go_ret
    exact ⟨rfl, rfl⟩
  · by_cases h2 : y < x
    · have hv : cI x y = 1 := by unfold cI; rw [if_neg h1, if_pos h2]
      rw [hv]
      go_enter Try.func70, Try.ntmps70
      go_wp2_with fail
      refine (C1.out).mono ?_; rintro e w' ⟨rfl, rfl⟩
      go_wp2_with fail
      refine (C2.out).mono ?_; rintro e w' ⟨rfl, rfl⟩
      go_wp2_with fail
      go_ret
      exact ⟨rfl, rfl⟩
    · have hv : cI x y = 0 := by unfold cI; rw [if_neg h1, if_neg h2]
      rw [hv]
      go_enter Try.func70, Try.ntmps70
      go_wp2_with fail
      refine (C1.out).mono ?_; rintro e w' ⟨rfl, rfl⟩
      go_wp2_with fail
      refine (C2.out).mono ?_; rintro e w' ⟨rfl, rfl⟩
      go_wp2_with fail
      go_ret
      exact ⟨rfl, rfl⟩
theorem cmp32 (x y : Int) (w : World) : Calls Try.prog 71 #[.int .u32 x, .int .u32 y] w fun e w' => e = .returned (.int .i64 (cI x y)) ∧ w = w' := by
  have C1 := Lib.hid (nan32 x w)
  have C2 := Lib.hid (nan32 y w)
  by_cases h1 : x < y
  · have hv : cI x y = -1 := by unfold cI; rw [if_pos h1]
    rw [hv]
    go_enter Try.func71, Try.ntmps71
    go_wp2_with fail
    refine (C1.out).mono ?_; rintro e w' ⟨rfl, rfl⟩
    go_wp2_with fail
    refine (C2.out).mono ?_; rintro e w' ⟨rfl, rfl⟩
    go_wp2_with fail
    go_ret
    exact ⟨rfl, rfl⟩
  · by_cases h2 : y < x
    · have hv : cI x y = 1 := by unfold cI; rw [if_neg h1, if_pos h2]
      rw [hv]
      go_enter Try.func71, Try.ntmps71
      go_wp2_with fail
      refine (C1.out).mono ?_; rintro e w' ⟨rfl, rfl⟩
      go_wp2_with fail
      refine (C2.out).mono ?_; rintro e w' ⟨rfl, rfl⟩
      go_wp2_with fail
      go_ret
      exact ⟨rfl, rfl⟩
    · have hv : cI x y = 0 := by unfold cI; rw [if_neg h1, if_neg h2]
      rw [hv]
      go_enter Try.func71, Try.ntmps71
      go_wp2_with fail
      refine (C1.out).mono ?_; rintro e w' ⟨rfl, rfl⟩
      go_wp2_with fail
      refine (C2.out).mono ?_; rintro e w' ⟨rfl, rfl⟩
      go_wp2_with fail
      go_ret
      exact ⟨rfl, rfl⟩
theorem orI_any (a b c : Int) (g : Nat) (w : World) (c0 : w.cell? ⟨g, 0, none⟩ = some (.int .i64 a)) (c1 : w.cell? ⟨g, 1, none⟩ = some (.int .i64 b)) (c2 : w.cell? ⟨g, 2, none⟩ = some (.int .i64 c)) :
    Calls Try.prog 68 #[.slice (some ⟨g, 0, none⟩) 3 3] w fun e w' => e = .returned (.int .i64 (orI a b c)) ∧ w = w' := by
  by_cases h1 : a = 0
  · by_cases h2 : b = 0
    · by_cases h3 : c = 0
      · subst h1 h2 h3
        go_enter Try.func68, Try.ntmps68
        go_wp2_with fail
        go_rounds 4
        go_ret
        exact ⟨rfl, rfl⟩
      · subst h1 h2
        have hc : (c != 0) = true := by simpa using h3
        have hv : orI 0 0 c = c := by unfold orI; simp
        rw [hv]
        go_enter Try.func68, Try.ntmps68
        go_wp2_with fail
        go_rounds 4
        go_ret
        exact ⟨rfl, rfl⟩
    · subst h1
      have hc : (b != 0) = true := by simpa using h2
      have hv : orI 0 b c = b := by unfold orI; simp [h2]
      rw [hv]
      go_enter Try.func68, Try.ntmps68
      go_wp2_with fail
      go_rounds 4
      go_ret
      exact ⟨rfl, rfl⟩
  · have hc : (a != 0) = true := by simpa using h1
    have hv : orI a b c = a := by unfold orI; simp [h1]
    rw [hv]
    go_enter Try.func68, Try.ntmps68
    go_wp2_with fail
    go_rounds 4
    go_ret
    exact ⟨rfl, rfl⟩
/-- A world that has grown, and drawn. -/
def Gr (w W : World) : Prop := ∃ q os, W = grow (w.drewN q) os
theorem Gr.refl (w : World) : Gr w w := ⟨0, #[], by rw [grow_empty]; rfl⟩
theorem Gr.drew {w W : World} (h : Gr w W) : Gr w W.drew := by
  obtain ⟨q, os, rfl⟩ := h
  exact ⟨q + 1, os, rfl⟩
theorem Gr.alloc {w W : World} (h : Gr w W) (o : Obj) : Gr w (W.alloc o) := by
  obtain ⟨q, os, rfl⟩ := h
  exact ⟨q, os ++ #[o], by rw [alloc_eq_grow, grow_grow]⟩
theorem Gr.trans {w w1 w2 : World} (h : Gr w w1) (h' : Gr w1 w2) : Gr w w2 := by
  obtain ⟨q, os, rfl⟩ := h
  obtain ⟨q', os', rfl⟩ := h'
  exact ⟨q + q', os ++ os', by simp [grow, World.drewN, Nat.add_assoc]⟩
theorem Gr.below {w W : World} (h : Gr w W) : Below w.heap.size w W := by
  obtain ⟨q, os, rfl⟩ := h
  refine ⟨rfl, rfl, rfl, by simp [grow, World.drewN], fun k hk => ?_⟩
  rw [heap_grow_old _ _ (by simpa [World.drewN] using hk)]
  rfl
end Go.Proofs.Ytolcidilnmjlmaa.Key
