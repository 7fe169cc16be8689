/- Contracts of package agenda (layer 8) at int: New, Take. -/
import Derived.Test.YtliblcjfccijjaaAgnE
namespace Go.Proofs.Ytliblcjfccijjaa.AgdN
open Go.ChangeShapes Go.WideShapes Go.ChangeAt Go.RowKit
open Go.Proofs.Ytliblcjfccijjaa.Rw Go.Proofs.Ytliblcjfccijjaa.Agd
set_option linter.unusedVariables false
set_option linter.unusedSimpArgs false
theorem new_any (m : Int) (w : World) :
    Calls Try.prog 60 #[.int .i64 m] w fun e w' => ∃ g, e = .returned (.pointer (some ⟨g, 0, none⟩)) ∧ AgL w' g (min (max m 0) 65536) 0 [] (fun j => w.heap.size ≤ j ∧ j < w'.heap.size) ∧ Below w.heap.size w w' := by
  have HP : Hid (∀ v, AgL (w.alloc (.cells #[.int .i64 v, .int .u64 0, .slice none 0 0] 124)) w.heap.size v 0 [] (fun j => w.heap.size ≤ j ∧ j < (w.alloc (.cells #[.int .i64 v, .int .u64 0, .slice none 0 0] 124)).heap.size) ∧ Below w.heap.size w (w.alloc (.cells #[.int .i64 v, .int .u64 0, .slice none 0 0] 124))) := Lib.hid (fun v => by
    refine ⟨⟨[], ⟨⟨Nat.le_refl _, by simp⟩, .inl ⟨rfl, Blk.new w _ _⟩⟩, fun i h0 hi => by simp at hi, .refl _, .nil, fun t ht => by simp at ht⟩, (Below.refl _ _).alloc (Nat.le_refl _) _⟩)
  go_enter Try.func60, Try.ntmps60
  go_wp2_with fail
  go_ret
  exact ⟨_, rfl, HP.out _⟩
theorem take_any (now : Int) (g : Nat) (most : Int) (add : Nat) (l : List Th) (F : Nat → Prop) (w : World) (h : AgL w g most add l F) (hN : l.length ≤ 1000000) :
    Calls Try.prog 77 #[.pointer (some ⟨g, 0, none⟩), .int .i64 now] w fun e w' => e = .returned (.tuple #[.int .i64 (tx l now), .bool (can l now)]) ∧ AgStay g most add (tl l now) F w w' := by
  have CN := Lib.hid (next_ag g most add l F w h hN)
  have HS : Hid (∀ W, Below w.heap.size w W → AgStay g most add l F w W) := Lib.hid (fun W hW => AgStay.same h hW)
  by_cases hl : l = []
  · have e1 : can l now = false := by simp [can, hl]
    rw [show some1 l = false by simp [some1, hl]] at CN
    unfold tx tl
    rw [e1]
    simp only [Bool.false_eq_true, if_false]
    clear h hl e1
    generalize nd l = d at *
    go_enter Try.func77, Try.ntmps77
    go_wp2_with fail
    refine (CN.out).mono ?_; rintro e w1 ⟨rfl, rfl⟩
    go_wp2_with fail
    go_ret2
    exact ⟨rfl, HS.out _ (Below.refl _ _)⟩
  · rw [show some1 l = true by simp [some1, hl], show nd l = (Agd.hd l).due from if_neg hl] at CN
    by_cases hn : now < (Agd.hd l).due
    · have e1 : can l now = false := by simp [can, hl]; omega
      have e2 : decide ((Agd.hd l).due > now) = true := by simp; omega
      unfold tx tl
      rw [e1]
      simp only [Bool.false_eq_true, if_false]
      clear h hl e1
      generalize (Agd.hd l).due = d at *
      go_enter Try.func77, Try.ntmps77
      go_wp2_with fail
      refine (CN.out).mono ?_; rintro e w1 ⟨rfl, rfl⟩
      go_wp2_with fail
      go_ret2
      exact ⟨rfl, HS.out _ (Below.refl _ _)⟩
    · have e1 : can l now = true := by simp [can, hl]; omega
      obtain ⟨b, cap, H, hr, hb, hlen, hroot, hh, hp, hF, hs, hno⟩ := h.row hl
      have h0 : 0 < l.length := List.length_pos_iff.2 hl
      obtain ⟨a0, a1, a2⟩ := hr.at_ (i := 0) (by omega)
      rw [hroot] at a2
      have c2 := hr.cells.2.2
      have hcap := hr.len
      unfold maxLen at hcap
      have CS := Lib.hid (shed_any g b most add cap H w hr (by omega) (by omega) hh)
      have HE : Hid (∀ w', (∃ l', RowL w' g b most add cap l' ∧ Heap l' ∧ l'.Perm ((swp H 0 (H.length - 1)).take (H.length - 1)) ∧ Stay (fun k => k = b ∨ k = g) w w') → AgStay g most add (tk l) F w w') := Lib.hid (fun w' ⟨l', q1, q2, q3, q4⟩ =>
        ⟨⟨l', ⟨hF, .inr ⟨b, cap, hb, q1⟩⟩, q2, shed_eq hh hp hs hl q3, hs.tk, fun t ht => hno t ((tk_perm hl).mem_iff.1 (List.mem_cons_of_mem _ ht))⟩, q4.mono (fun k e => e.elim (fun e => e ▸ hb) (fun e => e ▸ hF))⟩)
      rw [hlen] at c2 hcap
      have hne : ¬ ((l.length : Int) = 0) := by omega
      simp only [Nat.zero_mul, Nat.zero_add] at a2
      unfold tx tl
      rw [e1]
      simp only [if_true]
      generalize tk l = l5 at *
      generalize (Agd.hd l).due = d at *
      generalize (Agd.hd l).x = x at *
      have hdn : ¬ (d > now) := by omega
      clear h a0 a1 hr hb hl HS hh hp hs hno hlen hroot e1
      generalize l.length = n at *
      go_enter Try.func77, Try.ntmps77
      go_wp2_with fail
      refine (CN.out).mono ?_; rintro e w1 ⟨rfl, rfl⟩
      go_wp2_with fail
      refine (CS.out).mono ?_; rintro e w1 ⟨rfl, hq⟩
      have HQ := Lib.hid (HE.out _ hq)
      clear hq
      go_wp2_with fail
      go_ret2
      exact ⟨rfl, HQ.out⟩
end Go.Proofs.Ytliblcjfccijjaa.AgdN
