/- Contracts of package key (layer 6): Compare, Less, Good, Of, Array, Rising. -/
import Derived.Test.YtolcidilnmjlmaaKeyD
import Derived.Deep.Cut
namespace Go.Proofs.Ytolcidilnmjlmaa.Key
open Go.ChangeShapes Go.WideShapes Go.ChangeAt Go.RowKit Go.Sort
set_option linter.unusedVariables false
theorem compare_any (x y : Ky) (w : World) :
    Calls Try.prog 61 #[kval x, kval y] w fun e w' => e = .returned (.int .i64 (cmpK x y)) ∧ Gr w w' := by
  obtain ⟨a, b, c⟩ := x
  obtain ⟨d, e, f⟩ := y
  obtain ⟨w2, hw2⟩ : ∃ w2, Hid (w2 = (w.alloc (.cells #[.int .i64 a, .int .i64 b, .int .u32 c] 34)).alloc (.cells #[.int .i64 d, .int .i64 e, .int .u32 f] 34)) := ⟨_, Lib.hid rfl⟩
  have HG : Hid (Gr w w2) := Lib.hid (by rw [hw2.out]; exact ((Gr.refl w).alloc _).alloc _)
  have HC : Hid (∀ W, Gr w2 W → (W.cell? ⟨w.heap.size, 0, none⟩ = some (.int .i64 a) ∧ W.cell? ⟨w.heap.size, 1, none⟩ = some (.int .i64 b) ∧ W.cell? ⟨w.heap.size, 2, none⟩ = some (.int .u32 c)) ∧
      (W.cell? ⟨w.heap.size + 1, 0, none⟩ = some (.int .i64 d) ∧ W.cell? ⟨w.heap.size + 1, 1, none⟩ = some (.int .i64 e) ∧ W.cell? ⟨w.heap.size + 1, 2, none⟩ = some (.int .u32 f))) := Lib.hid (fun W hW => by
    have hB := hW.below
    have hs : w2.heap.size = w.heap.size + 2 := by rw [hw2.out, World.size_alloc, World.size_alloc]
    have h1 : Rw.At enc w2 w.heap.size 0 (a, b, c) := by
      rw [hw2.out]
      exact (Rw.At.box (enc := enc) (e := 34) w (a, b, c) _ rfl).below (box_below _ _) (by rw [World.size_alloc]; omega)
    have h2 : Rw.At enc w2 (w.heap.size + 1) 0 (d, e, f) := by
      rw [hw2.out]
      have := Rw.At.box (enc := enc) (e := 34) (w.alloc (.cells #[.int .i64 a, .int .i64 b, .int .u32 c] 34)) (d, e, f) _ rfl
      rw [World.size_alloc] at this
      exact this
    have h3 := at3 (h1.below hB (by omega))
    have h4 := at3 (h2.below hB (by omega))
    simp only [Nat.zero_add] at h3 h4
    exact ⟨h3, h4⟩)
  have C1 := Lib.hid (fun W => cmp64 a d W)
  have C2 := Lib.hid (fun W => cmpint b e W)
  have C3 := Lib.hid (fun W => cmp32 c f W)
  have HV := Lib.hid (show cmpK (a, b, c) (d, e, f) = orI (cI a d) (cI b e) (cI c f) from rfl)
  rw [HV.out]
  clear HV
  generalize cI a d = r1 at *
  generalize cI b e = r2 at *
  generalize cI c f = r3 at *
  have C4 : Hid (∀ g W, W.cell? ⟨g, 0, none⟩ = some (.int .i64 r1) → W.cell? ⟨g, 1, none⟩ = some (.int .i64 r2) → W.cell? ⟨g, 2, none⟩ = some (.int .i64 r3) → Calls Try.prog 68 #[.slice (some ⟨g, 0, none⟩) 3 3] W fun e w' => e = .returned (.int .i64 (orI r1 r2 r3)) ∧ W = w') := Lib.hid (fun g W h1 h2 h3 => orI_any r1 r2 r3 g W h1 h2 h3)
  generalize orI r1 r2 r3 = r at *
  unfold kval
  go_enter Try.func61, Try.ntmps61
  go_upto_region 1 with fail
  rw [← hw2.out]
  obtain ⟨⟨c0, c1, c2⟩, d0, d1, d2⟩ := HC.out w2 (Gr.refl w2)
  refine wp_region_noPanic ?_
  go_region_held_law (fun W => Gr w2 W ∧ (W.cell? ⟨w.heap.size, 0, none⟩ = some (.int .i64 a) ∧ W.cell? ⟨w.heap.size, 1, none⟩ = some (.int .i64 b) ∧ W.cell? ⟨w.heap.size, 2, none⟩ = some (.int .u32 c)) ∧
      (W.cell? ⟨w.heap.size + 1, 0, none⟩ = some (.int .i64 d) ∧ W.cell? ⟨w.heap.size + 1, 1, none⟩ = some (.int .i64 e) ∧ W.cell? ⟨w.heap.size + 1, 2, none⟩ = some (.int .u32 f))) ((refine ⟨?_, HC.out _ ?_⟩ <;> (repeat' (first | assumption | exact Gr.refl _ | exact (‹Gr w2 _ ∧ _›).1 | refine Gr.drew ?_ | refine Gr.alloc ?_ _))))
    (first
      | (go_at_call 69; refine (C1.out _).mono ?_; rintro e w' ⟨rfl, rfl⟩)
      | (go_at_call 70; refine (C2.out _).mono ?_; rintro e w' ⟨rfl, rfl⟩)
      | (go_at_call 71; refine (C3.out _).mono ?_; rintro e w' ⟨rfl, rfl⟩)
      | (go_at_call 68; refine (C4.out _ _ (by simp) (by simp) (by simp)).mono ?_; rintro e w' ⟨rfl, rfl⟩))
  rename_i hHeld
  obtain ⟨hG2, -⟩ := hHeld
  refine NoPanic.normal ?_
  go_wp2_with fail
  go_ret
  exact ⟨rfl, HG.out.trans hG2⟩
theorem less_any (x y : Ky) (w : World) :
    Calls Try.prog 59 #[kval x, kval y] w fun e w' => e = .returned (.bool (ltK x y)) ∧ Below w.heap.size w w' := by
  have HV := Lib.hid (cmp_lt x y)
  have C := Lib.hid (fun W => compare_any x y W)
  generalize ltK x y = r at *
  generalize cmpK x y = z at *
  obtain ⟨a, b, c⟩ := x
  obtain ⟨d, e, f⟩ := y
  have hB : Hid (Below w.heap.size w ((w.alloc (.cells #[.int .i64 a, .int .i64 b, .int .u32 c] 34)).alloc (.cells #[.int .i64 d, .int .i64 e, .int .u32 f] 34))) := Lib.hid ((box_below _ _).alloc (by simp) _)
  unfold kval at *
  go_enter Try.func59, Try.ntmps59
  go_wp2_with fail
  refine (C.out _).mono ?_; rintro e w' ⟨rfl, hG⟩
  have HB2 := Lib.hid (hB.out.trans (hG.below.mono hB.out.size))
  clear hG hB
  go_wp2_with fail
  go_ret
  exact ⟨by rw [HV.out]; rfl, HB2.out⟩
def aval (a b c : Int) : Value := .agg #[.int .i64 a, .int .i64 b, .int .i64 c]
def okA (b c : Int) : Bool := decide (0 ≤ b ∧ b < 64) && decide (0 ≤ c ∧ c ≤ 4294967295)
def ofA (a b c : Int) : Ky := if okA b c then (a, b, c) else (0, 0, 0)
def risK (l : List Ky) : Bool := (List.range (l.length - 1)).all fun j => ltK (l.getD j default) (l.getD (j + 1) default)
end Go.Proofs.Ytolcidilnmjlmaa.Key
