/- The chapter's example of layer mend (27). -/
import Derived.Test.YtkcjllkhmncfdaaDoorMndB
import Derived.Test.YtkcjllkhmncfdaaDoorMndC
namespace Go.Proofs.YtkcjllkhmncfdaaDoor.Mnd
open Go.ChangeShapes Go.WideShapes Go.ChangeAt Go.RowKit
open I64s (In64 Sl OwnL ListPost)
open Nodes (Tabs)
open Trm (midV trm ins ins_srt fa mn srt)
set_option linter.unusedVariables false
def exC : List Int := [10, 40, 70]
def midI (f : Int) (zs : List Int) : Int := if zs.length = 0 then 0 else mn (((ins zs).drop (fa zs.length f)).take (zs.length - 2 * fa zs.length f))
theorem mid_ins (f : Int) (zs : List Int) : midV f zs = midI f zs := by unfold midV midI trm; rw [ins_srt]
theorem ex_one : oneL exC 7 [] [] 1 = [40, 40, 40] := by
  unfold oneL oneAt
  simp only [mid_ins]
  decide +kernel
theorem ex_spr : sprV exC (whoL 5 3) = 60 ∧ sprB (whoL 5 3) = true := by decide +kernel
theorem ex_sl (w : World) : Sl (w.alloc (.cells #[.int .i64 10, .int .i64 40, .int .i64 70] 2)) (some ⟨w.heap.size, 0, none⟩) 3 exC := by
  have h : OwnL (w.alloc (.cells #[.int .i64 10, .int .i64 40, .int .i64 70] 2)) w.heap.size (.slice (some ⟨w.heap.size, 0, none⟩) 3 3) exC := World.ownsRow_lit (size := 1) w #[.int .i64 10, .int .i64 40, .int .i64 70] 3 (Nat.le_refl _) (by unfold maxLen; omega) rfl
  exact h.sl
theorem works27_any (w : World) (hT : Tabs w) : Calls Tryd.prog 9 #[] w fun e w' => e = .returned (.bool true) ∧ Below w.heap.size w w' := by
  have hA : ∀ W : World, Below W.heap.size W (W.alloc (.cells #[.int .i64 10, .int .i64 40, .int .i64 70] 2)) := fun W => (Below.refl _ _).alloc (Nat.le_refl _) _
  have C1 : Hid (∀ W : World, Below w.heap.size w W → Calls Tryd.prog 6 #[.slice (some ⟨W.heap.size, 0, none⟩) 3 3, .agg #[.int .u64 7, .slice none 0 0, .slice none 0 0], .int .i64 1] (W.alloc (.cells #[.int .i64 10, .int .i64 40, .int .i64 70] 2))
      fun e w' => ∃ ad cap, e = .returned (.slice ad 3 cap) ∧ Sl w' ad cap [40, 40, 40] ∧ Below W.heap.size W w') := Lib.hid (fun W hB => by
    have := one_any _ 3 exC 7 none 0 [] none 0 [] 1 _ (ex_sl W) (LL.nil _ _) (sl_none _) (by omega) (by decide) ((hT.below hB).below (hA W))
    rw [show ([] : List Rw).map Rw.zs = [] from rfl, ex_one] at this
    refine this.mono ?_
    rintro e w' ⟨ad, cap, rfl, ho, hb⟩
    exact ⟨ad, cap, rfl, ho.sl, (hA W).trans (hb.mono (hA W).size)⟩)
  have C2 : Hid (∀ W : World, Below w.heap.size w W → Calls Tryd.prog 8 #[.slice (some ⟨W.heap.size, 0, none⟩) 3 3, .int .u64 5] (W.alloc (.cells #[.int .i64 10, .int .i64 40, .int .i64 70] 2))
      fun e w' => e = .returned (.tuple #[.int .i64 60, .bool true]) ∧ Below W.heap.size W w') := Lib.hid (fun W hB => by
    have := spread_any _ 3 exC 5 _ (ex_sl W) (by omega) (by decide) ((hT.below hB).below (hA W))
    rw [show exC.length = 3 from rfl, ex_spr.1, ex_spr.2] at this
    refine this.mono ?_
    rintro e w' ⟨rfl, hb⟩
    exact ⟨rfl, (hA W).trans (hb.mono (hA W).size)⟩)
  clear hA
  go_enter Tryd.func9, Tryd.ntmps9
  go_wp2_with fail
  refine (C1.out _ (Below.refl _ _)).mono ?_; rintro e w1 ⟨ad1, cap1, rfl, hs1, hB1⟩
  have B1 : Hid (Below w.heap.size w w1) := Lib.hid hB1
  obtain ⟨b, off, rfl, q0⟩ := hs1.at (k := 0) (by decide)
  obtain ⟨b', off', e', q1⟩ := hs1.at (k := 1) (by decide)
  simp only [Option.some.injEq, Addr.mk.injEq] at e'
  obtain ⟨rfl, rfl, -⟩ := e'
  obtain ⟨b', off', e', q2⟩ := hs1.at (k := 2) (by decide)
  simp only [Option.some.injEq, Addr.mk.injEq] at e'
  obtain ⟨rfl, rfl, -⟩ := e'
  rw [Nat.add_zero] at q0
  have HQ : Hid (∀ W, Below w1.heap.size w1 W → W.cell? ⟨b, off, none⟩ = some (.int .i64 40) ∧ W.cell? ⟨b, off + 1, none⟩ = some (.int .i64 40) ∧ W.cell? ⟨b, off + 2, none⟩ = some (.int .i64 40)) := Lib.hid (fun W hW => ⟨q0 W hW, q1 W hW, q2 W hW⟩)
  have hc3 : 3 ≤ cap1 := hs1.le
  clear hs1 q0 q1 q2 hB1 C1
  go_wp2_with fail
  refine (C2.out _ B1.out).mono ?_; rintro e w2 ⟨rfl, hB2⟩
  obtain ⟨c0, c1, c2⟩ := HQ.out w2 hB2
  have B2 := Lib.hid (B1.out.trans (hB2.mono B1.out.size))
  clear hB2 HQ C2
  go_wp2_with fail
  go_ret
  exact ⟨rfl, B2.out⟩
end Go.Proofs.YtkcjllkhmncfdaaDoor.Mnd
