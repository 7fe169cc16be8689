/- Are two packets the same (layer 9): the program's Same. -/
import Derived.Test.YtanfnhgaooafeaaGreatDoorHedF
import Derived.Test.YtanfnhgaooafeaaGreatDoorHedX
import Derived.Laws.StructEq
import Derived.Deep.RegionHeldLaw
import Derived.Deep.RegionWith
import Derived.Deep.Cut
namespace Go.Proofs.YtanfnhgaooafeaaGreatDoor.Hed
open Go.ChangeShapes Go.WideShapes Go.ChangeAt Go.RowKit Go.Deep
open Go.Proofs.YtanfnhgaooafeaaGreatDoor.Byt Go.Proofs.YtanfnhgaooafeaaGreatDoor.Key Go.Proofs.YtanfnhgaooafeaaGreatDoor.Buf
set_option linter.unusedVariables false
set_option linter.unusedSimpArgs false
/-- Are two packets without their bodies the same? -/
def eqF (p q : Pk) : Bool := (p.kind == q.kind) && ((p.hops == q.hops) && (eqK p.key q.key && ((p.no == q.no) && ((p.stamp == q.stamp) && ((p.value == q.value) && ((p.to == q.to) && ((p.index == q.index) && (p.total == q.total))))))))
theorem eqP_flat (p q : Pk) : eqP p q = (eqF p q && (strB p.body == strB q.body)) := by
  unfold eqP eqF
  generalize (p.kind == q.kind) = a
  generalize (p.hops == q.hops) = b
  generalize eqK p.key q.key = c
  generalize (p.no == q.no) = d
  generalize (p.to == q.to) = e
  generalize (p.index == q.index) = f
  generalize (p.total == q.total) = g
  generalize (p.stamp == q.stamp) = h
  generalize (p.value == q.value) = i
  generalize (strB p.body == strB q.body) = j
  cases a <;> cases b <;> cases c <;> cases d <;> cases e <;> cases f <;> cases g <;> cases h <;> cases i <;> simp
theorem eq_key (a b c d e f : Int) (w : World) : (Op.equalIn 9999 24 (.agg #[.int .i64 a, .int .i64 b, .int .u32 c]) (.agg #[.int .i64 d, .int .i64 e, .int .u32 f])).run Tryz.prog w = .ok (eqK (a, b, c) (d, e, f)) w := by
  have hS : Tryz.prog.underlying 24 = some (.struct (Tryz.prog.fieldsOf 24)) := by kernel_rfl
  have hp : Tryz.prog.stoodInHeld 24 = false := by kernel_rfl
  rw [show (9999 : Nat) = 9998 + 1 from rfl, run_equalIn_struct w 9998 24 _ _ hS hp]
  simp only [Program.fieldsOf, Tryz.underlying24]
  go_simp
  by_cases h1 : a = d <;> by_cases h2 : b = e <;> by_cases h3 : c = f <;> simp [h1, h2, h3, eqK]
set_option maxRecDepth 100000 in
set_option maxHeartbeats 4000000 in
theorem eq_flat (p q : Pk) (w : World) : (Op.equalIn 10000 94 (fval p) (fval q)).run Tryz.prog w = .ok (eqF p q) w := by
  have hS : Tryz.prog.underlying 94 = some (.struct (Tryz.prog.fieldsOf 94)) := by kernel_rfl
  have hp : Tryz.prog.stoodInHeld 94 = false := by kernel_rfl
  obtain ⟨kind, ⟨t, f, s⟩, hops, no, to, index, total, stamp, value, ad, cap, body⟩ := p
  obtain ⟨kind', ⟨t', f', s'⟩, hops', no', to', index', total', stamp', value', ad', cap', body'⟩ := q
  unfold fval eqF
  rw [show (10000 : Nat) = 9999 + 1 from rfl, run_equalIn_struct w 9999 94 _ _ hS hp]
  simp only [Program.fieldsOf, Tryz.underlying94]
  have hk := eq_key t f s t' f' s' w
  go_simp
  clear hk hS hp
  unfold eqK
  repeat' split
  all_goals simp_all
theorem eq_flat_bin (p q : Pk) (w : World) : (binOp .eql 94 (fval p) (fval q)).run Tryz.prog w = .ok (.bool (eqF p q)) w := by
  have h := eq_flat p q w
  show Sem.run Tryz.prog (Value.bool <$> Op.equalIn 10000 94 (fval p) (fval q)) w = _
  generalize fval p = v1 at *
  generalize fval q = v2 at *
  simp [h]
theorem eq_guard (p q : Pk) (x y : Operand) (w : World) : (eqGuard .eql 94 x y (fval p) (fval q)).run Tryz.prog w = .ok () w := by
  unfold fval
  go_simp
theorem two_boxes (w w0 : World) (p q : Pk) (h : w0 = (w.alloc (.cells p.cells 27)).alloc (.cells q.cells 27)) :
    Below w.heap.size w w0 ∧ Blk w0 w.heap.size 27 p.cells ∧ Blk w0 (w.heap.size + 1) 27 q.cells := by
  subst h
  refine ⟨((Below.refl _ _).alloc (Nat.le_refl _) _).alloc (by simp) _, (Blk.new w _ _).alloc _, ?_⟩
  have := Blk.new (w.alloc (.cells p.cells 27)) 27 q.cells
  rw [World.size_alloc] at this
  exact this
set_option maxRecDepth 100000 in
set_option maxHeartbeats 4000000 in
theorem hsame_any (p q : Pk) (w : World) (hp : RdB w p.ad p.body) (hq : RdB w q.ad q.body) :
    Calls Tryz.prog 66 #[pval p, pval q] w fun e w' => e = .returned (.bool (eqP p q)) ∧ Below w.heap.size w w' := by
  obtain ⟨wb, hwb⟩ : ∃ wb, Hid (wb = (w.alloc (.cells p.cells 27)).alloc (.cells q.cells 27)) := ⟨_, Lib.hid rfl⟩
  have HB0 := Lib.hid (two_boxes w wb p q hwb.out).1
  have HC : Hid (∀ W, Below wb.heap.size wb W → _ ∧ _) := Lib.hid (fun W hW => ⟨blk_cells ((two_boxes w wb p q hwb.out).2.1.below hW), blk_cells ((two_boxes w wb p q hwb.out).2.2.below hW)⟩)
  have C1 : Hid (∀ W, Below wb.heap.size wb W → Calls Tryz.prog 91 #[pval p] W fun e w' => e = .returned (fval p) ∧ Below wb.heap.size wb w') := Lib.hid (fun W hW => (flatten_any p W).mono fun e w' h => ⟨h.1, hW.trans (h.2.mono hW.size)⟩)
  have C2 : Hid (∀ W, Below wb.heap.size wb W → Calls Tryz.prog 91 #[pval q] W fun e w' => e = .returned (fval q) ∧ Below wb.heap.size wb w') := Lib.hid (fun W hW => (flatten_any q W).mono fun e w' h => ⟨h.1, hW.trans (h.2.mono hW.size)⟩)
  have C3 : Hid (∀ W, Below wb.heap.size wb W → Calls Tryz.prog 92 #[.slice p.ad p.body.length p.cap, .slice q.ad q.body.length q.cap] W fun e w' => e = .returned (.bool (strB p.body == strB q.body)) ∧ Below wb.heap.size wb w') := Lib.hid (fun W hW => (equal_any _ _ _ _ _ _ W (hp.below (HB0.out.trans (hW.mono HB0.out.size))) (hq.below (HB0.out.trans (hW.mono HB0.out.size)))).mono fun e w' h => ⟨h.1, h.2 ▸ hW⟩)
  have HE := Lib.hid (fun W => eq_flat_bin p q W)
  have HG := Lib.hid (fun x y W => eq_guard p q x y W)
  rw [eqP_flat]
  generalize fval p = v1 at *
  generalize fval q = v2 at *
  generalize (strB p.body == strB q.body) = sb at *
  generalize eqF p q = fe at *
  have hE := HE.out
  have hG := HG.out
  obtain ⟨kind, ⟨t, f, s⟩, hops, no, to, index, total, stamp, value, ad, cap, body⟩ := p
  obtain ⟨kind', ⟨t', f', s'⟩, hops', no', to', index', total', stamp', value', ad', cap', body'⟩ := q
  clear hp hq HE HG
  unfold pval Pk.cells at C1 C2
  unfold Pk.cells at hwb
  unfold pval Pk.cells
  simp only at C1 C2 C3 hwb HC ⊢
  cases fe with
  | true =>
    go_enter Tryz.func66, Tryz.ntmps66
    go_upto_region 1 with fail
    rw [← hwb.out]
    obtain ⟨⟨c0, c1, c2, c3, c4, c5, c6, c7, c8, c9, c10, c11⟩, d0, d1, d2, d3, d4, d5, d6, d7, d8, d9, d10, d11⟩ := HC.out wb (Below.refl _ _)
    refine wp_region_noPanic ?_
    go_region_held_law (fun W => Below wb.heap.size wb W ∧ (W.cell? ⟨w.heap.size, 0, none⟩ = some (.int .i64 kind) ∧ W.cell? ⟨w.heap.size, 1, none⟩ = some (.int .i64 t) ∧ W.cell? ⟨w.heap.size, 2, none⟩ = some (.int .i64 f) ∧ W.cell? ⟨w.heap.size, 3, none⟩ = some (.int .u32 s) ∧ W.cell? ⟨w.heap.size, 4, none⟩ = some (.int .i64 hops) ∧ W.cell? ⟨w.heap.size, 5, none⟩ = some (.int .i64 no) ∧ W.cell? ⟨w.heap.size, 6, none⟩ = some (.int .i64 to) ∧ W.cell? ⟨w.heap.size, 7, none⟩ = some (.int .i64 index) ∧ W.cell? ⟨w.heap.size, 8, none⟩ = some (.int .i64 total) ∧ W.cell? ⟨w.heap.size, 9, none⟩ = some (.int .i64 stamp) ∧ W.cell? ⟨w.heap.size, 10, none⟩ = some (.int .i64 value) ∧ W.cell? ⟨w.heap.size, 11, none⟩ = some (.slice ad body.length cap)) ∧ (W.cell? ⟨w.heap.size + 1, 0, none⟩ = some (.int .i64 kind') ∧ W.cell? ⟨w.heap.size + 1, 1, none⟩ = some (.int .i64 t') ∧ W.cell? ⟨w.heap.size + 1, 2, none⟩ = some (.int .i64 f') ∧ W.cell? ⟨w.heap.size + 1, 3, none⟩ = some (.int .u32 s') ∧ W.cell? ⟨w.heap.size + 1, 4, none⟩ = some (.int .i64 hops') ∧ W.cell? ⟨w.heap.size + 1, 5, none⟩ = some (.int .i64 no') ∧ W.cell? ⟨w.heap.size + 1, 6, none⟩ = some (.int .i64 to') ∧ W.cell? ⟨w.heap.size + 1, 7, none⟩ = some (.int .i64 index') ∧ W.cell? ⟨w.heap.size + 1, 8, none⟩ = some (.int .i64 total') ∧ W.cell? ⟨w.heap.size + 1, 9, none⟩ = some (.int .i64 stamp') ∧ W.cell? ⟨w.heap.size + 1, 10, none⟩ = some (.int .i64 value') ∧ W.cell? ⟨w.heap.size + 1, 11, none⟩ = some (.slice ad' body'.length cap'))) ((refine ⟨?_, HC.out _ ?_⟩ <;> (first | assumption | exact (Below.refl _ _) | exact (Below.refl _ _).drew)))
      (first
        | (go_at_call 91; (with_reducible refine (C1.out _ ?_).mono ?_); (focus (first | assumption | exact (Below.refl _ _) | exact (Below.refl _ _).drew | exact (‹Below wb.heap.size wb _ ∧ _›).1)); rintro e w3 ⟨rfl, hB3⟩)
        | (go_at_call 91; (with_reducible refine (C2.out _ ?_).mono ?_); (focus (first | assumption | exact (Below.refl _ _) | exact (Below.refl _ _).drew | exact (‹Below wb.heap.size wb _ ∧ _›).1)); rintro e w4 ⟨rfl, hB4⟩)
        | (go_at_call 92; (with_reducible refine (C3.out _ ?_).mono ?_); (focus (first | assumption | exact (Below.refl _ _) | exact (Below.refl _ _).drew | exact (‹Below wb.heap.size wb _ ∧ _›).1)); rintro e w5 ⟨rfl, hB5⟩))
    all_goals
      refine NoPanic.normal ?_
      go_wp2_with fail
      go_ret
      exact ⟨rfl, HB0.out.trans ((‹Below wb.heap.size wb _ ∧ _›).1.mono HB0.out.size)⟩
  | false =>
    go_enter Tryz.func66, Tryz.ntmps66
    go_upto_region 1 with fail
    rw [← hwb.out]
    obtain ⟨⟨c0, c1, c2, c3, c4, c5, c6, c7, c8, c9, c10, c11⟩, d0, d1, d2, d3, d4, d5, d6, d7, d8, d9, d10, d11⟩ := HC.out wb (Below.refl _ _)
    refine wp_region_noPanic ?_
    first
      | (go_region_with (first
          | (go_at_call 91; (with_reducible refine (C1.out _ ?_).mono ?_); (focus (first | assumption | exact (Below.refl _ _) | exact (Below.refl _ _).drew | exact (‹Below wb.heap.size wb _ ∧ _›).1)); rintro e w3 ⟨rfl, hB3⟩; obtain ⟨⟨c0, c1, c2, c3, c4, c5, c6, c7, c8, c9, c10, c11⟩, d0, d1, d2, d3, d4, d5, d6, d7, d8, d9, d10, d11⟩ := HC.out w3 hB3)
          | (go_at_call 91; (with_reducible refine (C2.out _ ?_).mono ?_); (focus (first | assumption | exact (Below.refl _ _) | exact (Below.refl _ _).drew | exact (‹Below wb.heap.size wb _ ∧ _›).1)); rintro e w4 ⟨rfl, hB4⟩; obtain ⟨⟨c0, c1, c2, c3, c4, c5, c6, c7, c8, c9, c10, c11⟩, d0, d1, d2, d3, d4, d5, d6, d7, d8, d9, d10, d11⟩ := HC.out w4 hB4)))
      | fail "held"
    all_goals
      refine NoPanic.normal ?_
      simp only [Act.put, List.getElem_toArray, List.getElem_cons_succ, List.getElem_cons_zero, List.setIfInBounds_toArray, List.set_cons_zero, List.set_cons_succ]
      go_wp2_with fail
      go_ret
      exact ⟨rfl, HB0.out.trans (Below.mono (by assumption) HB0.out.size)⟩
end Go.Proofs.YtanfnhgaooafeaaGreatDoor.Hed
