/- Whether any configuration's periods are wide enough is as the document says. -/
import Derived.Test.YtbbenfjfdmnpmaaRows
import Derived.WalkKit
import Derived.ProofKit
import Derived.OpenShut
import Derived.ShutString
import Derived.ChangeOld
import Derived.Below
import Derived.Test.YtbbenfjfdmnpmaaQuiB
import Derived.Deep.Cut
import Derived.Test.YtbbenfjfdmnpmaaBndX
namespace Go.Proofs.Ytbbenfjfdmnpmaa.lawBoundEnough
open Go.ChangeShapes Go.WideShapes Go.ChangeAt Go.RowKit
open Go.ChangeMaps (open_string shut_string)
set_option linter.unusedVariables false

theorem own : ownKnob Try.prog.godebug = none := by kernel_rfl
theorem laidOut : laidOutB Try.prog = true := by kernel_rfl

/-! The walk: the Go text returns true and writes nothing that was there. -/
set_option linter.unusedSimpArgs false in
set_option maxRecDepth 100000 in
set_option maxHeartbeats 4000000 in
theorem walk (a0 : Bnd.Cf) (w : World) (w0 : Bnd.OkCf w a0) :
    Calls Try.prog 4 #[Bnd.cval a0] w fun e w' => e = .returned (.bool true) ∧ Below w.heap.size w w' := by
  have hn := w0.n
  have C1 := Lib.hid (fun W => Bnd.en_any a0 hn W)
  have C2 := Lib.hid (fun W => Bnd.ren_any a0 W)
  have C9 := Lib.hid (fun W => Bnd.works26_any W)
  generalize Bnd.enB a0 = e at *
  have e0 : (e == e) = true := beq_iff_eq.2 rfl
  clear w0 hn
  obtain ⟨n, lk, lL, lC, lS, fl, a, b, r, v, pr, pw, pa, x1, x2, x3, x4, x5⟩ := a0
  unfold Bnd.cval Bnd.ccells at *
  dsimp only at *
  have BE := Lib.hid (show Below w.heap.size w (w.alloc (.cells #[.int .i64 n, .slice lk lL lC, .int .i64 fl, .int .i64 a, .int .i64 b, .int .i64 r, .int .i64 v, .int .i64 pr, .int .i64 pw, .int .i64 pa, .int .i64 x1, .int .i64 x2, .int .i64 x3, .int .i64 x4, .int .i64 x5] 24)) from (Below.refl _ _).alloc (Nat.le_refl _) _)
  have HC : Hid (∀ W, Below (w.alloc (.cells #[.int .i64 n, .slice lk lL lC, .int .i64 fl, .int .i64 a, .int .i64 b, .int .i64 r, .int .i64 v, .int .i64 pr, .int .i64 pw, .int .i64 pa, .int .i64 x1, .int .i64 x2, .int .i64 x3, .int .i64 x4, .int .i64 x5] 24)).heap.size (w.alloc (.cells #[.int .i64 n, .slice lk lL lC, .int .i64 fl, .int .i64 a, .int .i64 b, .int .i64 r, .int .i64 v, .int .i64 pr, .int .i64 pw, .int .i64 pa, .int .i64 x1, .int .i64 x2, .int .i64 x3, .int .i64 x4, .int .i64 x5] 24)) W → Rw.Blk W w.heap.size 24 #[.int .i64 n, .slice lk lL lC, .int .i64 fl, .int .i64 a, .int .i64 b, .int .i64 r, .int .i64 v, .int .i64 pr, .int .i64 pw, .int .i64 pa, .int .i64 x1, .int .i64 x2, .int .i64 x3, .int .i64 x4, .int .i64 x5]) := Lib.hid (fun W hB => Rw.Blk.below (Rw.Blk.new w _ _) hB)
  go_enter Try.func4, Try.ntmps4
  go_upto_region 1 with fail
  generalize (w.alloc (.cells #[.int .i64 n, .slice lk lL lC, .int .i64 fl, .int .i64 a, .int .i64 b, .int .i64 r, .int .i64 v, .int .i64 pr, .int .i64 pw, .int .i64 pa, .int .i64 x1, .int .i64 x2, .int .i64 x3, .int .i64 x4, .int .i64 x5] 24)) = w1 at *
  have c0 : ∀ z : Qui.Cls w1, z.V.cell? ⟨w.heap.size, 0, none⟩ = some (.int .i64 n) := fun z => (HC.out _ z.lies).cell 0
  have c1 : ∀ z : Qui.Cls w1, z.V.cell? ⟨w.heap.size, 1, none⟩ = some (.slice lk lL lC) := fun z => (HC.out _ z.lies).cell 1
  have c2 : ∀ z : Qui.Cls w1, z.V.cell? ⟨w.heap.size, 2, none⟩ = some (.int .i64 fl) := fun z => (HC.out _ z.lies).cell 2
  have c3 : ∀ z : Qui.Cls w1, z.V.cell? ⟨w.heap.size, 3, none⟩ = some (.int .i64 a) := fun z => (HC.out _ z.lies).cell 3
  have c4 : ∀ z : Qui.Cls w1, z.V.cell? ⟨w.heap.size, 4, none⟩ = some (.int .i64 b) := fun z => (HC.out _ z.lies).cell 4
  have c5 : ∀ z : Qui.Cls w1, z.V.cell? ⟨w.heap.size, 5, none⟩ = some (.int .i64 r) := fun z => (HC.out _ z.lies).cell 5
  have c6 : ∀ z : Qui.Cls w1, z.V.cell? ⟨w.heap.size, 6, none⟩ = some (.int .i64 v) := fun z => (HC.out _ z.lies).cell 6
  have c7 : ∀ z : Qui.Cls w1, z.V.cell? ⟨w.heap.size, 7, none⟩ = some (.int .i64 pr) := fun z => (HC.out _ z.lies).cell 7
  have c8 : ∀ z : Qui.Cls w1, z.V.cell? ⟨w.heap.size, 8, none⟩ = some (.int .i64 pw) := fun z => (HC.out _ z.lies).cell 8
  have c9 : ∀ z : Qui.Cls w1, z.V.cell? ⟨w.heap.size, 9, none⟩ = some (.int .i64 pa) := fun z => (HC.out _ z.lies).cell 9
  have c10 : ∀ z : Qui.Cls w1, z.V.cell? ⟨w.heap.size, 10, none⟩ = some (.int .i64 x1) := fun z => (HC.out _ z.lies).cell 10
  have c11 : ∀ z : Qui.Cls w1, z.V.cell? ⟨w.heap.size, 11, none⟩ = some (.int .i64 x2) := fun z => (HC.out _ z.lies).cell 11
  have c12 : ∀ z : Qui.Cls w1, z.V.cell? ⟨w.heap.size, 12, none⟩ = some (.int .i64 x3) := fun z => (HC.out _ z.lies).cell 12
  have c13 : ∀ z : Qui.Cls w1, z.V.cell? ⟨w.heap.size, 13, none⟩ = some (.int .i64 x4) := fun z => (HC.out _ z.lies).cell 13
  have c14 : ∀ z : Qui.Cls w1, z.V.cell? ⟨w.heap.size, 14, none⟩ = some (.int .i64 x5) := fun z => (HC.out _ z.lies).cell 14
  refine Qui.wp_region_quiet_below (by kernel_rfl) (by kernel_rfl) ?_
  repeat (go_big_quiet_step (first | (with_reducible exact Qui.cls_below (C1.out _)) | (with_reducible exact Qui.cls_below (C2.out _)) | (with_reducible exact Qui.cls_below (C9.out _))))
  refine wpQuiet_nil ?_
  intro _ hw'
  obtain ⟨zz, rfl⟩ := hw'
  have B9 := Lib.hid (BE.out.trans (zz.lies.mono BE.out.size))
  generalize zz.V = V at *
  clear c0 c1 c2 c3 c4 c5 c6 c7 c8 c9 c10 c11 c12 c13 c14
  go_wp2_with fail
  go_ret
  exact ⟨rfl, B9.out⟩

set_option maxRecDepth 100000 in
theorem lifted (os : Os) (started : os.Started) (H : Type) (enc : TypeId × Value → H) :
    ReturnsInHanded {} Try.checked os 4 .any (Rows.boundEnoughSpec.pre6 enc Try.prog Try.f4 Rows.boundEnoughRow.domain false) (Rows.boundEnoughSpec.post enc Try.prog Try.f4 false true false false) := by
  refine returnsInHanded_of_change (C := Try.checked) own started (by kernel_rfl) Try.func4
    (ChangeSpec.witness6 (enc := enc) (C := Try.checked) false ⟨#[], #[(.agg #[.int .i64 0, .slice none 0 0, .int .i64 0, .int .i64 0, .int .i64 0, .int .i64 0, .int .i64 0, .int .i64 0, .int .i64 0, .int .i64 0, .int .i64 0, .int .i64 0, .int .i64 0, .int .i64 0, .int .i64 0])], []⟩ 8 (by kernel_rfl) (by kernel_rfl) (by kernel_rfl) (by kernel_rfl)) ?_
  intro W base args ds gs before hval0 hW hcnd _
  have hval : ∀ (j : Nat) t v, Try.f4.params[j]? = some t → args[j]? = some v → Value.okWide Try.prog W .any base t v := hval0
  have hW' := hW
  obtain ⟨p, q, hA0, hV, rfl, hfz, hnd⟩ := hW
  have hA : DataW.TrodAll enc Try.prog W 0 (fun _ => true) true Try.f4.params.toList args.toList ds p := hA0
  rw [Try.params4] at hA hval
  obtain ⟨v0, vs0, d0, ds0, p0, q0, hargs, rfl, rfl, h0, r0⟩ := trodAll_cons hA
  obtain ⟨rfl, rfl, rfl⟩ := trodAll_nil r0
  obtain rfl : args = #[v0] := by cases args; simp_all
  obtain ⟨rfl, rfl⟩ := trodVars_none hV
  have k0 := h0
  have lt0 : ∀ x ∈ p0, x.block < W.heap.size := by obtain ⟨m, hm⟩ := k0; exact DataW.trod_lt m _ _ _ hm
  obtain ⟨a0, rfl, w0⟩ := Bnd.open_cf (hval 0 24 v0 rfl rfl) h0
  clear hA0 hval0
  refine (walk a0 W w0).mono fun e W' ⟨he, bel⟩ => ?_
  subst he
  exact ⟨_, rfl, _, _, _, [], _, [], hW', trodAll_mk1 (shut_bool Try.underlying4 _), (trodAll_cons_mk (Below.trod laidOut (by kernel_rfl) (of_decide_eq_true (by kernel_rfl)) k0 bel lt0) trodAll_mk0), rfl, bel.frame _, fun h => by cases h⟩

theorem over : Rows.boundEnoughRow.holds Try.pinned (OpenSpec.ofChange Rows.boundEnoughSpec) :=
  OpenClaim.holds_of_wide 4 Try.f4 rfl rfl rfl rfl rfl rfl rfl ⟨rfl, rfl, rfl, rfl, rfl⟩ rfl rfl rfl rfl rfl (by kernel_rfl) Try.func4 (by kernel_rfl)
    (of_decide_eq_true (by kernel_rfl)) (by unfold Func.isWrapper; first | (rw [if_pos (by decide +kernel)]; kernel_rfl) | (rw [if_neg (by decide +kernel)]; exact ⟨rfl, rfl⟩))
    (fun os started H enc _ => lifted os started H enc)

theorem proved : Rows.BoundEnoughSaid := over
#print axioms proved
end Go.Proofs.Ytbbenfjfdmnpmaa.lawBoundEnough
