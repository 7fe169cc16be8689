/- A writer or a reader that is nil does nothing. -/
import Derived.Test.YtglnclcoinpakaaRows
import Derived.WalkKit
import Derived.ProofKit
import Derived.OpenShut
import Derived.ShutString
import Derived.ChangeOld
import Derived.Below
import Derived.Test.YtglnclcoinpakaaBufK
namespace Go.Proofs.Ytglnclcoinpakaa.lawBufNil
open Go.ChangeShapes Go.WideShapes Go.ChangeAt Go.RowKit
open Go.ChangeMaps (open_string shut_string)
set_option linter.unusedVariables false

theorem own : ownKnob Try.prog.godebug = none := by kernel_rfl
theorem laidOut : laidOutB Try.prog = true := by kernel_rfl

/-! The walk: the Go text returns true and writes nothing that was there. -/
set_option maxRecDepth 100000 in
set_option maxHeartbeats 1000000 in
theorem walk (a0 : Int) (a1 : Int) (w : World) (w0 : (Lit.int .u64 a0).wf = true) (w1 : (Lit.int .i64 a1).wf = true) :
    Calls Try.prog 7 #[.int .u64 a0, .int .i64 a1] w fun e w' => e = .returned (.bool true) ∧ Below w.heap.size w w' := by
  obtain ⟨l0, u0⟩ := bounds_u64 w0
  obtain ⟨x, rfl⟩ := Int.eq_ofNat_of_zero_le l0
  have hx : x < 18446744073709551616 := by omega
  obtain ⟨l1, u1⟩ := bounds_i64 w1
  have hib : -9223372036854775808 ≤ wrap64 (x : Int) ∧ wrap64 (x : Int) ≤ 9223372036854775807 := by unfold wrap64; omega
  have C1 : Hid (∀ v W, Calls Try.prog 22 #[.pointer none, v] W fun e w' => e = .returned (.tuple #[]) ∧ W = w') := Lib.hid (fun v W => Buf.byte_nil v W)
  have C2 : Hid (∀ W, Calls Try.prog 23 #[.pointer none, .int .u64 (x : Int), .int .i64 a1] W fun e w' => e = .returned (.tuple #[]) ∧ W = w') := Lib.hid (fun W => Buf.fixed_nil _ _ W)
  have C3 : Hid (∀ W, Calls Try.prog 21 #[.pointer none, .int .u64 (x : Int)] W fun e w' => e = .returned (.tuple #[]) ∧ Below W.heap.size W w') := Lib.hid (fun W => Buf.num_nil x W hx)
  have C4 : Hid (∀ W, Calls Try.prog 24 #[.pointer none, .int .i64 (wrap64 (x : Int))] W fun e w' => e = .returned (.tuple #[]) ∧ Below W.heap.size W w') := Lib.hid (fun W => Buf.int_nil _ W hib.1 hib.2)
  have C5 : Hid (∀ W, Calls Try.prog 25 #[.pointer none, .slice none 0 0] W fun e w' => e = .returned (.tuple #[]) ∧ Below W.heap.size W w') := Lib.hid (fun W => Buf.wbytes_nil W)
  have C6 : Hid (∀ W, Calls Try.prog 11 #[.pointer none] W fun e w' => e = .returned (.tuple #[.slice none 0 0, .int .i64 1]) ∧ W = w') := Lib.hid (fun W => Buf.done_nil W)
  have D1 : Hid (∀ W, Calls Try.prog 26 #[.pointer none] W fun e w' => e = .returned (.int .u8 0) ∧ W = w') := Lib.hid (fun W => Buf.rbyte_nil W)
  have D2 : Hid (∀ W, Calls Try.prog 27 #[.pointer none, .int .i64 a1] W fun e w' => e = .returned (.int .u64 0) ∧ W = w') := Lib.hid (fun W => Buf.rfixed_nil _ W)
  have D3 : Hid (∀ W, Calls Try.prog 20 #[.pointer none] W fun e w' => e = .returned (.int .u64 0) ∧ W = w') := Lib.hid (fun W => Buf.rnum_nil W)
  have D4 : Hid (∀ W, Calls Try.prog 28 #[.pointer none] W fun e w' => e = .returned (.int .i64 0) ∧ W = w') := Lib.hid (fun W => Buf.rint_nil W)
  have D5 : Hid (∀ W, Calls Try.prog 29 #[.pointer none, .int .i64 a1] W fun e w' => e = .returned (.slice none 0 0) ∧ W = w') := Lib.hid (fun W => Buf.rbytes_nil _ W)
  have D6 : Hid (∀ W, Calls Try.prog 17 #[.pointer none] W fun e w' => e = .returned (.int .i64 0) ∧ W = w') := Lib.hid (fun W => Buf.left_nil W)
  have D7 : Hid (∀ W, Calls Try.prog 16 #[.pointer none] W fun e w' => e = .returned (.int .i64 1) ∧ W = w') := Lib.hid (fun W => Buf.err_nil W)
  have D8 : Hid (∀ W, Calls Try.prog 18 #[.pointer none] W fun e w' => e = .returned (.int .i64 1) ∧ W = w') := Lib.hid (fun W => Buf.end_nil W)
  have D9 : Hid (∀ W, Calls Try.prog 12 #[] W fun e w' => e = .returned (.bool true) ∧ Below W.heap.size W w') := Lib.hid (fun W => Buf.works_any W)
  clear hib
  go_enter Try.func7, Try.ntmps7
  go_wp2_with fail
  refine (C1.out _ _).mono ?_; rintro e w' ⟨rfl, rfl⟩
  go_wp2_with fail
  refine (C2.out _).mono ?_; rintro e w' ⟨rfl, rfl⟩
  go_wp2_with fail
  refine (C3.out _).mono ?_; rintro e w1 ⟨rfl, hB1⟩
  go_wp2_with fail
  refine (C4.out _).mono ?_; rintro e w2 ⟨rfl, hB2⟩
  go_wp2_with fail
  refine (C5.out _).mono ?_; rintro e w3 ⟨rfl, hB3⟩
  go_wp2_with fail
  refine (C6.out _).mono ?_; rintro e w' ⟨rfl, rfl⟩
  go_wp2_with fail
  refine (D1.out _).mono ?_; rintro e w' ⟨rfl, rfl⟩
  go_wp2_with fail
  refine (D2.out _).mono ?_; rintro e w' ⟨rfl, rfl⟩
  go_wp2_with fail
  refine (D3.out _).mono ?_; rintro e w' ⟨rfl, rfl⟩
  go_wp2_with fail
  refine (D4.out _).mono ?_; rintro e w' ⟨rfl, rfl⟩
  go_wp2_with fail
  refine (D5.out _).mono ?_; rintro e w' ⟨rfl, rfl⟩
  go_wp2_with fail
  refine (D6.out _).mono ?_; rintro e w' ⟨rfl, rfl⟩
  go_wp2_with fail
  refine (D7.out _).mono ?_; rintro e w' ⟨rfl, rfl⟩
  go_wp2_with fail
  refine (D8.out _).mono ?_; rintro e w' ⟨rfl, rfl⟩
  go_wp2_with fail
  refine (D9.out _).mono ?_; rintro e w4 ⟨rfl, hB4⟩
  go_wp2_with fail
  go_ret
  have h1 : Below w.heap.size w w1 := ((Below.refl _ _).alloc (Nat.le_refl _) _).trans (hB1.mono (by simp))
  have h2 := h1.trans (hB2.mono h1.size)
  have h3 := h2.trans (hB3.mono h2.size)
  exact ⟨rfl, h3.trans (hB4.mono h3.size)⟩

set_option maxRecDepth 100000 in
theorem lifted (os : Os) (started : os.Started) (H : Type) (enc : TypeId × Value → H) :
    ReturnsInHanded {} Try.checked os 7 .any (Rows.bufNilSpec.pre6 enc Try.prog Try.f7 Rows.bufNilRow.domain false) (Rows.bufNilSpec.post enc Try.prog Try.f7 false true false false) := by
  refine returnsInHanded_of_change (C := Try.checked) own started (by kernel_rfl) Try.func7
    (ChangeSpec.witness6 (enc := enc) (C := Try.checked) false ⟨#[], #[.int .u64 0, .int .i64 0], []⟩ 8 (by kernel_rfl) (by kernel_rfl) (by kernel_rfl) (by kernel_rfl)) ?_
  intro W base args ds gs before hval0 hW hcnd _
  have hval : ∀ (j : Nat) t v, Try.f7.params[j]? = some t → args[j]? = some v → Value.okWide Try.prog W .any base t v := hval0
  have hW' := hW
  obtain ⟨p, q, hA0, hV, rfl, hfz, hnd⟩ := hW
  have hA : DataW.TrodAll enc Try.prog W 0 (fun _ => true) true Try.f7.params.toList args.toList ds p := hA0
  rw [Try.params7] at hA hval
  obtain ⟨v0, vs0, d0, ds0, p0, q0, hargs, rfl, rfl, h0, r0⟩ := trodAll_cons hA
  obtain ⟨v1, vs1, d1, ds1, p1, q1, rfl, rfl, rfl, h1, r1⟩ := trodAll_cons r0
  obtain ⟨rfl, rfl, rfl⟩ := trodAll_nil r1
  obtain rfl : args = #[v0, v1] := by cases args; simp_all
  obtain ⟨rfl, rfl⟩ := trodVars_none hV
  obtain ⟨a0, rfl, rfl, rfl, w0⟩ := open_int Try.underlying27 (hval 0 27 v0 rfl rfl) h0
  obtain ⟨a1, rfl, rfl, rfl, w1⟩ := open_int Try.underlying3 (hval 1 3 v1 rfl rfl) h1
  clear hA0 hval0
  refine (walk a0 a1 W w0 w1).mono fun e W' ⟨he, bel⟩ => ?_
  subst he
  exact ⟨_, rfl, _, _, _, [], _, [], hW', trodAll_mk1 (shut_bool Try.underlying4 _), (trodAll_cons_mk (shut_int Try.underlying27 w0) (trodAll_cons_mk (shut_int Try.underlying3 w1) trodAll_mk0)), rfl, bel.frame _, fun h => by cases h⟩

theorem over : Rows.bufNilRow.holds Try.pinned (OpenSpec.ofChange Rows.bufNilSpec) :=
  OpenClaim.holds_of_wide 7 Try.f7 rfl rfl rfl rfl rfl rfl rfl ⟨rfl, rfl, rfl, rfl, rfl⟩ rfl rfl rfl rfl rfl (by kernel_rfl) Try.func7 (by kernel_rfl)
    (of_decide_eq_true (by kernel_rfl)) (by unfold Func.isWrapper; first | (rw [if_pos (by decide +kernel)]; kernel_rfl) | (rw [if_neg (by decide +kernel)]; exact ⟨rfl, rfl⟩))
    (fun os started H enc _ => lifted os started H enc)

theorem proved : Rows.BufNilSaid := over
#print axioms proved
end Go.Proofs.Ytglnclcoinpakaa.lawBufNil
