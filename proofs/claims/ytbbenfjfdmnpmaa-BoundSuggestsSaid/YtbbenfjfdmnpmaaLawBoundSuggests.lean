/- Which periods are suggested for any configuration is as the document says, and they are wide enough. -/
import Derived.Test.YtbbenfjfdmnpmaaRows
import Derived.WalkKit
import Derived.ProofKit
import Derived.OpenShut
import Derived.ShutString
import Derived.ChangeOld
import Derived.Below
import Derived.Deep.Cut
import Derived.Test.YtbbenfjfdmnpmaaBndW
import Derived.Test.YtbbenfjfdmnpmaaBndT
namespace Go.Proofs.Ytbbenfjfdmnpmaa.lawBoundSuggests
open Go.ChangeShapes Go.WideShapes Go.ChangeAt Go.RowKit
open Go.ChangeMaps (open_string shut_string)
set_option linter.unusedVariables false

theorem own : ownKnob Try.prog.godebug = none := by kernel_rfl
theorem laidOut : laidOutB Try.prog = true := by kernel_rfl

/-! The walk: the Go text returns true and writes nothing that was there. -/
set_option linter.unusedSimpArgs false in
set_option maxRecDepth 100000 in
set_option maxHeartbeats 4000000 in
theorem walk (a0 : Bnd.Cf) (w : World) (w0 : Bnd.OkCf w a0) (s0 : a0.linksC * 16 ≤ 140737488351232) :
    Calls Try.prog 5 #[Bnd.cval a0] w fun e w' => e = .returned (.bool true) ∧ Below w.heap.size w w' := by
  have hn := w0.n
  have CS := Lib.hid (fun W (hB : Below w.heap.size w W) => (Bnd.suggest_any a0 hn W (w0.links.below hB) s0).mono fun e w' h => show ∃ ad cap, e = .returned (.tuple #[Bnd.cval (Bnd.lnk (Bnd.ansK a0 (Bnd.fstK a0 12 29)) ad (Bnd.ansK a0 (Bnd.fstK a0 12 29)).linksL cap), .bool (Bnd.fstK a0 12 29).isSome]) ∧ Below W.heap.size W w' by
    obtain ⟨ad, cap, he, hB⟩ := h
    rw [Bnd.ans_lnk] at he
    exact ⟨ad, cap, he, hB⟩)
  have CR := Lib.hid (fun W => Bnd.rsuggest_any a0 W)
  unfold Bnd.RgPost at CR
  have HEN := Lib.hid (Bnd.ans_ok a0)
  have hdn := Bnd.ans_n a0 (Bnd.fstK a0 12 29)
  generalize Bnd.ansK a0 (Bnd.fstK a0 12 29) = d at *
  generalize (Bnd.fstK a0 12 29).isSome = t at *
  have CE := Lib.hid (fun ad cap W => Bnd.en_any (Bnd.lnk d ad d.linksL cap) (show -9223372036854775808 ≤ d.n ∧ d.n ≤ 9223372036854775807 by rw [hdn]; exact hn) W)
  have HLE : Hid (∀ ad cap, Bnd.enB (Bnd.lnk d ad d.linksL cap) = Bnd.enB d) := Lib.hid (fun ad cap => rfl)
  have CT := Lib.hid (fun ad cap W => Bnd.times26_any d ad cap W)
  have C9 := Lib.hid (fun W => Bnd.works26_any W)
  have e0 : (t == t) = true := beq_iff_eq.2 rfl
  clear w0 s0 hn hdn
  have CE2 := Lib.hid (fun (h : t = true) ad cap W => by have := CE.out ad cap W; rwa [HLE.out, HEN.out h] at this)
  clear CE HLE HEN
  obtain ⟨n', lk', lL', lC', lS', fl', a', b', r', v', pr', pw', pa', x1', x2', x3', x4', x5'⟩ := d
  obtain ⟨n, lk, lL, lC, lS, fl, a, b, r, v, pr, pw, pa, x1, x2, x3, x4, x5⟩ := a0
  unfold Bnd.lnk Bnd.cval Bnd.ccells at *
  dsimp only at *
  have BE := Lib.hid (show Below w.heap.size w (w.alloc (.cells #[.int .i64 n, .slice lk lL lC, .int .i64 fl, .int .i64 a, .int .i64 b, .int .i64 r, .int .i64 v, .int .i64 pr, .int .i64 pw, .int .i64 pa, .int .i64 x1, .int .i64 x2, .int .i64 x3, .int .i64 x4, .int .i64 x5] 24)) from (Below.refl _ _).alloc (Nat.le_refl _) _)
  have HC : Hid (∀ W, Below (w.alloc (.cells #[.int .i64 n, .slice lk lL lC, .int .i64 fl, .int .i64 a, .int .i64 b, .int .i64 r, .int .i64 v, .int .i64 pr, .int .i64 pw, .int .i64 pa, .int .i64 x1, .int .i64 x2, .int .i64 x3, .int .i64 x4, .int .i64 x5] 24)).heap.size (w.alloc (.cells #[.int .i64 n, .slice lk lL lC, .int .i64 fl, .int .i64 a, .int .i64 b, .int .i64 r, .int .i64 v, .int .i64 pr, .int .i64 pw, .int .i64 pa, .int .i64 x1, .int .i64 x2, .int .i64 x3, .int .i64 x4, .int .i64 x5] 24)) W → Rw.Blk W w.heap.size 24 #[.int .i64 n, .slice lk lL lC, .int .i64 fl, .int .i64 a, .int .i64 b, .int .i64 r, .int .i64 v, .int .i64 pr, .int .i64 pw, .int .i64 pa, .int .i64 x1, .int .i64 x2, .int .i64 x3, .int .i64 x4, .int .i64 x5]) := Lib.hid (fun W hB => Rw.Blk.below (Rw.Blk.new w _ _) hB)
  go_enter Try.func5, Try.ntmps5
  go_wp2_with fail
  refine (CS.out _ BE.out).mono ?_; rintro e w1 ⟨ad, cap, rfl, hB⟩
  have CE3 := Lib.hid (fun h => CE2.out h ad cap)
  have CT := Lib.hid (CT.out ad cap)
  have B1 := Lib.hid (BE.out.trans (hB.mono BE.out.size))
  have K1 := Lib.hid (HC.out _ hB)
  clear hB BE HC CS CE2
  have B2 := Lib.hid (B1.out.alloc B1.out.size (.cells #[.int .i64 n', .slice ad lL' cap, .int .i64 fl', .int .i64 a', .int .i64 b', .int .i64 r', .int .i64 v', .int .i64 pr', .int .i64 pw', .int .i64 pa', .int .i64 x1', .int .i64 x2', .int .i64 x3', .int .i64 x4', .int .i64 x5'] 24))
  have K2 := Lib.hid (K1.out.alloc (.cells #[.int .i64 n', .slice ad lL' cap, .int .i64 fl', .int .i64 a', .int .i64 b', .int .i64 r', .int .i64 v', .int .i64 pr', .int .i64 pw', .int .i64 pa', .int .i64 x1', .int .i64 x2', .int .i64 x3', .int .i64 x4', .int .i64 x5'] 24))
  have N2 := Lib.hid (Rw.Blk.new w1 24 #[.int .i64 n', .slice ad lL' cap, .int .i64 fl', .int .i64 a', .int .i64 b', .int .i64 r', .int .i64 v', .int .i64 pr', .int .i64 pw', .int .i64 pa', .int .i64 x1', .int .i64 x2', .int .i64 x3', .int .i64 x4', .int .i64 x5'])
  clear K1
  obtain ⟨c0, c1, c2, c3, c4, c5, c6, c7, c8, c9, c10, c11, c12, c13, c14⟩ := Bnd.conf15 K2.out
  go_wp2_with fail
  refine (CR.out _).mono ?_; rintro e w2 ⟨rfl, hB⟩
  have N3 := Lib.hid (N2.out.below hB)
  have B3a := Lib.hid (B2.out.trans (hB.mono B2.out.size))
  have hlt := N3.out.lt
  clear hB K2 N2 B1 B2 c0 c1 c2 c3 c4 c5 c6 c7 c8 c9 c10 c11 c12 c13 c14 CR
  have B3 := Lib.hid (B3a.out.alloc B3a.out.size (.cells #[.int .i64 n', .slice lk' lL' lC', .int .i64 fl', .int .i64 a', .int .i64 b', .int .i64 r', .int .i64 v', .int .i64 pr', .int .i64 pw', .int .i64 pa', .int .i64 x1', .int .i64 x2', .int .i64 x3', .int .i64 x4', .int .i64 x5'] 24))
  have N4 := Lib.hid (N3.out.alloc (.cells #[.int .i64 n', .slice lk' lL' lC', .int .i64 fl', .int .i64 a', .int .i64 b', .int .i64 r', .int .i64 v', .int .i64 pr', .int .i64 pw', .int .i64 pa', .int .i64 x1', .int .i64 x2', .int .i64 x3', .int .i64 x4', .int .i64 x5'] 24))
  have P4 := Lib.hid (Rw.Blk.new w2 24 #[.int .i64 n', .slice lk' lL' lC', .int .i64 fl', .int .i64 a', .int .i64 b', .int .i64 r', .int .i64 v', .int .i64 pr', .int .i64 pw', .int .i64 pa', .int .i64 x1', .int .i64 x2', .int .i64 x3', .int .i64 x4', .int .i64 x5'])
  clear N3 B3a
  go_upto_region 3 with fail
  generalize w1.heap.size = g at *
  have hne : g ≠ w2.heap.size := by omega
  clear hlt
  generalize (w2.alloc (.cells #[.int .i64 n', .slice lk' lL' lC', .int .i64 fl', .int .i64 a', .int .i64 b', .int .i64 r', .int .i64 v', .int .i64 pr', .int .i64 pw', .int .i64 pa', .int .i64 x1', .int .i64 x2', .int .i64 x3', .int .i64 x4', .int .i64 x5'] 24)) = w3 at *
  generalize w2.heap.size = g2 at *
  obtain ⟨c0, c1, c2, c3, c4, c5, c6, c7, c8, c9, c10, c11, c12, c13, c14⟩ := Bnd.conf15 N4.out
  obtain ⟨d0, d1, d2, d3, d4, d5, d6, d7, d8, d9, d10, d11, d12, d13, d14⟩ := Bnd.conf15 P4.out
  go_wp2_with fail
  refine (CT.out _).mono ?_; rintro e w4 ⟨rfl, hB⟩
  have N5 := Lib.hid (N4.out.below hB)
  have B4 := Lib.hid (B3.out.trans (hB.mono B3.out.size))
  clear hB N4 P4 B3 CT c0 c1 c2 c3 c4 c5 c6 c7 c8 c9 c10 c11 c12 c13 c14 d0 d1 d2 d3 d4 d5 d6 d7 d8 d9 d10 d11 d12 d13 d14
  cases t with
  | false =>
    go_wp2_with fail
    refine (C9.out _).mono ?_; rintro e w6 ⟨rfl, hB⟩
    have B6 := Lib.hid (B4.out.trans (hB.mono B4.out.size))
    clear hB
    go_wp2_with fail
    go_ret
    exact ⟨rfl, B6.out⟩
  | true =>
    have CE4 := Lib.hid (CE3.out rfl)
    obtain ⟨c0, c1, c2, c3, c4, c5, c6, c7, c8, c9, c10, c11, c12, c13, c14⟩ := Bnd.conf15 N5.out
    go_wp2_with fail
    refine (CE4.out _).mono ?_; rintro e w5 ⟨rfl, hB⟩
    have B5 := Lib.hid (B4.out.trans (hB.mono B4.out.size))
    clear hB N5 B4 c0 c1 c2 c3 c4 c5 c6 c7 c8 c9 c10 c11 c12 c13 c14
    go_wp2_with fail
    refine (C9.out _).mono ?_; rintro e w6 ⟨rfl, hB⟩
    have B6 := Lib.hid (B5.out.trans (hB.mono B5.out.size))
    clear hB
    go_wp2_with fail
    go_ret
    exact ⟨rfl, B6.out⟩

set_option maxRecDepth 100000 in
theorem lifted (os : Os) (started : os.Started) (H : Type) (enc : TypeId × Value → H) :
    ReturnsInHanded {} Try.checked os 5 .any (Rows.boundSuggestsSpec.pre6 enc Try.prog Try.f5 Rows.boundSuggestsRow.domain false) (Rows.boundSuggestsSpec.post enc Try.prog Try.f5 false true false false) := by
  refine returnsInHanded_of_change_sized (C := Try.checked) own started (by kernel_rfl) Try.func5
    (ChangeSpec.witness6 (enc := enc) (C := Try.checked) false ⟨#[], #[(.agg #[.int .i64 0, .slice none 0 0, .int .i64 0, .int .i64 0, .int .i64 0, .int .i64 0, .int .i64 0, .int .i64 0, .int .i64 0, .int .i64 0, .int .i64 0, .int .i64 0, .int .i64 0, .int .i64 0, .int .i64 0])], []⟩ 8 (by kernel_rfl) (by kernel_rfl) (by kernel_rfl) (by kernel_rfl)) ?_
  intro W base args ds gs before hval0 hW hcnd hsz0 _
  have hval : ∀ (j : Nat) t v, Try.f5.params[j]? = some t → args[j]? = some v → Value.okWide Try.prog W .any base t v := hval0
  have hW' := hW
  obtain ⟨p, q, hA0, hV, rfl, hfz, hnd⟩ := hW
  have hA : DataW.TrodAll enc Try.prog W 0 (fun _ => true) true Try.f5.params.toList args.toList ds p := hA0
  rw [Try.params5] at hA hval
  have hsz : (DataW.weightsEach Try.prog (Try.f5.params.toList ++ (Rows.boundSuggestsSpec.plain.varTypes Try.prog)) (ds ++ gs)).all (· ≤ reachBytes) = true := hsz0
  rw [Try.params5] at hsz
  obtain ⟨v0, vs0, d0, ds0, p0, q0, hargs, rfl, rfl, h0, r0⟩ := trodAll_cons hA
  obtain ⟨rfl, rfl, rfl⟩ := trodAll_nil r0
  obtain rfl : args = #[v0] := by cases args; simp_all
  obtain ⟨rfl, rfl⟩ := trodVars_none hV
  have k0 := h0
  have lt0 : ∀ x ∈ p0, x.block < W.heap.size := by obtain ⟨m, hm⟩ := k0; exact DataW.trod_lt m _ _ _ hm
  obtain ⟨a0, rfl, w0⟩ := Bnd.open_cf (hval 0 24 v0 rfl rfl) h0
  have s0 := Bnd.cap_sizedB k0 (Bnd.sized_atB hsz (j := 0) (t := 24) rfl rfl)
  clear hA0 hval0 hsz hsz0
  refine (walk a0 W w0 s0).mono fun e W' ⟨he, bel⟩ => ?_
  subst he
  exact ⟨_, rfl, _, _, _, [], _, [], hW', trodAll_mk1 (shut_bool Try.underlying4 _), (trodAll_cons_mk (Below.trod laidOut (by kernel_rfl) (of_decide_eq_true (by kernel_rfl)) k0 bel lt0) trodAll_mk0), rfl, bel.frame _, fun h => by cases h⟩

theorem over : Rows.boundSuggestsRow.holds Try.pinned (OpenSpec.ofChange Rows.boundSuggestsSpec) :=
  OpenClaim.holds_of_wide 5 Try.f5 rfl rfl rfl rfl rfl rfl rfl ⟨rfl, rfl, rfl, rfl, rfl⟩ rfl rfl rfl rfl rfl (by kernel_rfl) Try.func5 (by kernel_rfl)
    (of_decide_eq_true (by kernel_rfl)) (by unfold Func.isWrapper; first | (rw [if_pos (by decide +kernel)]; kernel_rfl) | (rw [if_neg (by decide +kernel)]; exact ⟨rfl, rfl⟩))
    (fun os started H enc _ => lifted os started H enc)

theorem proved : Rows.BoundSuggestsSaid := over
#print axioms proved
end Go.Proofs.Ytbbenfjfdmnpmaa.lawBoundSuggests
