/- A hardware clock, begun anywhere, tells behind any ticks what the document says, and never goes back. -/
import Derived.Test.YtfkhennfnlfcdaaRows
import Derived.WalkKit
import Derived.ProofKit
import Derived.OpenShut
import Derived.ShutString
import Derived.ChangeOld
import Derived.Below
import Derived.Test.YtfkhennfnlfcdaaRatH
import Derived.Test.YtfkhennfnlfcdaaIntK
namespace Go.Proofs.Ytfkhennfnlfcdaa.lawRateHard
open Go.ChangeShapes Go.WideShapes Go.ChangeAt Go.RowKit
open Go.ChangeMaps (open_string shut_string)
set_option linter.unusedVariables false

theorem own : ownKnob Try.prog.godebug = none := by kernel_rfl
theorem laidOut : laidOutB Try.prog = true := by kernel_rfl

/-- What the walk is told of a slice of integers that came in. -/
def IsRow (k : IntKind) (w : World) (a : Option Addr) (len cap : Nat) (zs : List Int) : Prop :=
  (a = none ∧ len = 0 ∧ cap = 0 ∧ zs = []) ∨
  ∃ x, a = some x ∧ len ≤ cap ∧ cap ≤ maxLen ∧ zs.length = cap ∧ (∀ i, i < zs.length → w.cell? (x.add i) = some (.int k (zs.getD i 0))) ∧ ∀ n ∈ zs, (Lit.int k n).wf = true

/-! The walk: the Go text returns true and writes nothing that was there. -/
set_option linter.unusedSimpArgs false in
set_option maxRecDepth 100000 in
set_option maxHeartbeats 4000000 in
theorem walk (a0 : Int) (a1 : Option Addr) (len1 cap1 : Nat) (z1 : List Int) (w : World) (w0 : (Lit.int .i64 a0).wf = true) (w1 : IsRow .i64 w a1 len1 cap1 z1) :
    Calls Try.prog 6 #[.int .i64 a0, .slice a1 len1 cap1] w fun e w' => e = .returned (.bool true) ∧ Below w.heap.size w w' := by
  obtain ⟨hl1, hl2⟩ := IntK.RowK.len (k := .i64) w1
  unfold maxLen at hl2
  have HLA := Lib.hid (fun i (hi : i < len1) => IntK.RowK.at (k := .i64) w1 hi)
  have CN := Lib.hid (Rat.hnew_any a0 w)
  have CC := Lib.hid (fun W => Span.rclamp_any a0 0 1152921504606846976 W)
  have C9 := Lib.hid (fun W => Rat.works20_any W)
  clear w0 w1
  obtain ⟨c, hc, c0, c1⟩ : ∃ c, Span.clampV a0 0 1152921504606846976 = c ∧ 0 ≤ c ∧ c ≤ 1152921504606846976 := ⟨_, rfl, by unfold Span.clampV; split <;> (try split) <;> omega, by unfold Span.clampV; split <;> (try split) <;> omega⟩
  rw [hc] at CN CC
  clear hc
  have e0 : (c == c) = true := beq_iff_eq.2 rfl
  obtain ⟨g, hg⟩ : ∃ g, Hid (w.heap.size = g) := ⟨_, Lib.hid rfl⟩
  rw [hg.out] at CN
  go_enter Try.func6, Try.ntmps6
  go_wp2_with fail
  refine (CN.out).mono ?_; rintro e w2 ⟨rfl, hN⟩
  have HC0 : Hid (Rat.HC w2 g c 0 ∧ Below w.heap.size w w2) := Lib.hid (by have := hN; unfold Rat.NewPost at this; rw [hg.out] at this; rw [hg.out]; exact this)
  clear hN CN
  have CW := Lib.hid (Rat.hnow_any g c 0 w2 HC0.out.1)
  go_wp2_with fail
  refine (CC.out _).mono ?_; rintro e w' ⟨rfl, rfl⟩
  go_wp2_with fail
  refine (CW.out).mono ?_; rintro e w' ⟨rfl, rfl⟩
  go_wp2_with fail
  clear CW CC
  go_loopw [6, 7] (fun u i wr => ∃ (k : Nat) (a d : Int), k ≤ len1 ∧ k ≤ 60 ∧ i = .int .i64 k ∧ u = .int .i64 a ∧ 0 ≤ a ∧ a ≤ 1152921504606846976 ∧ Hid (Rat.HC wr g a d ∧ Below w.heap.size w wr)) (fun _ i _ => 60 - (intOf i).toNat)
  case atStart => exact ⟨0, c, 0, by omega, by omega, rfl, rfl, c0, c1, HC0⟩
  case round =>
    clear HC0
    obtain ⟨k, a, d, hk1, hk2, rfl, rfl, ha0, ha1, HB⟩ := hrel
    by_cases hlt : k < len1 ∧ k < 60
    · obtain ⟨hlt1, hlt2⟩ := hlt
      obtain ⟨b, off, rfl, hcl, hwf⟩ := HLA.out k hlt1
      have HCL := Lib.hid hcl
      generalize z1.getD k 0 = z at *
      clear hcl hwf
      have hck := HCL.out wr HB.out.2
      have CD := Lib.hid (Rat.hdrift_any g a d z wr HB.out.1)
      have CR := Lib.hid (fun W => Rat.rrtick_any a z ha0 ha1 W)
      have CT := Lib.hid (fun W (hw : Rat.HC W g a z) => Rat.htick_any g a z W hw ha0 ha1)
      obtain ⟨b0, b1⟩ := Rat.go_bd z ha0 ha1
      have CW := Lib.hid (fun W (hw : Rat.HC W g (Rat.goV a z) z) => Rat.hnow_any g (Rat.goV a z) z W hw)
      have HF : Hid (∀ W, Rw.Stay (fun k => k = g) wr W → Below w.heap.size w W) := Lib.hid (fun W hs => HB.out.2.trans (hs.below (fun k e => by rw [e, hg.out]; exact Nat.le_refl _) (by have := HB.out.2.size; omega)))
      generalize Rat.goV a z = v at *
      have e1 : (v - a == v - a) = true := beq_iff_eq.2 rfl
      have e2 : (v == v) = true := beq_iff_eq.2 rfl
      have e3 : decide (v < a) = false := decide_eq_false (by omega)
      go_wp2_with fail
      refine (CD.out).mono ?_; rintro e w3 ⟨rfl, hP⟩
      have HP := Lib.hid hP
      clear hP
      have hck3 := HCL.out w3 (HF.out w3 HP.out.2)
      go_wp2_with fail
      refine (CR.out _).mono ?_; rintro e w' ⟨rfl, rfl⟩
      go_wp2_with fail
      refine (CT.out _ HP.out.1).mono ?_; rintro e w4 ⟨rfl, hP⟩
      have HP4 := Lib.hid hP
      clear hP
      go_wp2_with fail
      refine (CW.out _ HP4.out.1).mono ?_; rintro e w' ⟨rfl, rfl⟩
      have HE : Hid (Rat.HC w4 g v z ∧ Below w.heap.size w w4) := Lib.hid ⟨HP4.out.1, HF.out w4 (HP.out.2.snoc HP4.out.2 (fun k _ e => e))⟩
      clear HP HP4 hck hck3 CD CR CT CW HF HCL HB
      go_wp2_with fail
      go_roundw
      case rel => exact ⟨k + 1, v, z, by omega, by omega, by go_num, rfl, by omega, b1, HE⟩
      case measure => simp [intOf]; omega
    · have HF := Lib.hid HB.out.2
      clear HB
      by_cases hl : k < len1
      · have e1 : decide ((k : Int) < 60) = false := decide_eq_false (by omega)
        clear hlt
        go_wp2_with fail
        refine (C9.out _).mono ?_; rintro e w' ⟨rfl, rfl⟩
        go_wp2_with fail
        go_ret
        exact ⟨rfl, HF.out⟩
      · clear hlt
        go_wp2_with fail
        refine (C9.out _).mono ?_; rintro e w' ⟨rfl, rfl⟩
        go_wp2_with fail
        go_ret
        exact ⟨rfl, HF.out⟩

set_option maxRecDepth 100000 in
theorem lifted (os : Os) (started : os.Started) (H : Type) (enc : TypeId × Value → H) :
    ReturnsInHanded {} Try.checked os 6 .any (Rows.rateHardSpec.pre6 enc Try.prog Try.f6 Rows.rateHardRow.domain false) (Rows.rateHardSpec.post enc Try.prog Try.f6 false true false false) := by
  refine returnsInHanded_of_change (C := Try.checked) own started (by kernel_rfl) Try.func6
    (ChangeSpec.witness6 (enc := enc) (C := Try.checked) false ⟨#[], #[.int .i64 0, .slice none 0 0], []⟩ 8 (by kernel_rfl) (by kernel_rfl) (by kernel_rfl) (by kernel_rfl)) ?_
  intro W base args ds gs before hval0 hW hcnd _
  have hval : ∀ (j : Nat) t v, Try.f6.params[j]? = some t → args[j]? = some v → Value.okWide Try.prog W .any base t v := hval0
  have hW' := hW
  obtain ⟨p, q, hA0, hV, rfl, hfz, hnd⟩ := hW
  have hA : DataW.TrodAll enc Try.prog W 0 (fun _ => true) true Try.f6.params.toList args.toList ds p := hA0
  rw [Try.params6] at hA hval
  obtain ⟨v0, vs0, d0, ds0, p0, q0, hargs, rfl, rfl, h0, r0⟩ := trodAll_cons hA
  obtain ⟨v1, vs1, d1, ds1, p1, q1, rfl, rfl, rfl, h1, r1⟩ := trodAll_cons r0
  obtain ⟨rfl, rfl, rfl⟩ := trodAll_nil r1
  obtain rfl : args = #[v0, v1] := by cases args; simp_all
  obtain ⟨rfl, rfl⟩ := trodVars_none hV
  obtain ⟨a0, rfl, rfl, rfl, w0⟩ := open_int Try.underlying2 (hval 0 2 v0 rfl rfl) h0
  obtain ⟨a1, len1, cap1, rfl⟩ := okWide_slice Try.underlying28 (hval 1 28 v1 rfl rfl)
  have k1 := h1
  have lt1 : ∀ x ∈ p1, x.block < W.heap.size := by obtain ⟨m, hm⟩ := k1; exact DataW.trod_lt m _ _ _ hm
  obtain ⟨z1, w1⟩ : ∃ zs, IsRow .i64 W a1 len1 cap1 zs := by
    obtain ⟨fuel, hf⟩ := h1
    rcases open_ints Try.underlying28 Try.underlying2 (by kernel_rfl) hf with ⟨hcs, _⟩ | ⟨x, l, c, zs, hcs, _, hl, hm, hz, _, hcell, hwz⟩
    · simp [Value.cells] at hcs
      obtain ⟨rfl, rfl, rfl⟩ := hcs
      exact ⟨[], .inl ⟨rfl, rfl, rfl, rfl⟩⟩
    · simp [Value.cells] at hcs
      obtain ⟨rfl, rfl, rfl⟩ := hcs
      exact ⟨zs, .inr ⟨_, rfl, hl, hm, by simpa using hz, hcell, hwz⟩⟩
  clear hA0 hval0
  refine (walk a0 a1 len1 cap1 z1 W w0 w1).mono fun e W' ⟨he, bel⟩ => ?_
  subst he
  exact ⟨_, rfl, _, _, _, [], _, [], hW', trodAll_mk1 (shut_bool Try.underlying4 _), (trodAll_cons_mk (shut_int Try.underlying2 w0) (trodAll_cons_mk (Below.trod laidOut (by kernel_rfl) (of_decide_eq_true (by kernel_rfl)) k1 bel lt1) trodAll_mk0)), rfl, bel.frame _, fun h => by cases h⟩

theorem over : Rows.rateHardRow.holds Try.pinned (OpenSpec.ofChange Rows.rateHardSpec) :=
  OpenClaim.holds_of_wide 6 Try.f6 rfl rfl rfl rfl rfl rfl rfl ⟨rfl, rfl, rfl, rfl, rfl⟩ rfl rfl rfl rfl rfl (by kernel_rfl) Try.func6 (by kernel_rfl)
    (of_decide_eq_true (by kernel_rfl)) (by unfold Func.isWrapper; first | (rw [if_pos (by decide +kernel)]; kernel_rfl) | (rw [if_neg (by decide +kernel)]; exact ⟨rfl, rfl⟩))
    (fun os started H enc _ => lifted os started H enc)

theorem proved : Rows.RateHardSaid := over
#print axioms proved
end Go.Proofs.Ytfkhennfnlfcdaa.lawRateHard
