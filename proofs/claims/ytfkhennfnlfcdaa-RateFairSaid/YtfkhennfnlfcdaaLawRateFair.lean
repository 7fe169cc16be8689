/- In any ticks whose drift is fair a hardware clock goes on by their grains, or by as much more or less as is fair in so many. -/
import Derived.Test.YtfkhennfnlfcdaaRows
import Derived.WalkKit
import Derived.ProofKit
import Derived.OpenShut
import Derived.ShutString
import Derived.ChangeOld
import Derived.Below
import Derived.Test.YtfkhennfnlfcdaaRatH
import Derived.Test.YtfkhennfnlfcdaaIntK
namespace Go.Proofs.Ytfkhennfnlfcdaa.lawRateFair
open Go.ChangeShapes Go.WideShapes Go.ChangeAt Go.RowKit
open Go.ChangeMaps (open_string shut_string)
set_option linter.unusedVariables false

theorem own : ownKnob Try.prog.godebug = none := by kernel_rfl
theorem laidOut : laidOutB Try.prog = true := by kernel_rfl

/-- What the walk is told of a slice of integers that came in. -/
def IsRow (k : IntKind) (w : World) (a : Option Addr) (len cap : Nat) (zs : List Int) : Prop :=
  (a = none ∧ len = 0 ∧ cap = 0 ∧ zs = []) ∨
  ∃ x, a = some x ∧ len ≤ cap ∧ cap ≤ maxLen ∧ zs.length = cap ∧ (∀ i, i < zs.length → w.cell? (x.add i) = some (.int k (zs.getD i 0))) ∧ ∀ n ∈ zs, (Lit.int k n).wf = true

/-! The walk: the Go text returns true and writes nothing that was there. -/
set_option linter.unusedSimpArgs false in
set_option maxRecDepth 100000 in
set_option maxHeartbeats 4000000 in
theorem walk (a0 : Int) (a1 : Option Addr) (len1 cap1 : Nat) (z1 : List Int) (w : World) (w0 : (Lit.int .u8 a0).wf = true) (w1 : IsRow .i8 w a1 len1 cap1 z1) :
    Calls Try.prog 7 #[.int .u8 a0, .slice a1 len1 cap1] w fun e w' => e = .returned (.bool true) ∧ Below w.heap.size w w' := by
  obtain ⟨hl1, hl2⟩ := IntK.RowK.len (k := .i8) w1
  unfold maxLen at hl2
  obtain ⟨k0, k1⟩ := bounds_u8 w0
  have HLA := Lib.hid (fun i (hi : i < len1) => IntK.RowK.at (k := .i8) w1 hi)
  have CN := Lib.hid (Rat.hnew_any 0 w)
  have C9 := Lib.hid (fun W => Rat.works20_any W)
  clear w0 w1
  rw [show Span.clampV 0 0 1152921504606846976 = 0 from rfl] at CN
  obtain ⟨g, hg⟩ : ∃ g, Hid (w.heap.size = g) := ⟨_, Lib.hid rfl⟩
  rw [hg.out] at CN
  go_enter Try.func7, Try.ntmps7
  go_wp2_with fail
  refine (CN.out).mono ?_; rintro e w2 ⟨rfl, hN⟩
  have HC0 : Hid (Rat.HC w2 g 0 0 ∧ Below w.heap.size w w2) := Lib.hid (by have := hN; unfold Rat.NewPost at this; rw [hg.out] at this; rw [hg.out]; exact this)
  clear hN CN
  obtain ⟨r, hr⟩ : ∃ v, a0 % 65 = v := ⟨_, rfl⟩
  have hr0 : 0 ≤ r := by omega
  have hr1 : r ≤ 64 := by omega
  go_wp2_with fail
  clear hr k0 k1
  go_loopw [7, 8] (fun n i wr => ∃ (k : Nat) (G d : Int), k ≤ len1 ∧ k ≤ 90 ∧ i = .int .i64 k ∧ n = .int .i64 k ∧ 0 ≤ G ∧ G ≤ 2000 * (k : Int) ∧ Hid (1024 * (k : Int) - r * k ≤ G ∧ G ≤ 1024 * (k : Int) + r * k) ∧ Hid (Rat.HC wr g G d ∧ Below w.heap.size w wr)) (fun _ i _ => 90 - (intOf i).toNat)
  case atStart => exact ⟨0, 0, 0, by omega, by omega, rfl, rfl, by omega, by omega, Lib.hid (by simp), HC0⟩
  case round =>
    clear HC0
    obtain ⟨k, G, d, hk1, hk2, rfl, rfl, hG0, hG2, HG, HB⟩ := hrel
    by_cases hlt : k < len1 ∧ k < 90
    · obtain ⟨hlt1, hlt2⟩ := hlt
      obtain ⟨b, off, rfl, hcl, hwf⟩ := HLA.out k hlt1
      have hck := hcl wr HB.out.2
      obtain ⟨y0, y1⟩ := bounds_i8 hwf
      generalize z1.getD k 0 = z at *
      clear hcl hwf
      obtain ⟨r2, r3⟩ := IntK.tmod_two z r hr0
      have HM := Lib.hid (IntK.tick_more HG.out.1 HG.out.2 r2 r3)
      have hne : r + 1 ≠ 0 := by omega
      obtain ⟨q, hq⟩ : ∃ q, z.tmod (r + 1) = q := ⟨_, rfl⟩
      rw [hq] at r2 r3 HM
      have CD := Lib.hid (Rat.hdrift_any g G d q wr HB.out.1)
      have CT := Lib.hid (fun W (hw : Rat.HC W g G q) => Rat.htick_any g G q W hw hG0 (by omega))
      have hv : Rat.goV G q = G + (1024 + q) := by unfold Rat.goV Rat.incV Span.clampV; split <;> (try split) <;> omega
      rw [hv] at CT
      clear hv
      have HF : Hid (∀ W, Rw.Stay (fun k => k = g) wr W → Below w.heap.size w W) := Lib.hid (fun W hs => HB.out.2.trans (hs.below (fun k e => by rw [e, hg.out]; exact Nat.le_refl _) (by have := HB.out.2.size; omega)))
      go_wp2_with fail
      refine (CD.out).mono ?_; rintro e w3 ⟨rfl, hP⟩
      have HP := Lib.hid hP
      clear hP
      go_wp2_with fail
      refine (CT.out _ HP.out.1).mono ?_; rintro e w4 ⟨rfl, hP⟩
      have HP4 := Lib.hid hP
      clear hP
      have HE : Hid (Rat.HC w4 g (G + (1024 + q)) q ∧ Below w.heap.size w w4) := Lib.hid ⟨HP4.out.1, HF.out w4 (HP.out.2.snoc HP4.out.2 (fun k _ e => e))⟩
      clear HP HP4 hck CD CT HF HB
      go_wp2_with fail
      go_roundw
      case rel => exact ⟨k + 1, G + (1024 + q), q, by omega, by omega, by go_num, by go_num, by omega, by omega, HM, HE⟩
      case measure => simp [intOf]; omega
    · have HF := Lib.hid HB.out.2
      have CW := Lib.hid (Rat.hnow_any g G d wr HB.out.1)
      obtain ⟨f1, f2⟩ := HG.out
      obtain ⟨p, hp, p0, p1⟩ : ∃ p, r * (k : Int) = p ∧ 0 ≤ p ∧ p ≤ 64 * 90 := ⟨_, rfl, Int.mul_nonneg hr0 (by omega), Int.mul_le_mul hr1 (by omega) (by omega) (by omega)⟩
      rw [hp] at f1 f2
      have t1 : decide (G - 1024 * (k : Int) ≤ p) = true := decide_eq_true (by omega)
      have t2 : decide (-(G - 1024 * (k : Int)) ≤ p) = true := decide_eq_true (by omega)
      clear HB HG
      by_cases hl : k < len1
      · have e1 : decide ((k : Int) < 90) = false := decide_eq_false (by omega)
        clear hlt
        go_wp2_with fail
        refine (CW.out).mono ?_; rintro e w' ⟨rfl, rfl⟩
        go_wp2_with fail
        refine (C9.out _).mono ?_; rintro e w' ⟨rfl, rfl⟩
        go_wp2_with fail
        go_ret
        exact ⟨rfl, HF.out⟩
      · clear hlt
        go_wp2_with fail
        refine (CW.out).mono ?_; rintro e w' ⟨rfl, rfl⟩
        go_wp2_with fail
        refine (C9.out _).mono ?_; rintro e w' ⟨rfl, rfl⟩
        go_wp2_with fail
        go_ret
        exact ⟨rfl, HF.out⟩

set_option maxRecDepth 100000 in
theorem lifted (os : Os) (started : os.Started) (H : Type) (enc : TypeId × Value → H) :
    ReturnsInHanded {} Try.checked os 7 .any (Rows.rateFairSpec.pre6 enc Try.prog Try.f7 Rows.rateFairRow.domain false) (Rows.rateFairSpec.post enc Try.prog Try.f7 false true false false) := by
  refine returnsInHanded_of_change (C := Try.checked) own started (by kernel_rfl) Try.func7
    (ChangeSpec.witness6 (enc := enc) (C := Try.checked) false ⟨#[], #[.int .u8 0, .slice none 0 0], []⟩ 8 (by kernel_rfl) (by kernel_rfl) (by kernel_rfl) (by kernel_rfl)) ?_
  intro W base args ds gs before hval0 hW hcnd _
  have hval : ∀ (j : Nat) t v, Try.f7.params[j]? = some t → args[j]? = some v → Value.okWide Try.prog W .any base t v := hval0
  have hW' := hW
  obtain ⟨p, q, hA0, hV, rfl, hfz, hnd⟩ := hW
  have hA : DataW.TrodAll enc Try.prog W 0 (fun _ => true) true Try.f7.params.toList args.toList ds p := hA0
  rw [Try.params7] at hA hval
  obtain ⟨v0, vs0, d0, ds0, p0, q0, hargs, rfl, rfl, h0, r0⟩ := trodAll_cons hA
  obtain ⟨v1, vs1, d1, ds1, p1, q1, rfl, rfl, rfl, h1, r1⟩ := trodAll_cons r0
  obtain ⟨rfl, rfl, rfl⟩ := trodAll_nil r1
  obtain rfl : args = #[v0, v1] := by cases args; simp_all
  obtain ⟨rfl, rfl⟩ := trodVars_none hV
  obtain ⟨a0, rfl, rfl, rfl, w0⟩ := open_int Try.underlying5 (hval 0 5 v0 rfl rfl) h0
  obtain ⟨a1, len1, cap1, rfl⟩ := okWide_slice Try.underlying35 (hval 1 35 v1 rfl rfl)
  have k1 := h1
  have lt1 : ∀ x ∈ p1, x.block < W.heap.size := by obtain ⟨m, hm⟩ := k1; exact DataW.trod_lt m _ _ _ hm
  obtain ⟨z1, w1⟩ : ∃ zs, IsRow .i8 W a1 len1 cap1 zs := by
    obtain ⟨fuel, hf⟩ := h1
    rcases open_ints Try.underlying35 Try.underlying36 (by kernel_rfl) hf with ⟨hcs, _⟩ | ⟨x, l, c, zs, hcs, _, hl, hm, hz, _, hcell, hwz⟩
    · simp [Value.cells] at hcs
      obtain ⟨rfl, rfl, rfl⟩ := hcs
      exact ⟨[], .inl ⟨rfl, rfl, rfl, rfl⟩⟩
    · simp [Value.cells] at hcs
      obtain ⟨rfl, rfl, rfl⟩ := hcs
      exact ⟨zs, .inr ⟨_, rfl, hl, hm, by simpa using hz, hcell, hwz⟩⟩
  clear hA0 hval0
  refine (walk a0 a1 len1 cap1 z1 W w0 w1).mono fun e W' ⟨he, bel⟩ => ?_
  subst he
  exact ⟨_, rfl, _, _, _, [], _, [], hW', trodAll_mk1 (shut_bool Try.underlying4 _), (trodAll_cons_mk (shut_int Try.underlying5 w0) (trodAll_cons_mk (Below.trod laidOut (by kernel_rfl) (of_decide_eq_true (by kernel_rfl)) k1 bel lt1) trodAll_mk0)), rfl, bel.frame _, fun h => by cases h⟩

theorem over : Rows.rateFairRow.holds Try.pinned (OpenSpec.ofChange Rows.rateFairSpec) :=
  OpenClaim.holds_of_wide 7 Try.f7 rfl rfl rfl rfl rfl rfl rfl ⟨rfl, rfl, rfl, rfl, rfl⟩ rfl rfl rfl rfl rfl (by kernel_rfl) Try.func7 (by kernel_rfl)
    (of_decide_eq_true (by kernel_rfl)) (by unfold Func.isWrapper; first | (rw [if_pos (by decide +kernel)]; kernel_rfl) | (rw [if_neg (by decide +kernel)]; exact ⟨rfl, rfl⟩))
    (fun os started H enc _ => lifted os started H enc)

theorem proved : Rows.RateFairSaid := over
#print axioms proved
end Go.Proofs.Ytfkhennfnlfcdaa.lawRateFair
