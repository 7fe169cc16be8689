/- Contracts of package reading (layer 23), continued: how far ahead, by how much wrong; the document's own; the chapter's example. -/
import Derived.Test.YtbbenfjfdmnpmaaRdgA
namespace Go.Proofs.Ytbbenfjfdmnpmaa.Rdg
open Go.ChangeShapes Go.WideShapes Go.ChangeAt Go.RowKit Go.Deep
set_option linter.unusedVariables false
def difB (v h a b t : Int) : Bool := Hop.gdB h a b && (tmB v && tmB t)
def difV (v h a b t : Int) : Int := if difB v h a b t = true then v + Hop.midV h a b - t else 0
def rerB (a b r s : Int) : Bool := Hop.gdB 1 a b && Rat.gdR r s
def rerV (a b r s : Int) : Int := if rerB a b r s = true then (b - a) * 512 + (2 * r + s) * b + 1 else 0
theorem mid_bd {h a b : Int} (g : Hop.gdB h a b = true) : 0 ≤ Hop.midV h a b ∧ Hop.midV h a b ≤ 132120576 := by
  obtain ⟨h0, h1, a0, ab, b1⟩ := Hop.gd_yes g
  obtain ⟨p0, p1⟩ := Hop.mul_bd2 h0 (show h ≤ 64 by omega) (show 0 ≤ a + b by omega) (show a + b ≤ 4032 by omega)
  unfold Hop.midV
  rw [if_pos g]
  omega
theorem way_bd {r s b : Int} (r0 : 0 ≤ r) (r1 : r ≤ 64) (s0 : 1 ≤ s) (s1 : s ≤ 256) (b0 : 0 ≤ b) (b1 : b ≤ 64) : 0 ≤ (2 * r + s) * b ∧ (2 * r + s) * b ≤ 384 * 64 :=
  ⟨Int.mul_nonneg (by omega) b0, Int.mul_le_mul (by omega) b1 b0 (by omega)⟩
set_option maxRecDepth 100000 in
theorem err_any (a b r s : Int) (w : World) :
    Calls Try.prog 24 #[.int .i64 a, .int .i64 b, .int .i64 r, .int .i64 s] w fun e w' => e = .returned (.tuple #[.int .i64 (rerV a b r s), .bool (rerB a b r s)]) ∧ w = w' := by
  have CH := Lib.hid (fun W => Hop.hgood_any 1 a b W)
  have CR := Lib.hid (fun W => Rat.rtgood_any r s W)
  cases hg : Hop.gdB 1 a b with
  | false =>
    have eb : rerB a b r s = false := by unfold rerB; rw [hg]; rfl
    have ev : rerV a b r s = 0 := by unfold rerV; rw [eb]; rfl
    rw [eb, ev]
    rw [hg] at CH
    clear eb ev hg
    go_enter Try.func24, Try.ntmps24
    go_wp2_with fail
    refine (CH.out _).mono ?_; rintro e w' ⟨rfl, rfl⟩
    go_wp2_with fail
    go_ret2
    exact ⟨rfl, rfl⟩
  | true =>
    rw [hg] at CH
    cases ht : Rat.gdR r s with
    | false =>
      have eb : rerB a b r s = false := by unfold rerB; rw [hg, ht]; rfl
      have ev : rerV a b r s = 0 := by unfold rerV; rw [eb]; rfl
      rw [eb, ev]
      rw [ht] at CR
      clear eb ev hg ht
      go_enter Try.func24, Try.ntmps24
      go_wp2_with fail
      refine (CH.out _).mono ?_; rintro e w' ⟨rfl, rfl⟩
      go_wp2_with fail
      refine (CR.out _).mono ?_; rintro e w' ⟨rfl, rfl⟩
      go_wp2_with fail
      go_ret2
      exact ⟨rfl, rfl⟩
    | true =>
      have eb : rerB a b r s = true := by unfold rerB; rw [hg, ht]; rfl
      have ev : rerV a b r s = (b - a) * 512 + (2 * r + s) * b + 1 := by unfold rerV; rw [eb]; rfl
      rw [eb, ev]
      rw [ht] at CR
      obtain ⟨-, -, a0, ab, b1⟩ := Hop.gd_yes hg
      obtain ⟨r0, r1, s0, s1⟩ := Rat.gdR_yes ht
      obtain ⟨p0, p1⟩ := way_bd r0 r1 s0 s1 (show 0 ≤ b by omega) b1
      clear eb ev hg ht
      go_enter Try.func24, Try.ntmps24
      go_wp2_with fail
      refine (CH.out _).mono ?_; rintro e w' ⟨rfl, rfl⟩
      go_wp2_with fail
      refine (CR.out _).mono ?_; rintro e w' ⟨rfl, rfl⟩
      go_wp2_with fail
      go_ret2
      exact ⟨rfl, rfl⟩
/-! The document's own. -/
set_option maxRecDepth 100000 in
theorem derr_any (a b r s : Int) (w : World) :
    Calls Try.prog 33 #[.int .i64 a, .int .i64 b, .int .i64 r, .int .i64 s] w fun e w' => e = .returned (.tuple #[.int .i64 (rerV a b r s), .bool (rerB a b r s)]) ∧ w = w' := by
  have CH := Lib.hid (fun W => Hop.rgoodH_any 1 a b W)
  have CR := Lib.hid (fun W => Rat.rrtgood_any r s W)
  cases hg : Hop.gdB 1 a b with
  | false =>
    have eb : rerB a b r s = false := by unfold rerB; rw [hg]; rfl
    have ev : rerV a b r s = 0 := by unfold rerV; rw [eb]; rfl
    rw [eb, ev]
    rw [hg] at CH
    clear eb ev hg
    go_enter Try.func33, Try.ntmps33
    go_wp2_with fail
    refine (CH.out _).mono ?_; rintro e w' ⟨rfl, rfl⟩
    go_wp2_with fail
    go_ret2
    exact ⟨rfl, rfl⟩
  | true =>
    rw [hg] at CH
    cases ht : Rat.gdR r s with
    | false =>
      have eb : rerB a b r s = false := by unfold rerB; rw [hg, ht]; rfl
      have ev : rerV a b r s = 0 := by unfold rerV; rw [eb]; rfl
      rw [eb, ev]
      rw [ht] at CR
      clear eb ev hg ht
      go_enter Try.func33, Try.ntmps33
      go_wp2_with fail
      refine (CH.out _).mono ?_; rintro e w' ⟨rfl, rfl⟩
      go_wp2_with fail
      refine (CR.out _).mono ?_; rintro e w' ⟨rfl, rfl⟩
      go_wp2_with fail
      go_ret2
      exact ⟨rfl, rfl⟩
    | true =>
      have eb : rerB a b r s = true := by unfold rerB; rw [hg, ht]; rfl
      have ev : rerV a b r s = (b - a) * 512 + (2 * r + s) * b + 1 := by unfold rerV; rw [eb]; rfl
      rw [eb, ev]
      rw [ht] at CR
      obtain ⟨-, -, a0, ab, b1⟩ := Hop.gd_yes hg
      obtain ⟨r0, r1, s0, s1⟩ := Rat.gdR_yes ht
      obtain ⟨p0, p1⟩ := way_bd r0 r1 s0 s1 (show 0 ≤ b by omega) b1
      clear eb ev hg ht
      go_enter Try.func33, Try.ntmps33
      go_wp2_with fail
      refine (CH.out _).mono ?_; rintro e w' ⟨rfl, rfl⟩
      go_wp2_with fail
      refine (CR.out _).mono ?_; rintro e w' ⟨rfl, rfl⟩
      go_wp2_with fail
      go_ret2
      exact ⟨rfl, rfl⟩
end Go.Proofs.Ytbbenfjfdmnpmaa.Rdg
