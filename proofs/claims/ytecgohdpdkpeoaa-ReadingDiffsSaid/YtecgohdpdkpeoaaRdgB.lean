/- Contracts of package reading (layer 23), continued: how far ahead, by how much wrong; the document's own; the chapter's example. -/
import Derived.Test.YtecgohdpdkpeoaaRdgA
namespace Go.Proofs.Ytecgohdpdkpeoaa.Rdg
open Go.ChangeShapes Go.WideShapes Go.ChangeAt Go.RowKit Go.Deep
set_option linter.unusedVariables false
def difB (v h a b t : Int) : Bool := Hop.gdB h a b && (tmB v && tmB t)
def difV (v h a b t : Int) : Int := if difB v h a b t = true then v + Hop.midV h a b - t else 0
def rerB (a b r s : Int) : Bool := Hop.gdB 1 a b && Rat.gdR r s
def rerV (a b r s : Int) : Int := if rerB a b r s = true then (b - a) * 512 + (2 * r + s) * b + 1 else 0
theorem mid_bd {h a b : Int} (g : Hop.gdB h a b = true) : 0 ≤ Hop.midV h a b ∧ Hop.midV h a b ≤ 132120576 := by
  obtain ⟨h0, h1, a0, ab, b1⟩ := Hop.gd_yes g
  obtain ⟨p0, p1⟩ := Hop.mul_bd2 h0 (show h ≤ 64 by omega) (show 0 ≤ a + b by omega) (show a + b ≤ 4032 by omega)
  unfold Hop.midV
  rw [if_pos g]
  omega
theorem way_bd {r s b : Int} (r0 : 0 ≤ r) (r1 : r ≤ 64) (s0 : 1 ≤ s) (s1 : s ≤ 256) (b0 : 0 ≤ b) (b1 : b ≤ 64) : 0 ≤ (2 * r + s) * b ∧ (2 * r + s) * b ≤ 384 * 64 :=
  ⟨Int.mul_nonneg (by omega) b0, Int.mul_le_mul (by omega) b1 b0 (by omega)⟩
set_option maxRecDepth 100000 in
theorem diff_any (v h a b t : Int) (w : World) :
    Calls Try.prog 11 #[.int .i64 v, .int .i64 h, .int .i64 a, .int .i64 b, .int .i64 t] w fun e w' => e = .returned (.tuple #[.int .i64 (difV v h a b t), .bool (difB v h a b t)]) ∧ Below w.heap.size w w' := by
  have CM := Lib.hid (fun W => Hop.midH_any h a b W)
  have CG := Lib.hid (fun k W y hk => good2_any v t k W y hk)
  have B1 := Lib.hid ((Below.refl w.heap.size w).alloc (Nat.le_refl _) (.cells #[.int .i64 v, .int .i64 t] 43))
  cases hg : Hop.gdB h a b with
  | false =>
    have eb : difB v h a b t = false := by unfold difB; rw [hg]; rfl
    have ev : difV v h a b t = 0 := by unfold difV; rw [eb]; rfl
    rw [eb, ev]
    rw [hg] at CM
    clear eb ev hg
    generalize Hop.midV h a b = m at *
    go_enter Try.func11, Try.ntmps11
    go_wp2_with fail
    refine (CM.out _).mono ?_; rintro e w' ⟨rfl, rfl⟩
    go_wp2_with fail
    go_ret2
    exact ⟨rfl, Below.refl _ _⟩
  | true =>
    obtain ⟨m0, m1⟩ := mid_bd hg
    rw [hg] at CM
    cases ht : (tmB v && tmB t) with
    | false =>
      have eb : difB v h a b t = false := by unfold difB; rw [hg, ht]; rfl
      have ev : difV v h a b t = 0 := by unfold difV; rw [eb]; rfl
      rw [eb, ev]
      rw [ht] at CG
      clear eb ev hg ht
      generalize Hop.midV h a b = m at *
      go_enter Try.func11, Try.ntmps11
      go_wp2_with fail
      refine (CM.out _).mono ?_; rintro e w' ⟨rfl, rfl⟩
      go_wp2_with fail
      refine (CG.out _ _ _ rfl).mono ?_; rintro e w' ⟨rfl, rfl⟩
      go_wp2_with fail
      go_ret2
      exact ⟨rfl, B1.out⟩
    | true =>
      have eb : difB v h a b t = true := by unfold difB; rw [hg, ht]; rfl
      have ev : difV v h a b t = v + Hop.midV h a b - t := by unfold difV; rw [eb]; rfl
      rw [eb, ev]
      rw [ht] at CG
      simp only [Bool.and_eq_true] at ht
      obtain ⟨v0, v1⟩ := tm_yes ht.1
      obtain ⟨t0, t1⟩ := tm_yes ht.2
      clear eb ev hg ht
      generalize Hop.midV h a b = m at *
      go_enter Try.func11, Try.ntmps11
      go_wp2_with fail
      refine (CM.out _).mono ?_; rintro e w' ⟨rfl, rfl⟩
      go_wp2_with fail
      refine (CG.out _ _ _ rfl).mono ?_; rintro e w' ⟨rfl, rfl⟩
      go_wp2_with fail
      go_ret2
      exact ⟨rfl, B1.out⟩
set_option maxRecDepth 100000 in
theorem err_any (a b r s : Int) (w : World) :
    Calls Try.prog 13 #[.int .i64 a, .int .i64 b, .int .i64 r, .int .i64 s] w fun e w' => e = .returned (.tuple #[.int .i64 (rerV a b r s), .bool (rerB a b r s)]) ∧ w = w' := by
  have CH := Lib.hid (fun W => Hop.hgood_any 1 a b W)
  have CR := Lib.hid (fun W => Rat.rtgood_any r s W)
  cases hg : Hop.gdB 1 a b with
  | false =>
    have eb : rerB a b r s = false := by unfold rerB; rw [hg]; rfl
    have ev : rerV a b r s = 0 := by unfold rerV; rw [eb]; rfl
    rw [eb, ev]
    rw [hg] at CH
    clear eb ev hg
    go_enter Try.func13, Try.ntmps13
    go_wp2_with fail
    refine (CH.out _).mono ?_; rintro e w' ⟨rfl, rfl⟩
    go_wp2_with fail
    go_ret2
    exact ⟨rfl, rfl⟩
  | true =>
    rw [hg] at CH
    cases ht : Rat.gdR r s with
    | false =>
      have eb : rerB a b r s = false := by unfold rerB; rw [hg, ht]; rfl
      have ev : rerV a b r s = 0 := by unfold rerV; rw [eb]; rfl
      rw [eb, ev]
      rw [ht] at CR
      clear eb ev hg ht
      go_enter Try.func13, Try.ntmps13
      go_wp2_with fail
      refine (CH.out _).mono ?_; rintro e w' ⟨rfl, rfl⟩
      go_wp2_with fail
      refine (CR.out _).mono ?_; rintro e w' ⟨rfl, rfl⟩
      go_wp2_with fail
      go_ret2
      exact ⟨rfl, rfl⟩
    | true =>
      have eb : rerB a b r s = true := by unfold rerB; rw [hg, ht]; rfl
      have ev : rerV a b r s = (b - a) * 512 + (2 * r + s) * b + 1 := by unfold rerV; rw [eb]; rfl
      rw [eb, ev]
      rw [ht] at CR
      obtain ⟨-, -, a0, ab, b1⟩ := Hop.gd_yes hg
      obtain ⟨r0, r1, s0, s1⟩ := Rat.gdR_yes ht
      obtain ⟨p0, p1⟩ := way_bd r0 r1 s0 s1 (show 0 ≤ b by omega) b1
      clear eb ev hg ht
      go_enter Try.func13, Try.ntmps13
      go_wp2_with fail
      refine (CH.out _).mono ?_; rintro e w' ⟨rfl, rfl⟩
      go_wp2_with fail
      refine (CR.out _).mono ?_; rintro e w' ⟨rfl, rfl⟩
      go_wp2_with fail
      go_ret2
      exact ⟨rfl, rfl⟩
/-! The document's own. -/
set_option maxRecDepth 100000 in
theorem dest_any (v s n : Int) (w : World) :
    Calls Try.prog 9 #[.int .i64 v, .int .i64 s, .int .i64 n] w fun e w' => e = .returned (.tuple #[.int .i64 (estV v s n), .bool (estB v s n)]) ∧ w = w' := by
  have C1 := Lib.hid (fun W => dtime_any v W)
  have C2 := Lib.hid (fun W => dtime_any s W)
  have C3 := Lib.hid (fun W => dtime_any n W)
  have C4 := Lib.hid (fun W => dtime_any (v + (n - s) / 2) W)
  cases h1 : tmB v with
  | false =>
    obtain ⟨eb, ev⟩ := est_no (v := v) (s := s) (n := n) (by rintro ⟨h, -⟩; rw [h] at h1; exact absurd h1 (by simp))
    rw [eb, ev]
    rw [h1] at C1
    clear eb ev h1
    go_enter Try.func9, Try.ntmps9
    go_wp2_with fail
    refine (C1.out _).mono ?_; rintro e w' ⟨rfl, rfl⟩
    go_wp2_with fail
    go_ret2
    exact ⟨rfl, rfl⟩
  | true =>
  rw [h1] at C1
  cases h2 : tmB s with
  | false =>
    obtain ⟨eb, ev⟩ := est_no (v := v) (s := s) (n := n) (by rintro ⟨-, h, -⟩; rw [h] at h2; exact absurd h2 (by simp))
    rw [eb, ev]
    rw [h2] at C2
    clear eb ev h1 h2
    go_enter Try.func9, Try.ntmps9
    go_wp2_with fail
    refine (C1.out _).mono ?_; rintro e w' ⟨rfl, rfl⟩
    go_wp2_with fail
    refine (C2.out _).mono ?_; rintro e w' ⟨rfl, rfl⟩
    go_wp2_with fail
    go_ret2
    exact ⟨rfl, rfl⟩
  | true =>
  rw [h2] at C2
  cases h3 : tmB n with
  | false =>
    obtain ⟨eb, ev⟩ := est_no (v := v) (s := s) (n := n) (by rintro ⟨-, -, h, -⟩; rw [h] at h3; exact absurd h3 (by simp))
    rw [eb, ev]
    rw [h3] at C3
    clear eb ev h1 h2 h3
    go_enter Try.func9, Try.ntmps9
    go_wp2_with fail
    refine (C1.out _).mono ?_; rintro e w' ⟨rfl, rfl⟩
    go_wp2_with fail
    refine (C2.out _).mono ?_; rintro e w' ⟨rfl, rfl⟩
    go_wp2_with fail
    refine (C3.out _).mono ?_; rintro e w' ⟨rfl, rfl⟩
    go_wp2_with fail
    go_ret2
    exact ⟨rfl, rfl⟩
  | true =>
  rw [h3] at C3
  obtain ⟨v0, v1⟩ := tm_yes h1
  obtain ⟨s0, s1⟩ := tm_yes h2
  obtain ⟨n0, n1⟩ := tm_yes h3
  by_cases hlt : n < s
  · obtain ⟨eb, ev⟩ := est_no (v := v) (s := s) (n := n) (by rintro ⟨-, -, -, h, -⟩; omega)
    rw [eb, ev]
    clear eb ev h1 h2 h3
    go_enter Try.func9, Try.ntmps9
    go_wp2_with fail
    refine (C1.out _).mono ?_; rintro e w' ⟨rfl, rfl⟩
    go_wp2_with fail
    refine (C2.out _).mono ?_; rintro e w' ⟨rfl, rfl⟩
    go_wp2_with fail
    refine (C3.out _).mono ?_; rintro e w' ⟨rfl, rfl⟩
    go_wp2_with fail
    go_ret2
    exact ⟨rfl, rfl⟩
  have hle : s ≤ n := by omega
  have hl2 : decide (n < s) = false := decide_eq_false hlt
  have hd := Int.tdiv_eq_ediv_of_nonneg (a := n - s) (b := 2) (by omega)
  clear hlt
  cases h5 : tmB (v + (n - s) / 2) with
  | false =>
    obtain ⟨eb, ev⟩ := est_no (v := v) (s := s) (n := n) (by rintro ⟨-, -, -, -, h⟩; rw [h] at h5; exact absurd h5 (by simp))
    rw [eb, ev]
    rw [h5] at C4
    clear eb ev h1 h2 h3 h5
    go_enter Try.func9, Try.ntmps9
    go_wp2_with fail
    refine (C1.out _).mono ?_; rintro e w' ⟨rfl, rfl⟩
    go_wp2_with fail
    refine (C2.out _).mono ?_; rintro e w' ⟨rfl, rfl⟩
    go_wp2_with fail
    refine (C3.out _).mono ?_; rintro e w' ⟨rfl, rfl⟩
    go_wp2_with fail
    refine (C4.out _).mono ?_; rintro e w' ⟨rfl, rfl⟩
    go_wp2_with fail
    go_ret2
    exact ⟨rfl, rfl⟩
  | true =>
    obtain ⟨eb, ev⟩ := est_yes h1 h2 h3 hle h5
    rw [eb, ev]
    rw [h5] at C4
    clear eb ev h1 h2 h3 h5
    go_enter Try.func9, Try.ntmps9
    go_wp2_with fail
    refine (C1.out _).mono ?_; rintro e w' ⟨rfl, rfl⟩
    go_wp2_with fail
    refine (C2.out _).mono ?_; rintro e w' ⟨rfl, rfl⟩
    go_wp2_with fail
    refine (C3.out _).mono ?_; rintro e w' ⟨rfl, rfl⟩
    go_wp2_with fail
    refine (C4.out _).mono ?_; rintro e w' ⟨rfl, rfl⟩
    go_wp2_with fail
    go_ret2
    exact ⟨rfl, rfl⟩
set_option maxRecDepth 100000 in
theorem ddiff_any (v h a b t : Int) (w : World) :
    Calls Try.prog 12 #[.int .i64 v, .int .i64 h, .int .i64 a, .int .i64 b, .int .i64 t] w fun e w' => e = .returned (.tuple #[.int .i64 (difV v h a b t), .bool (difB v h a b t)]) ∧ w = w' := by
  have C1 := Lib.hid (fun W => dtime_any v W)
  have C2 := Lib.hid (fun W => dtime_any t W)
  have C3 := Lib.hid (fun W => Hop.rgoodH_any h a b W)
  cases h1 : tmB v with
  | false =>
    have eb : difB v h a b t = false := by unfold difB; rw [h1, Bool.false_and, Bool.and_false]
    have ev : difV v h a b t = 0 := by unfold difV; rw [eb]; rfl
    rw [eb, ev]
    rw [h1] at C1
    clear eb ev h1
    go_enter Try.func12, Try.ntmps12
    go_wp2_with fail
    refine (C1.out _).mono ?_; rintro e w' ⟨rfl, rfl⟩
    go_wp2_with fail
    go_ret2
    exact ⟨rfl, rfl⟩
  | true =>
  rw [h1] at C1
  cases h2 : tmB t with
  | false =>
    have eb : difB v h a b t = false := by unfold difB; rw [h2, Bool.and_false, Bool.and_false]
    have ev : difV v h a b t = 0 := by unfold difV; rw [eb]; rfl
    rw [eb, ev]
    rw [h2] at C2
    clear eb ev h1 h2
    go_enter Try.func12, Try.ntmps12
    go_wp2_with fail
    refine (C1.out _).mono ?_; rintro e w' ⟨rfl, rfl⟩
    go_wp2_with fail
    refine (C2.out _).mono ?_; rintro e w' ⟨rfl, rfl⟩
    go_wp2_with fail
    go_ret2
    exact ⟨rfl, rfl⟩
  | true =>
  rw [h2] at C2
  cases hg : Hop.gdB h a b with
  | false =>
    have eb : difB v h a b t = false := by unfold difB; rw [hg]; rfl
    have ev : difV v h a b t = 0 := by unfold difV; rw [eb]; rfl
    rw [eb, ev]
    rw [hg] at C3
    clear eb ev h1 h2 hg
    go_enter Try.func12, Try.ntmps12
    go_wp2_with fail
    refine (C1.out _).mono ?_; rintro e w' ⟨rfl, rfl⟩
    go_wp2_with fail
    refine (C2.out _).mono ?_; rintro e w' ⟨rfl, rfl⟩
    go_wp2_with fail
    refine (C3.out _).mono ?_; rintro e w' ⟨rfl, rfl⟩
    go_wp2_with fail
    go_ret2
    exact ⟨rfl, rfl⟩
  | true =>
    have eb : difB v h a b t = true := by unfold difB; rw [hg, h1, h2]; rfl
    have ev : difV v h a b t = v + Hop.midV h a b - t := by unfold difV; rw [eb]; rfl
    rw [eb, ev]
    have CM := Lib.hid (fun W => Hop.rmidH_any h a b hg W)
    obtain ⟨v0, v1⟩ := tm_yes h1
    obtain ⟨t0, t1⟩ := tm_yes h2
    obtain ⟨m0, m1⟩ := mid_bd hg
    rw [hg] at C3
    clear eb ev h1 h2 hg
    generalize Hop.midV h a b = m at *
    go_enter Try.func12, Try.ntmps12
    go_wp2_with fail
    refine (C1.out _).mono ?_; rintro e w' ⟨rfl, rfl⟩
    go_wp2_with fail
    refine (C2.out _).mono ?_; rintro e w' ⟨rfl, rfl⟩
    go_wp2_with fail
    refine (C3.out _).mono ?_; rintro e w' ⟨rfl, rfl⟩
    go_wp2_with fail
    refine (CM.out _).mono ?_; rintro e w' ⟨rfl, rfl⟩
    go_wp2_with fail
    go_ret2
    exact ⟨rfl, rfl⟩
set_option maxRecDepth 100000 in
theorem derr_any (a b r s : Int) (w : World) :
    Calls Try.prog 14 #[.int .i64 a, .int .i64 b, .int .i64 r, .int .i64 s] w fun e w' => e = .returned (.tuple #[.int .i64 (rerV a b r s), .bool (rerB a b r s)]) ∧ w = w' := by
  have CH := Lib.hid (fun W => Hop.rgoodH_any 1 a b W)
  have CR := Lib.hid (fun W => Rat.rrtgood_any r s W)
  cases hg : Hop.gdB 1 a b with
  | false =>
    have eb : rerB a b r s = false := by unfold rerB; rw [hg]; rfl
    have ev : rerV a b r s = 0 := by unfold rerV; rw [eb]; rfl
    rw [eb, ev]
    rw [hg] at CH
    clear eb ev hg
    go_enter Try.func14, Try.ntmps14
    go_wp2_with fail
    refine (CH.out _).mono ?_; rintro e w' ⟨rfl, rfl⟩
    go_wp2_with fail
    go_ret2
    exact ⟨rfl, rfl⟩
  | true =>
    rw [hg] at CH
    cases ht : Rat.gdR r s with
    | false =>
      have eb : rerB a b r s = false := by unfold rerB; rw [hg, ht]; rfl
      have ev : rerV a b r s = 0 := by unfold rerV; rw [eb]; rfl
      rw [eb, ev]
      rw [ht] at CR
      clear eb ev hg ht
      go_enter Try.func14, Try.ntmps14
      go_wp2_with fail
      refine (CH.out _).mono ?_; rintro e w' ⟨rfl, rfl⟩
      go_wp2_with fail
      refine (CR.out _).mono ?_; rintro e w' ⟨rfl, rfl⟩
      go_wp2_with fail
      go_ret2
      exact ⟨rfl, rfl⟩
    | true =>
      have eb : rerB a b r s = true := by unfold rerB; rw [hg, ht]; rfl
      have ev : rerV a b r s = (b - a) * 512 + (2 * r + s) * b + 1 := by unfold rerV; rw [eb]; rfl
      rw [eb, ev]
      rw [ht] at CR
      obtain ⟨-, -, a0, ab, b1⟩ := Hop.gd_yes hg
      obtain ⟨r0, r1, s0, s1⟩ := Rat.gdR_yes ht
      obtain ⟨p0, p1⟩ := way_bd r0 r1 s0 s1 (show 0 ≤ b by omega) b1
      clear eb ev hg ht
      go_enter Try.func14, Try.ntmps14
      go_wp2_with fail
      refine (CH.out _).mono ?_; rintro e w' ⟨rfl, rfl⟩
      go_wp2_with fail
      refine (CR.out _).mono ?_; rintro e w' ⟨rfl, rfl⟩
      go_wp2_with fail
      go_ret2
      exact ⟨rfl, rfl⟩
/-- The chapter's example. -/
theorem works23_any (w : World) :
    Calls Try.prog 10 #[] w fun e w' => e = .returned (.bool true) ∧ Below w.heap.size w w' := by
  have C1 : Hid (∀ W, Calls Try.prog 8 #[.int .i64 5000, .int .i64 1000, .int .i64 3048] W fun e w' => e = .returned (.tuple #[.int .i64 6024, .bool true]) ∧ Below W.heap.size W w') := Lib.hid (fun W => est_any 5000 1000 3048 W)
  have C2 : Hid (∀ W, Calls Try.prog 11 #[.int .i64 5000, .int .i64 1, .int .i64 1, .int .i64 1, .int .i64 6100] W fun e w' => e = .returned (.tuple #[.int .i64 (-76), .bool true]) ∧ Below W.heap.size W w') := Lib.hid (fun W => diff_any 5000 1 1 1 6100 W)
  have C3 : Hid (∀ W, Calls Try.prog 13 #[.int .i64 1, .int .i64 2, .int .i64 1, .int .i64 32] W fun e w' => e = .returned (.tuple #[.int .i64 581, .bool true]) ∧ W = w') := Lib.hid (fun W => err_any 1 2 1 32 W)
  go_enter Try.func10, Try.ntmps10
  go_wp2_with fail
  refine (C1.out _).mono ?_; rintro e w1 ⟨rfl, hB⟩
  have B1 := Lib.hid hB
  clear hB
  go_wp2_with fail
  refine (C2.out _).mono ?_; rintro e w2 ⟨rfl, hB⟩
  have B2 := Lib.hid (B1.out.trans (hB.mono B1.out.size))
  clear hB
  go_wp2_with fail
  refine (C3.out _).mono ?_; rintro e w' ⟨rfl, rfl⟩
  go_wp2_with fail
  go_ret
  exact ⟨rfl, B2.out⟩
end Go.Proofs.Ytecgohdpdkpeoaa.Rdg
