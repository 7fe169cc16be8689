/- Good of both, Mate (layer 13). -/
import Derived.Test.YtanfnhgaooafeaaGreatDoorChuX
import Derived.Test.YtanfnhgaooafeaaGreatDoorHedX
namespace Go.Proofs.YtanfnhgaooafeaaGreatDoor.Chu
open Go.ChangeShapes Go.WideShapes Go.ChangeAt Go.RowKit Go.Deep
open Go.Proofs.YtanfnhgaooafeaaGreatDoor.Byt Go.Proofs.YtanfnhgaooafeaaGreatDoor.Key Go.Proofs.YtanfnhgaooafeaaGreatDoor.Buf Go.Proofs.YtanfnhgaooafeaaGreatDoor.Hed Go.Proofs.YtanfnhgaooafeaaGreatDoor.Dat Go.Proofs.YtanfnhgaooafeaaGreatDoor.BufM Go.Proofs.YtanfnhgaooafeaaGreatDoor.Pkt
set_option linter.unusedVariables false
set_option linter.unusedSimpArgs false
set_option maxRecDepth 100000 in
set_option maxHeartbeats 2000000 in
theorem cgood_any (p : Pk) (w : World) :
    Calls Tryz.prog 40 #[pval p] w fun e w' => e = .returned (.bool (chuG p)) ∧ Below w.heap.size w w' := by
  obtain ⟨wb, hwb⟩ : ∃ wb, Hid (wb = w.alloc (.cells p.cells 27)) := ⟨_, Lib.hid rfl⟩
  have HB0 := Lib.hid (one_box w wb _ _ hwb.out).1
  have HC := Lib.hid (pk_cells w wb p hwb.out)
  have CG := Lib.hid (fun W => good_any p W)
  have CN := Lib.hid (fun W => cisno_any p.no W)
  have CT := Lib.hid (fun W => cisnode_any p.to W)
  have CP := Lib.hid (fun W => cisplace_any p.index p.total W)
  unfold chuG
  obtain ⟨x1, h1⟩ : ∃ x, (p.kind == 6) = x := ⟨_, rfl⟩
  obtain ⟨x2, h2⟩ : ∃ x, decide ((p.body.length : Int) ≤ 64) = x := ⟨_, rfl⟩
  obtain ⟨x3, h3⟩ : ∃ x, (p.stamp == 0) = x := ⟨_, rfl⟩
  obtain ⟨x4, h4⟩ : ∃ x, (p.value == 0) = x := ⟨_, rfl⟩
  have b1 : (p.kind == 6) = x1 := h1
  have b1n : (p.kind != 6) = !x1 := by rw [← h1]; rfl
  have b2 : decide ((p.body.length : Int) ≤ 64) = x2 := h2
  have b2n : decide ((64 : Int) < (p.body.length : Int)) = !x2 := by rw [← h2, ← decide_not]; exact decide_eq_decide.2 (by omega)
  have b3 : (p.stamp == 0) = x3 := h3
  have b3n : (p.stamp != 0) = !x3 := by rw [← h3]; rfl
  have b4 : (p.value == 0) = x4 := h4
  have b4n : (p.value != 0) = !x4 := by rw [← h4]; rfl
  clear h1 h2 h3 h4
  rw [b1, b2, b3, b4]
  generalize gd p = y1 at *
  generalize noOk p.no = y2 at *
  generalize ndOk p.to = y3 at *
  generalize plOk p.index p.total = y4 at *
  obtain ⟨kind, ⟨t, f, q⟩, hops, no, to, index, total, stamp, value, ad, cap, body⟩ := p
  unfold pval Pk.cells at CG
  unfold Pk.cells at hwb
  unfold pval Pk.cells
  simp only at CG CN CT CP hwb HC b1 b1n b2 b2n b3 b3n b4 b4n ⊢
  obtain ⟨n, hn⟩ : ∃ n, body.length = n := ⟨_, rfl⟩
  simp only [hn] at CG hwb HC b2 b2n ⊢
  clear hn
  cases x1 with
  | false =>
    go_enter Tryz.func40, Tryz.ntmps40
    go_upto_region 1 with fail
    rw [← hwb.out]
    obtain ⟨c0, c1, c2, c3, c4, c5, c6, c7, c8, c9, c10, c11⟩ := HC.out wb (Below.refl _ _)
    go_wp2_with fail
    go_ret
    exact ⟨by simp, HB0.out⟩
  | true =>
    go_enter Tryz.func40, Tryz.ntmps40
    go_upto_region 1 with fail
    rw [← hwb.out]
    obtain ⟨c0, c1, c2, c3, c4, c5, c6, c7, c8, c9, c10, c11⟩ := HC.out wb (Below.refl _ _)
    go_wp2_with fail
    refine (CG.out _).mono ?_; rintro e w1 ⟨rfl, hB1⟩
    have HB1 := Lib.hid hB1
    clear hB1 c0 c1 c2 c3 c4 c5 c6 c7 c8 c9 c10 c11 CG
    obtain ⟨c0, c1, c2, c3, c4, c5, c6, c7, c8, c9, c10, c11⟩ := HC.out w1 HB1.out
    cases y1 with
    | false =>
      go_wp2_with fail
      go_ret
      exact ⟨by simp, HB0.out.trans (HB1.out.mono HB0.out.size)⟩
    | true =>
      go_wp2_with fail
      refine (CN.out _).mono ?_; rintro e w' ⟨rfl, rfl⟩
      cases y2 with
      | false =>
        go_wp2_with fail
        go_ret
        exact ⟨by simp, HB0.out.trans (HB1.out.mono HB0.out.size)⟩
      | true =>
        go_wp2_with fail
        refine (CT.out _).mono ?_; rintro e w' ⟨rfl, rfl⟩
        cases y3 with
        | false =>
          go_wp2_with fail
          go_ret
          exact ⟨by simp, HB0.out.trans (HB1.out.mono HB0.out.size)⟩
        | true =>
          go_wp2_with fail
          refine (CP.out _).mono ?_; rintro e w' ⟨rfl, rfl⟩
          cases y4 with
          | false =>
            go_wp2_with fail
            go_ret
            exact ⟨by simp, HB0.out.trans (HB1.out.mono HB0.out.size)⟩
          | true =>
            cases x2 with
            | false =>
              simp only [Bool.not_true, Bool.not_false] at b2n
              go_wp2_with fail
              go_ret
              exact ⟨by simp, HB0.out.trans (HB1.out.mono HB0.out.size)⟩
            | true =>
              simp only [Bool.not_true, Bool.not_false] at b2n
              cases x3 with
              | false =>
                simp only [Bool.not_true, Bool.not_false] at b3n
                go_wp2_with fail
                go_ret
                exact ⟨by simp, HB0.out.trans (HB1.out.mono HB0.out.size)⟩
              | true =>
                simp only [Bool.not_true, Bool.not_false] at b3n
                cases x4 with
                | false =>
                  simp only [Bool.not_true, Bool.not_false] at b4n
                  go_wp2_with fail
                  go_ret
                  exact ⟨by simp, HB0.out.trans (HB1.out.mono HB0.out.size)⟩
                | true =>
                  simp only [Bool.not_true, Bool.not_false] at b4n
                  go_wp2_with fail
                  go_ret
                  exact ⟨by simp, HB0.out.trans (HB1.out.mono HB0.out.size)⟩
set_option maxRecDepth 100000 in
set_option maxHeartbeats 2000000 in
theorem rcgood_any (p : Pk) (w : World) :
    Calls Tryz.prog 21 #[pval p] w fun e w' => e = .returned (.bool (chuG p)) ∧ Below w.heap.size w w' := by
  obtain ⟨wb, hwb⟩ : ∃ wb, Hid (wb = w.alloc (.cells p.cells 27)) := ⟨_, Lib.hid rfl⟩
  have HB0 := Lib.hid (one_box w wb _ _ hwb.out).1
  have HC := Lib.hid (pk_cells w wb p hwb.out)
  have CG := Lib.hid (fun W => rgood_any p W)
  have CN := Lib.hid True.intro
  have CT := Lib.hid True.intro
  have CP := Lib.hid True.intro
  rw [chuG_b p]
  obtain ⟨x1, h1⟩ : ∃ x, (p.kind == 6) = x := ⟨_, rfl⟩
  obtain ⟨x2, h2⟩ : ∃ x, decide ((p.body.length : Int) ≤ 64) = x := ⟨_, rfl⟩
  obtain ⟨x3, h3⟩ : ∃ x, (p.stamp == 0) = x := ⟨_, rfl⟩
  obtain ⟨x4, h4⟩ : ∃ x, (p.value == 0) = x := ⟨_, rfl⟩
  have b1 : (p.kind == 6) = x1 := h1
  have b1n : (p.kind != 6) = !x1 := by rw [← h1]; rfl
  have b2 : decide ((p.body.length : Int) ≤ 64) = x2 := h2
  have b2n : decide ((64 : Int) < (p.body.length : Int)) = !x2 := by rw [← h2, ← decide_not]; exact decide_eq_decide.2 (by omega)
  have b3 : (p.stamp == 0) = x3 := h3
  have b3n : (p.stamp != 0) = !x3 := by rw [← h3]; rfl
  have b4 : (p.value == 0) = x4 := h4
  have b4n : (p.value != 0) = !x4 := by rw [← h4]; rfl
  clear h1 h2 h3 h4
  obtain ⟨z1, ez1⟩ : ∃ x, decide (0 ≤ p.no) = x := ⟨_, rfl⟩
  have fz1 : decide (p.no ≥ 0) = z1 := ez1
  obtain ⟨z2, ez2⟩ : ∃ x, decide (p.no ≤ 1152921504606846976) = x := ⟨_, rfl⟩
  obtain ⟨z3, ez3⟩ : ∃ x, decide (0 ≤ p.to) = x := ⟨_, rfl⟩
  have fz3 : decide (p.to ≥ 0) = z3 := ez3
  obtain ⟨z4, ez4⟩ : ∃ x, decide (p.to < 64) = x := ⟨_, rfl⟩
  obtain ⟨z5, ez5⟩ : ∃ x, decide (0 < p.total) = x := ⟨_, rfl⟩
  have fz5 : decide (p.total > 0) = z5 := ez5
  obtain ⟨z6, ez6⟩ : ∃ x, decide (p.total < 256) = x := ⟨_, rfl⟩
  obtain ⟨z7, ez7⟩ : ∃ x, decide (0 ≤ p.index) = x := ⟨_, rfl⟩
  have fz7 : decide (p.index ≥ 0) = z7 := ez7
  obtain ⟨z8, ez8⟩ : ∃ x, decide (p.index < p.total) = x := ⟨_, rfl⟩
  rw [b1, b2, b3, b4, ez1, ez2, ez3, ez4, ez5, ez6, ez7, ez8]
  generalize gd p = y1 at *
  obtain ⟨kind, ⟨t, f, q⟩, hops, no, to, index, total, stamp, value, ad, cap, body⟩ := p
  unfold pval Pk.cells at CG
  unfold Pk.cells at hwb
  unfold pval Pk.cells
  simp only at CG hwb HC b1 b1n b2 b2n b3 b3n b4 b4n ez1 ez2 ez3 ez4 ez5 ez6 ez7 ez8 fz1 fz3 fz5 fz7 ⊢
  obtain ⟨n, hn⟩ : ∃ n, body.length = n := ⟨_, rfl⟩
  simp only [hn] at CG hwb HC b2 b2n ⊢
  clear hn CN CT CP
  cases x1 with
  | false =>
    simp only [Bool.not_true, Bool.not_false] at b1n
    go_enter Tryz.func21, Tryz.ntmps21
    go_upto_region 1 with fail
    rw [← hwb.out]
    obtain ⟨c0, c1, c2, c3, c4, c5, c6, c7, c8, c9, c10, c11⟩ := HC.out wb (Below.refl _ _)
    go_wp2_with fail
    go_ret
    exact ⟨by simp, HB0.out⟩
  | true =>
    simp only [Bool.not_true, Bool.not_false] at b1n
    go_enter Tryz.func21, Tryz.ntmps21
    go_upto_region 1 with fail
    rw [← hwb.out]
    obtain ⟨c0, c1, c2, c3, c4, c5, c6, c7, c8, c9, c10, c11⟩ := HC.out wb (Below.refl _ _)
    go_wp2_with fail
    refine (CG.out _).mono ?_; rintro e w1 ⟨rfl, hB1⟩
    have HB1 := Lib.hid hB1
    clear hB1 c0 c1 c2 c3 c4 c5 c6 c7 c8 c9 c10 c11 CG
    obtain ⟨c0, c1, c2, c3, c4, c5, c6, c7, c8, c9, c10, c11⟩ := HC.out w1 HB1.out
    cases y1 with
    | false =>
      go_wp2_with fail
      go_ret
      exact ⟨by simp, HB0.out.trans (HB1.out.mono HB0.out.size)⟩
    | true =>
      cases x3 with
      | false =>
        simp only [Bool.not_true, Bool.not_false] at b3n
        go_wp2_with fail
        go_ret
        exact ⟨by simp, HB0.out.trans (HB1.out.mono HB0.out.size)⟩
      | true =>
        simp only [Bool.not_true, Bool.not_false] at b3n
        cases x4 with
        | false =>
          simp only [Bool.not_true, Bool.not_false] at b4n
          go_wp2_with fail
          go_ret
          exact ⟨by simp, HB0.out.trans (HB1.out.mono HB0.out.size)⟩
        | true =>
          simp only [Bool.not_true, Bool.not_false] at b4n
          cases x2 with
          | false =>
            simp only [Bool.not_true, Bool.not_false] at b2n
            go_wp2_with fail
            go_ret
            exact ⟨by simp, HB0.out.trans (HB1.out.mono HB0.out.size)⟩
          | true =>
            simp only [Bool.not_true, Bool.not_false] at b2n
            cases z1 with
            | false =>
              go_wp2_with fail
              go_ret
              exact ⟨by simp, HB0.out.trans (HB1.out.mono HB0.out.size)⟩
            | true =>
              cases z2 with
              | false =>
                go_wp2_with fail
                go_ret
                exact ⟨by simp, HB0.out.trans (HB1.out.mono HB0.out.size)⟩
              | true =>
                cases z3 with
                | false =>
                  go_wp2_with fail
                  go_ret
                  exact ⟨by simp, HB0.out.trans (HB1.out.mono HB0.out.size)⟩
                | true =>
                  cases z4 with
                  | false =>
                    go_wp2_with fail
                    go_ret
                    exact ⟨by simp, HB0.out.trans (HB1.out.mono HB0.out.size)⟩
                  | true =>
                    cases z5 with
                    | false =>
                      go_wp2_with fail
                      go_ret
                      exact ⟨by simp, HB0.out.trans (HB1.out.mono HB0.out.size)⟩
                    | true =>
                      cases z6 with
                      | false =>
                        go_wp2_with fail
                        go_ret
                        exact ⟨by simp, HB0.out.trans (HB1.out.mono HB0.out.size)⟩
                      | true =>
                        cases z7 with
                        | false =>
                          go_wp2_with fail
                          go_ret
                          exact ⟨by simp, HB0.out.trans (HB1.out.mono HB0.out.size)⟩
                        | true =>
                          cases z8 with
                          | false =>
                            go_wp2_with fail
                            go_ret
                            exact ⟨by simp, HB0.out.trans (HB1.out.mono HB0.out.size)⟩
                          | true =>
                            go_wp2_with fail
                            go_ret
                            exact ⟨by simp, HB0.out.trans (HB1.out.mono HB0.out.size)⟩
end Go.Proofs.YtanfnhgaooafeaaGreatDoor.Chu
