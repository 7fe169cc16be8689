/- Contracts of package head (layer 9) and of the document's own: Good. -/
import Derived.Test.YtepcbklokcfbfaaHedB
namespace Go.Proofs.Ytepcbklokcfbfaa.Hed
open Go.ChangeShapes Go.WideShapes Go.ChangeAt Go.RowKit Go.Deep
open Go.Proofs.Ytepcbklokcfbfaa.Byt Go.Proofs.Ytepcbklokcfbfaa.Key
set_option linter.unusedVariables false
set_option linter.unusedSimpArgs false
theorem gd_flood {p : Pk} (h : flo p.kind = true) : gd p = (okHops p.hops && goodK p.key) := by unfold gd; rw [if_pos h]
theorem gd_one {p : Pk} (h : flo p.kind = false) : gd p = (decide (1 ≤ p.kind ∧ p.kind ≤ 2) && decide (p.hops = 0) && eqK p.key (0, 0, 0)) := by unfold gd; rw [if_neg (by rw [h]; decide)]
theorem zero_of {x : Int} {b : Bool} (h : decide (x = 0) = b) : (x == 0) = b := by rw [← h]; rfl
set_option maxRecDepth 100000 in
set_option maxHeartbeats 1000000 in
theorem good_any (p : Pk) (w : World) :
    Calls Try.prog 27 #[pval p] w fun e w' => e = .returned (.bool (gd p)) ∧ Below w.heap.size w w' := by
  have CF := Lib.hid (fun W => flood_any p.kind W)
  have CH := Lib.hid (fun W => ishops_any p.hops W)
  have CK := Lib.hid (fun W => Key.good_any p.key W)
  have CI := Lib.hid (fun W => iskind_any p.kind W)
  have HB : Hid (∀ o, Below w.heap.size w (w.alloc o)) := Lib.hid (fun o => (Below.refl _ _).alloc (Nat.le_refl _) o)
  obtain ⟨fl, hfl⟩ : ∃ fl, Hid (flo p.kind = fl) := ⟨_, Lib.hid rfl⟩
  cases fl with
  | true =>
    rw [gd_flood hfl.out]
    obtain ⟨oh, hoh⟩ : ∃ oh, Hid (okHops p.hops = oh) := ⟨_, Lib.hid rfl⟩
    rw [hfl.out] at CF
    rw [hoh.out] at CH ⊢
    clear hfl hoh CI
    generalize goodK p.key = gk at *
    obtain ⟨kind, ⟨t, f, s⟩, hops, no, to, index, total, stamp, value, ad, cap, body⟩ := p
    unfold pval Pk.cells
    unfold kval at CK
    simp only at CK CF CH ⊢
    cases oh with
    | true =>
      go_enter Try.func27, Try.ntmps27
      go_wp2_with fail
      refine (CF.out _).mono ?_; rintro e w' ⟨rfl, rfl⟩
      go_wp2_with fail
      refine (CH.out _).mono ?_; rintro e w' ⟨rfl, rfl⟩
      go_wp2_with fail
      refine (CK.out _).mono ?_; rintro e w' ⟨rfl, hB1⟩
      have HB1 := Lib.hid hB1
      clear hB1
      go_wp2_with fail
      go_ret
      exact ⟨rfl, (HB.out _).trans (HB1.out.mono (HB.out _).size)⟩
    | false =>
      go_enter Try.func27, Try.ntmps27
      go_wp2_with fail
      refine (CF.out _).mono ?_; rintro e w' ⟨rfl, rfl⟩
      go_wp2_with fail
      refine (CH.out _).mono ?_; rintro e w' ⟨rfl, rfl⟩
      go_wp2_with fail
      go_ret
      exact ⟨rfl, HB.out _⟩
  | false =>
    rw [gd_one hfl.out]
    have hlo : Hid (decide (1 ≤ p.kind ∧ p.kind ≤ 6) = decide (1 ≤ p.kind ∧ p.kind ≤ 2)) := Lib.hid (by
      have := of_decide_eq_false (show decide (3 ≤ p.kind ∧ p.kind ≤ 6) = false from hfl.out)
      congr 1; apply propext; omega)
    rw [hlo.out] at CI
    rw [hfl.out] at CF
    clear hfl hlo CH CK
    generalize decide (1 ≤ p.kind ∧ p.kind ≤ 2) = ik at *
    obtain ⟨zh, hzh⟩ : ∃ zh, Hid (decide (p.hops = 0) = zh) := ⟨_, Lib.hid rfl⟩
    have hz2 := zero_of hzh.out
    rw [hzh.out]
    clear hzh
    obtain ⟨kind, ⟨t, f, s⟩, hops, no, to, index, total, stamp, value, ad, cap, body⟩ := p
    unfold pval Pk.cells
    simp only at CF CI hz2 ⊢
    cases ik with
    | false =>
      go_enter Try.func27, Try.ntmps27
      go_wp2_with fail
      refine (CF.out _).mono ?_; rintro e w' ⟨rfl, rfl⟩
      go_wp2_with fail
      refine (CI.out _).mono ?_; rintro e w' ⟨rfl, rfl⟩
      go_wp2_with fail
      go_ret
      exact ⟨rfl, HB.out _⟩
    | true =>
      cases zh with
      | false =>
        go_enter Try.func27, Try.ntmps27
        go_wp2_with fail
        refine (CF.out _).mono ?_; rintro e w' ⟨rfl, rfl⟩
        go_wp2_with fail
        refine (CI.out _).mono ?_; rintro e w' ⟨rfl, rfl⟩
        go_wp2_with fail
        go_ret
        exact ⟨rfl, HB.out _⟩
      | true =>
        go_enter Try.func27, Try.ntmps27
        go_wp2_with fail
        refine (CF.out _).mono ?_; rintro e w' ⟨rfl, rfl⟩
        go_wp2_with fail
        refine (CI.out _).mono ?_; rintro e w' ⟨rfl, rfl⟩
        go_wp2_with fail
        go_ret
        exact ⟨by simp, HB.out _⟩
set_option maxRecDepth 100000 in
set_option maxHeartbeats 1000000 in
theorem rgood_any (p : Pk) (w : World) :
    Calls Try.prog 29 #[pval p] w fun e w' => e = .returned (.bool (gd p)) ∧ Below w.heap.size w w' := by
  have CF := Lib.hid (fun W => rflood_any p.kind W)
  have CK := Lib.hid (fun W => Key.rgood_any p.key W)
  have HB : Hid (∀ o, Below w.heap.size w (w.alloc o)) := Lib.hid (fun o => (Below.refl _ _).alloc (Nat.le_refl _) o)
  obtain ⟨fl, hfl⟩ : ∃ fl, Hid (flo p.kind = fl) := ⟨_, Lib.hid rfl⟩
  cases fl with
  | true =>
    rw [gd_flood hfl.out]
    rw [hfl.out] at CF
    clear hfl
    unfold okHops
    generalize goodK p.key = gk at *
    obtain ⟨kind, ⟨t, f, s⟩, hops, no, to, index, total, stamp, value, ad, cap, body⟩ := p
    unfold pval Pk.cells
    unfold kval at CK
    simp only at CK CF ⊢
    by_cases h1 : hops > 0
    · by_cases h2 : hops < 64
      · rw [show decide (1 ≤ hops ∧ hops ≤ 63) = true from decide_eq_true (by omega)]
        go_enter Try.func29, Try.ntmps29
        go_wp2_with fail
        refine (CF.out _).mono ?_; rintro e w' ⟨rfl, rfl⟩
        go_wp2_with fail
        refine (CK.out _).mono ?_; rintro e w' ⟨rfl, hB1⟩
        have HB1 := Lib.hid hB1
        clear hB1
        go_wp2_with fail
        go_ret
        exact ⟨rfl, (HB.out _).trans (HB1.out.mono (HB.out _).size)⟩
      · rw [show decide (1 ≤ hops ∧ hops ≤ 63) = false from decide_eq_false (by omega)]
        go_enter Try.func29, Try.ntmps29
        go_wp2_with fail
        refine (CF.out _).mono ?_; rintro e w' ⟨rfl, rfl⟩
        go_wp2_with fail
        go_ret
        exact ⟨rfl, HB.out _⟩
    · rw [show decide (1 ≤ hops ∧ hops ≤ 63) = false from decide_eq_false (by omega)]
      go_enter Try.func29, Try.ntmps29
      go_wp2_with fail
      refine (CF.out _).mono ?_; rintro e w' ⟨rfl, rfl⟩
      go_wp2_with fail
      go_ret
      exact ⟨rfl, HB.out _⟩
  | false =>
    rw [gd_one hfl.out]
    rw [hfl.out] at CF
    clear hfl CK
    obtain ⟨zh, hzh⟩ : ∃ zh, Hid (decide (p.hops = 0) = zh) := ⟨_, Lib.hid rfl⟩
    have hz2 := zero_of hzh.out
    rw [hzh.out]
    clear hzh
    obtain ⟨kind, ⟨t, f, s⟩, hops, no, to, index, total, stamp, value, ad, cap, body⟩ := p
    unfold pval Pk.cells
    simp only at CF hz2 ⊢
    by_cases h1 : kind > 0
    · by_cases h2 : kind < 3
      · rw [show decide (1 ≤ kind ∧ kind ≤ 2) = true from decide_eq_true (by omega)]
        cases zh with
        | false =>
          go_enter Try.func29, Try.ntmps29
          go_wp2_with fail
          refine (CF.out _).mono ?_; rintro e w' ⟨rfl, rfl⟩
          go_wp2_with fail
          go_ret
          exact ⟨rfl, HB.out _⟩
        | true =>
          go_enter Try.func29, Try.ntmps29
          go_wp2_with fail
          refine (CF.out _).mono ?_; rintro e w' ⟨rfl, rfl⟩
          go_wp2_with fail
          go_ret
          exact ⟨by simp, HB.out _⟩
      · rw [show decide (1 ≤ kind ∧ kind ≤ 2) = false from decide_eq_false (by omega)]
        go_enter Try.func29, Try.ntmps29
        go_wp2_with fail
        refine (CF.out _).mono ?_; rintro e w' ⟨rfl, rfl⟩
        go_wp2_with fail
        go_ret
        exact ⟨rfl, HB.out _⟩
    · rw [show decide (1 ≤ kind ∧ kind ≤ 2) = false from decide_eq_false (by omega)]
      go_enter Try.func29, Try.ntmps29
      go_wp2_with fail
      refine (CF.out _).mono ?_; rintro e w' ⟨rfl, rfl⟩
      go_wp2_with fail
      go_ret
      exact ⟨rfl, HB.out _⟩
end Go.Proofs.Ytepcbklokcfbfaa.Hed
