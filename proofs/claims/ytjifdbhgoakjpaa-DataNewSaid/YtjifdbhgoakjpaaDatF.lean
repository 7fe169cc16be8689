/- What is delivered (layer 10): Entry of a packet that may be. -/
import Derived.Test.YtjifdbhgoakjpaaDatE
namespace Go.Proofs.Ytjifdbhgoakjpaa.Dat
open Go.ChangeShapes Go.WideShapes Go.ChangeAt Go.RowKit Go.Deep
open Go.Proofs.Ytjifdbhgoakjpaa.Byt Go.Proofs.Ytjifdbhgoakjpaa.Key Go.Proofs.Ytjifdbhgoakjpaa.Buf Go.Proofs.Ytjifdbhgoakjpaa.Hed
set_option linter.unusedVariables false
set_option linter.unusedSimpArgs false
/-- Five cells written, one after another. -/
theorem row5 {w : World} {g : Nat} {t : TypeId} {u0 u1 u2 u3 u4 : Value} (h : Blk w g t #[u0, u1, u2, u3, u4]) (v0 v1 v2 v3 v4 : Value) : Blk (((((w.setCell ⟨g, 0, none⟩ v0).setCell ⟨g, 1, none⟩ v1).setCell ⟨g, 2, none⟩ v2).setCell ⟨g, 3, none⟩ v3).setCell ⟨g, 4, none⟩ v4) g t #[v0, v1, v2, v3, v4] ∧ Away g w (((((w.setCell ⟨g, 0, none⟩ v0).setCell ⟨g, 1, none⟩ v1).setCell ⟨g, 2, none⟩ v2).setCell ⟨g, 3, none⟩ v3).setCell ⟨g, 4, none⟩ v4) := by
  refine ⟨?_, ?_⟩
  · have h := h.put 0 v0
    simp only [List.setIfInBounds_toArray, List.set_cons_zero, List.set_cons_succ] at h
    have h := h.put 1 v1
    simp only [List.setIfInBounds_toArray, List.set_cons_zero, List.set_cons_succ] at h
    have h := h.put 2 v2
    simp only [List.setIfInBounds_toArray, List.set_cons_zero, List.set_cons_succ] at h
    have h := h.put 3 v3
    simp only [List.setIfInBounds_toArray, List.set_cons_zero, List.set_cons_succ] at h
    have h := h.put 4 v4
    simp only [List.setIfInBounds_toArray, List.set_cons_zero, List.set_cons_succ] at h
    exact h
  · exact ((((Away.refl g w).set 0 v0 |>.set 1 v1).set 2 v2).set 3 v3).set 4 v4
set_option maxRecDepth 100000 in
set_option maxHeartbeats 4000000 in
theorem entry_yes (p : Pk) (d : Int) (w : World) (hr : RdB w p.ad p.body) (hle : p.body.length ≤ p.cap) (hm : p.body.length ≤ 140737488355328) (hc : p.cap ≤ 9223372036854775807) (h : datG p = true) (hd0 : 0 ≤ d) (ho : ¬ 1152921504606846976 - p.key.1 < d) :
    Calls Try.prog 24 #[pval p, .int .i64 d] w fun e w' => ∃ ad' cap', e = .returned (.tuple #[eval (p.key.1 + d) p.key ad' p.body.length cap', .int .i64 0]) ∧ OwnB w' (w.heap.size + 2) (.slice ad' p.body.length cap') p.body ∧ Below w.heap.size w w' := by
  obtain ⟨wb, hwb⟩ : ∃ wb, Hid (wb = (w.alloc (.cells p.cells 27)).alloc (.cells (ecells 0 (0, 0, 0) none 0 0) 51)) := ⟨_, Lib.hid rfl⟩
  have HX := Lib.hid (boxes_tt w wb _ _ _ _ hwb.out)
  have HS := Lib.hid (show wb.heap.size = w.heap.size + 2 by rw [hwb.out]; simp)
  have HC : Hid (∀ W, Below wb.heap.size wb W → _ ∧ (_ ∧ _ ∧ _ ∧ _ ∧ _) ∧ _) := Lib.hid (fun W hW => ⟨blk_cells (HX.out.2.1.below hW), ⟨(HX.out.2.2.below hW).cell 0, (HX.out.2.2.below hW).cell 1, (HX.out.2.2.below hW).cell 2, (HX.out.2.2.below hW).cell 3, (HX.out.2.2.below hW).cell 4⟩, blk_free (HX.out.2.2.below hW)⟩)
  have CG : Hid (∀ W, Below wb.heap.size wb W → Calls Try.prog 11 #[pval p] W fun e w' => e = .returned (.bool (datG p)) ∧ Below wb.heap.size wb w') := Lib.hid (fun W hW => (dgood_any p W (hr.below (HX.out.1.trans (hW.mono HX.out.1.size)))).mono fun e w' h => ⟨h.1, hW.trans (h.2.mono hW.size)⟩)
  have CO : Hid (∀ W, Below wb.heap.size wb W → Calls Try.prog 25 #[.slice p.ad p.body.length p.cap] W fun e w' => ∃ ad' cap', e = .returned (.slice ad' p.body.length cap') ∧ OwnB w' wb.heap.size (.slice ad' p.body.length cap') p.body ∧ Below wb.heap.size wb w') := Lib.hid (fun W hW => (own_any p.ad p.body.length p.cap p.body W rfl hle hm hc (hr.below (HX.out.1.trans (hW.mono HX.out.1.size)))).mono fun e w' h => by
    obtain ⟨ad', cap', rfl, h1, h2⟩ := h
    exact ⟨ad', cap', rfl, Own.mono h1 hW.size, hW.trans (h2.mono hW.size)⟩)
  obtain ⟨ht0, ht1⟩ := good_time h
  rw [h] at CG
  obtain ⟨kind, ⟨t, f, s⟩, hops, no, to, index, total, stamp, value, ad, cap, body⟩ := p
  unfold pval Pk.cells at CG
  unfold Pk.cells ecells at hwb HX
  unfold pval Pk.cells eval ecells
  simp only at CG CO hwb HC HX ht0 ht1 ho ⊢
  obtain ⟨n, hn⟩ : ∃ n, body.length = n := ⟨_, rfl⟩
  simp only [hn] at CG CO hwb HC HX ⊢
  have hd : decide (d < 0) = false := decide_eq_false (by omega)
  have hg : decide (1152921504606846976 - t < d) = false := decide_eq_false ho
  unfold ecells at HC
  simp only [List.getElem?_toArray, List.getElem?_cons_succ, List.getElem?_cons_zero] at HC
  clear hr h hn hle hm hc
  go_enter Try.func24, Try.ntmps24
  go_upto_region 1 with fail
  rw [← hwb.out]
  obtain ⟨⟨c0, c1, c2, c3, c4, c5, c6, c7, c8, c9, c10, c11⟩, ⟨e0, e1, e2, e3, e4⟩, f0, f1, f2, f3, f4, -⟩ := HC.out wb (Below.refl _ _)
  go_wp2_with fail
  refine (CG.out _ (Below.refl _ _)).mono ?_; rintro e w1 ⟨rfl, hB1⟩
  clear c0 c1 c2 c3 c4 c5 c6 c7 c8 c9 c10 c11 e0 e1 e2 e3 e4 f0 f1 f2 f3 f4
  obtain ⟨⟨c0, c1, c2, c3, c4, c5, c6, c7, c8, c9, c10, c11⟩, ⟨e0, e1, e2, e3, e4⟩, f0, f1, f2, f3, f4, -⟩ := HC.out w1 hB1
  go_upto_region 5 with fail
  have HW : Hid (IntKind.i64.wrap (t + d) = t + d) := Lib.hid (by rw [IntKind.wrap_i64]; omega)
  have HF : Hid (∀ W v0 v1 v2 v3 v4, Below wb.heap.size wb W → _ ∧ _ ∧ _ ∧ _) := Lib.hid (fun W v0 v1 v2 v3 v4 hW =>
    have b := (((((HX.out.2.1.below hW).far (p := ⟨w.heap.size + 1, 0, none⟩) (by simp) v0).far (p := ⟨w.heap.size + 1, 1, none⟩) (by simp) v1).far (p := ⟨w.heap.size + 1, 2, none⟩) (by simp) v2).far (p := ⟨w.heap.size + 1, 3, none⟩) (by simp) v3).far (p := ⟨w.heap.size + 1, 4, none⟩) (by simp) v4
    ⟨b.cell 1, b.cell 2, b.cell 3, b.cell 11⟩)
  simp only [List.getElem?_toArray, List.getElem?_cons_succ, List.getElem?_cons_zero] at HF
  have HC2 : Hid (∀ W, Below wb.heap.size wb W → _ ∧ _ ∧ _ ∧ _) := Lib.hid (fun W hW =>
    have b := HX.out.2.1.below hW
    ⟨b.cell 1, b.cell 2, b.cell 3, b.cell 11⟩)
  simp only [List.getElem?_toArray, List.getElem?_cons_succ, List.getElem?_cons_zero] at HC2
  clear c0 c4 c5 c6 c7 c8 c9 c10 e0 e1 e2 e3 e4 f0 f1 f2 f3 f4
  refine wp_region_noPanic ?_
  go_region_held_law (fun W => W.cell? ⟨w.heap.size, 1, none⟩ = some (.int .i64 t) ∧ W.cell? ⟨w.heap.size, 2, none⟩ = some (.int .i64 f) ∧ W.cell? ⟨w.heap.size, 3, none⟩ = some (.int .u32 s) ∧ W.cell? ⟨w.heap.size, 11, none⟩ = some (.slice ad n cap)) (first | (refine HC2.out _ ?_; (first | assumption | exact Below.drew (by assumption))) | (refine HF.out _ _ _ _ _ _ ?_; assumption))
    (first | (go_at_call 25; (with_reducible refine (CO.out _ ?_).mono ?_); (first | assumption | exact Below.drewN (by assumption) | exact Below.drew (by assumption)); rintro e w3 ⟨ad3, cap3, rfl, ho3, hB3⟩; obtain ⟨-, ⟨e0, e1, e2, e3, e4⟩, f0, f1, f2, f3, f4, -⟩ := HC.out w3 hB3))
  all_goals
    refine NoPanic.normal ?_
    rw [HW.out]
    go_wp2_with fail
    obtain ⟨hb, ha⟩ := row5 (HX.out.2.2.below hB3) (.int .i64 (t + d)) (.int .i64 t) (.int .i64 f) (.int .u32 s) (.slice ad3 n cap3)
    exact bodyPost_ret (results_en rfl _ _ (w.heap.size + 1) _ (.int .i64 0) rfl rfl hb rfl) rfl ⟨ad3, cap3, rfl, ha.own (HS.out ▸ ho3) (by omega), HX.out.1.trans ((hB3.mono HX.out.1.size).trans (ha.below (by omega)))⟩
end Go.Proofs.Ytjifdbhgoakjpaa.Dat
