/- Echo (layer 11). -/
import Derived.Test.YtocfamocemmihaaPulC
namespace Go.Proofs.Ytocfamocemmihaa.Pul
open Go.ChangeShapes Go.WideShapes Go.ChangeAt Go.RowKit Go.Deep
open Go.Proofs.Ytocfamocemmihaa.Byt Go.Proofs.Ytocfamocemmihaa.Key Go.Proofs.Ytocfamocemmihaa.Buf Go.Proofs.Ytocfamocemmihaa.Hed Go.Proofs.Ytocfamocemmihaa.Dat
set_option linter.unusedVariables false
set_option linter.unusedSimpArgs false
/-- Has the packet an echo? -/
def echoB (p : Pk) : Bool := (p.kind == 1) && pulG p
/-- Its echo; the zero packet. -/
def echoV (p : Pk) (v : Int) : Pk := if echoB p = true then echoP p.stamp v else zero
set_option maxRecDepth 100000 in
set_option maxHeartbeats 1000000 in
theorem echo_any (p : Pk) (v : Int) (w : World) (hr : RdB w p.ad p.body) :
    Calls Try.prog 8 #[pval p, .int .i64 v] w fun e w' => e = .returned (.tuple #[pval (echoV p v), .bool (echoB p)]) ∧ Below w.heap.size w w' := by
  obtain ⟨wb, hwb⟩ : ∃ wb, Hid (wb = (w.alloc (.cells p.cells 27)).alloc (.cells (Pk.cells zero) 27)) := ⟨_, Lib.hid rfl⟩
  have HX := Lib.hid (boxes_two w wb _ _ _ hwb.out)
  have HC : Hid (∀ W, Below wb.heap.size wb W → _) := Lib.hid (fun W hW => blk_cells (HX.out.2.1.below hW))
  have HF : Hid (∀ W (q : Pk), Below wb.heap.size wb W → Hid (Blk W (w.heap.size + 1) 27 (Pk.cells zero)) ∧ Hid (Blk (W.setRow (w.heap.size + 1) q.cells) (w.heap.size + 1) 27 q.cells) ∧ Hid (Below w.heap.size w (W.setRow (w.heap.size + 1) q.cells))) := Lib.hid (fun W q hW => ⟨Lib.hid (HX.out.2.2.below hW), Lib.hid (Blk.row (HX.out.2.2.below hW) q.cells rfl), Lib.hid (below_setRow (HX.out.1.trans (hW.mono HX.out.1.size)) (by omega) _)⟩)
  have O : Hid (∀ q : Pk, q.cells.all (·.oneCell') = true) := Lib.hid (fun q => pkP_one q)
  have CG := Lib.hid (fun W (hW : Below wb.heap.size wb W) => pgood_any p W (hr.below (HX.out.1.trans (hW.mono HX.out.1.size))))
  unfold echoV echoB
  obtain ⟨gb, hgb⟩ : ∃ gb, pulG p = gb := ⟨_, rfl⟩
  obtain ⟨ck, hck⟩ : ∃ ck, (p.kind == 1) = ck := ⟨_, rfl⟩
  rw [hgb] at CG ⊢
  rw [hck]
  clear hgb hr HX
  obtain ⟨kind, ⟨t, f, s⟩, hops, no, to, index, total, stamp, value, ad, cap, body⟩ := p
  unfold pval Pk.cells at CG
  unfold Pk.cells zero at hwb
  simp only [List.length_nil] at CG hwb HC hck
  obtain ⟨n, hn⟩ : ∃ n, body.length = n := ⟨_, rfl⟩
  unfold pval
  rw [show (Pk.cells ⟨kind, (t, f, s), hops, no, to, index, total, stamp, value, ad, cap, body⟩) = #[.int .i64 kind, .int .i64 t, .int .i64 f, .int .u32 s, .int .i64 hops, .int .i64 no, .int .i64 to, .int .i64 index, .int .i64 total, .int .i64 stamp, .int .i64 value, .slice ad n cap] from by unfold Pk.cells; rw [← hn]]
  simp only [hn] at CG hwb HC
  clear hn
  cases ck with
  | false =>
    have hne : (kind != 1) = true := by simpa using hck
    simp only [Bool.false_and, Bool.false_eq_true, if_false]
    unfold zero Pk.cells
    simp only [List.length_nil]
    go_enter Try.func8, Try.ntmps8
    go_upto_region 1 with fail
    rw [← hwb.out]
    obtain ⟨c0, c1, c2, c3, c4, c5, c6, c7, c8, c9, c10, c11⟩ := HC.out wb (Below.refl _ _)
    obtain ⟨b1, b2, HB⟩ := HF.out wb zero (Below.refl _ _)
    have o := Lib.hid (O.out zero)
    clear HF O CG HC
    unfold zero Pk.cells at b1 b2 HB o
    simp only [List.length_nil] at b1 b2 HB o
    go_wp2_with (refine wpList_store_row rfl 27 _ _ rfl _ _ rfl rfl _ _ b1.out infoPk rfl o.out ?_)
    exact bodyPost_ret (results_pk2 rfl _ _ (w.heap.size + 1) _ (.bool false) rfl rfl b2.out rfl) rfl ⟨rfl, HB.out⟩
  | true =>
    have hne : (kind != 1) = false := by simpa using hck
    cases gb with
    | false =>
      simp only [Bool.and_false, Bool.false_eq_true, if_false]
      unfold zero Pk.cells
      simp only [List.length_nil]
      go_enter Try.func8, Try.ntmps8
      go_upto_region 1 with fail
      rw [← hwb.out]
      obtain ⟨c0, c1, c2, c3, c4, c5, c6, c7, c8, c9, c10, c11⟩ := HC.out wb (Below.refl _ _)
      go_wp2_with fail
      refine (CG.out _ (Below.refl _ _)).mono ?_; rintro e w1 ⟨rfl, hB1⟩
      obtain ⟨b1, b2, HB⟩ := HF.out w1 zero hB1
      have o := Lib.hid (O.out zero)
      clear HF O CG HC hB1 c0 c1 c2 c3 c4 c5 c6 c7 c8 c9 c10 c11
      unfold zero Pk.cells at b1 b2 HB o
      simp only [List.length_nil] at b1 b2 HB o
      go_wp2_with (refine wpList_store_row rfl 27 _ _ rfl _ _ rfl rfl _ _ b1.out infoPk rfl o.out ?_)
      exact bodyPost_ret (results_pk2 rfl _ _ (w.heap.size + 1) _ (.bool false) rfl rfl b2.out rfl) rfl ⟨rfl, HB.out⟩
    | true =>
      simp only [Bool.and_self, if_true]
      unfold echoP Pk.cells
      simp only [List.length_nil]
      go_enter Try.func8, Try.ntmps8
      go_upto_region 1 with fail
      rw [← hwb.out]
      obtain ⟨c0, c1, c2, c3, c4, c5, c6, c7, c8, c9, c10, c11⟩ := HC.out wb (Below.refl _ _)
      go_wp2_with fail
      refine (CG.out _ (Below.refl _ _)).mono ?_; rintro e w1 ⟨rfl, hB1⟩
      obtain ⟨b1, b2, HB⟩ := HF.out w1 (echoP stamp v) hB1
      have o := Lib.hid (O.out (echoP stamp v))
      clear c0 c1 c2 c3 c4 c5 c6 c7 c8 c9 c10 c11
      obtain ⟨c0, c1, c2, c3, c4, c5, c6, c7, c8, c9, c10, c11⟩ := HC.out w1 hB1
      clear HF O CG HC hB1
      unfold zero Pk.cells at b1
      unfold echoP Pk.cells at b2 HB o
      simp only [List.length_nil] at b1 b2 HB o
      go_wp2_with (refine wpList_store_row rfl 27 _ _ rfl _ _ rfl rfl _ _ b1.out infoPk rfl o.out ?_)
      exact bodyPost_ret (results_pk2 rfl _ _ (w.heap.size + 1) _ (.bool true) rfl rfl b2.out rfl) rfl ⟨rfl, HB.out⟩
end Go.Proofs.Ytocfamocemmihaa.Pul
