/- What is delivered (layer 10): Entry. -/
import Derived.Test.YtjifdbhgoakjpaaDatC
namespace Go.Proofs.Ytjifdbhgoakjpaa.Dat
open Go.ChangeShapes Go.WideShapes Go.ChangeAt Go.RowKit Go.Deep
open Go.Proofs.Ytjifdbhgoakjpaa.Byt Go.Proofs.Ytjifdbhgoakjpaa.Key Go.Proofs.Ytjifdbhgoakjpaa.Buf Go.Proofs.Ytjifdbhgoakjpaa.Hed
set_option linter.unusedVariables false
set_option linter.unusedSimpArgs false
/-- An entry's cells. -/
def ecells (at_ : Int) (k : Ky) (ad : Option Addr) (len cap : Nat) : Array Value := #[.int .i64 at_, .int .i64 k.1, .int .i64 k.2.1, .int .u32 k.2.2, .slice ad len cap]
def eval (at_ : Int) (k : Ky) (ad : Option Addr) (len cap : Nat) : Value := .agg (ecells at_ k ad len cap)
theorem good_time {p : Pk} (h : datG p = true) : 0 ≤ p.key.1 ∧ p.key.1 ≤ 1152921504606846976 := by
  unfold datG at h
  simp only [Bool.and_eq_true] at h
  obtain ⟨h1, h2, -⟩ := h
  rw [eqP_bare] at h1
  simp only [Bool.and_eq_true, beq_iff_eq] at h1
  rw [gd_flood (by rw [h1.1]; rfl)] at h2
  simp only [Bool.and_eq_true] at h2
  have h3 := h2.2
  unfold goodK at h3
  simp at h3
  exact ⟨h3.1, h3.2.1⟩
theorem infoEn : (Try.prog.info? 51).map (·.size) = some 5 := by kernel_rfl
/-- The result out of an entry's cell, and a second one. -/
theorem results_en {fn : Func} {i j : Nat} (h : fn.results = #[.cell i 51, .tmp j]) (tmps : Array Value) (w : World) (g : Nat) (cs : Array Value) (v : Value)
    (hp : tmps.getD i undef = .pointer (some ⟨g, 0, none⟩)) (h3 : tmps.getD j undef = v) (hg : Blk w g 51 cs) (hs : cs.size = 5) :
    (results fn tmps).run Try.prog w = .ok (.tuple #[.agg cs, v]) w := by
  have hp' : tmps[i]?.getD undef = .pointer (some ⟨g, 0, none⟩) := by simpa using hp
  have h3' : tmps[j]?.getD undef = v := by simpa using h3
  simp [results, h, hp', h3', asAddr, run_loadVar_row w g 51 _ cs (0, 0) _ hg Try.underlying51 rfl (by rw [hs]; exact infoEn)]
/-- No entry. -/
def zen : Array Value := #[.int .i64 0, .int .i64 0, .int .i64 0, .int .u32 0, .slice none 0 0]
theorem zen_one : zen.all (·.oneCell') = true := by simp [zen, Value.oneCell']
/-- The entry's cell cleared, and what is left of the world. -/
theorem zen_put {w W : World} {g B : Nat} (b : Blk W g 51 zen) (h : Below B w W) (hg : B ≤ g) : Blk (W.setRow g zen) g 51 zen ∧ Below B w (W.setRow g zen) := ⟨Blk.row b zen rfl, below_setRow h hg _⟩
set_option maxRecDepth 100000 in
set_option maxHeartbeats 1000000 in
theorem entry_arg (p : Pk) (d : Int) (w : World) (hr : RdB w p.ad p.body) (h : datG p = false ∨ d < 0) :
    Calls Try.prog 24 #[pval p, .int .i64 d] w fun e w' => e = .returned (.tuple #[eval 0 (0, 0, 0) none 0 0, .int .i64 1]) ∧ Below w.heap.size w w' := by
  obtain ⟨wb, hwb⟩ : ∃ wb, Hid (wb = (w.alloc (.cells p.cells 27)).alloc (.cells (ecells 0 (0, 0, 0) none 0 0) 51)) := ⟨_, Lib.hid rfl⟩
  have HX := Lib.hid (boxes_tt w wb _ _ _ _ hwb.out)
  have HC : Hid (∀ W, Below wb.heap.size wb W → _ ∧ _) := Lib.hid (fun W hW => ⟨blk_cells (HX.out.2.1.below hW), blk_free (HX.out.2.2.below hW)⟩)
  have CG := Lib.hid (fun W (hW : Below wb.heap.size wb W) => dgood_any p W (hr.below (HX.out.1.trans (hW.mono HX.out.1.size))))
  generalize datG p = gb at *
  obtain ⟨kind, ⟨t, f, s⟩, hops, no, to, index, total, stamp, value, ad, cap, body⟩ := p
  unfold pval Pk.cells at CG
  unfold Pk.cells ecells at hwb HX
  unfold pval Pk.cells eval ecells
  simp only at CG hwb HC HX ⊢
  clear hr
  have HZ : Hid (∀ W, Below wb.heap.size wb W → Blk W (w.heap.size + 1) 51 zen ∧ Blk (W.setRow (w.heap.size + 1) zen) (w.heap.size + 1) 51 zen ∧ Below w.heap.size w (W.setRow (w.heap.size + 1) zen)) := Lib.hid (fun W h1 => ⟨HX.out.2.2.below h1, zen_put (HX.out.2.2.below h1) (HX.out.1.trans (h1.mono HX.out.1.size)) (by omega)⟩)
  have HO := Lib.hid zen_one
  unfold zen at HO HZ
  cases gb with
  | false =>
    clear h
    go_enter Try.func24, Try.ntmps24
    go_upto_region 1 with fail
    rw [← hwb.out]
    obtain ⟨⟨c0, c1, c2, c3, c4, c5, c6, c7, c8, c9, c10, c11⟩, f0, f1, f2, f3, f4, -⟩ := HC.out wb (Below.refl _ _)
    go_wp2_with fail
    refine (CG.out _ (Below.refl _ _)).mono ?_; rintro e w1 ⟨rfl, hB1⟩
    have hz := HZ.out w1 hB1
    have b1 := Lib.hid hz.1
    have b2 := Lib.hid hz.2.1
    have HB2 := Lib.hid hz.2.2
    clear hz hB1 c0 c1 c2 c3 c4 c5 c6 c7 c8 c9 c10 c11 f0 f1 f2 f3 f4
    go_wp2_with (refine wpList_store_row rfl 51 _ _ rfl _ _ rfl rfl _ _ b1.out infoEn rfl HO.out ?_)
    exact bodyPost_ret (results_en rfl _ _ (w.heap.size + 1) _ (.int .i64 1) rfl rfl b2.out rfl) rfl ⟨rfl, HB2.out⟩
  | true =>
    have hd : decide (d < 0) = true := by simpa using h
    clear h
    go_enter Try.func24, Try.ntmps24
    go_upto_region 1 with fail
    rw [← hwb.out]
    obtain ⟨⟨c0, c1, c2, c3, c4, c5, c6, c7, c8, c9, c10, c11⟩, f0, f1, f2, f3, f4, -⟩ := HC.out wb (Below.refl _ _)
    go_wp2_with fail
    refine (CG.out _ (Below.refl _ _)).mono ?_; rintro e w1 ⟨rfl, hB1⟩
    have hz := HZ.out w1 hB1
    have b1 := Lib.hid hz.1
    have b2 := Lib.hid hz.2.1
    have HB2 := Lib.hid hz.2.2
    clear hz hB1 c0 c1 c2 c3 c4 c5 c6 c7 c8 c9 c10 c11 f0 f1 f2 f3 f4
    go_wp2_with (refine wpList_store_row rfl 51 _ _ rfl _ _ rfl rfl _ _ b1.out infoEn rfl HO.out ?_)
    exact bodyPost_ret (results_en rfl _ _ (w.heap.size + 1) _ (.int .i64 1) rfl rfl b2.out rfl) rfl ⟨rfl, HB2.out⟩
set_option maxRecDepth 100000 in
set_option maxHeartbeats 1000000 in
theorem entry_over (p : Pk) (d : Int) (w : World) (hr : RdB w p.ad p.body) (h : datG p = true) (hd0 : 0 ≤ d) (ho : 1152921504606846976 - p.key.1 < d) :
    Calls Try.prog 24 #[pval p, .int .i64 d] w fun e w' => e = .returned (.tuple #[eval 0 (0, 0, 0) none 0 0, .int .i64 18]) ∧ Below w.heap.size w w' := by
  obtain ⟨wb, hwb⟩ : ∃ wb, Hid (wb = (w.alloc (.cells p.cells 27)).alloc (.cells (ecells 0 (0, 0, 0) none 0 0) 51)) := ⟨_, Lib.hid rfl⟩
  have HX := Lib.hid (boxes_tt w wb _ _ _ _ hwb.out)
  have HC : Hid (∀ W, Below wb.heap.size wb W → _) := Lib.hid (fun W hW => blk_cells (HX.out.2.1.below hW))
  have CG := Lib.hid (fun W (hW : Below wb.heap.size wb W) => dgood_any p W (hr.below (HX.out.1.trans (hW.mono HX.out.1.size))))
  obtain ⟨ht0, ht1⟩ := good_time h
  rw [h] at CG
  obtain ⟨kind, ⟨t, f, s⟩, hops, no, to, index, total, stamp, value, ad, cap, body⟩ := p
  unfold pval Pk.cells at CG
  unfold Pk.cells ecells at hwb HX
  unfold pval Pk.cells eval ecells
  simp only at CG hwb HC HX ht0 ht1 ho ⊢
  clear hr h
  have HZ : Hid (∀ W, Below wb.heap.size wb W → Blk W (w.heap.size + 1) 51 zen ∧ Blk (W.setRow (w.heap.size + 1) zen) (w.heap.size + 1) 51 zen ∧ Below w.heap.size w (W.setRow (w.heap.size + 1) zen)) := Lib.hid (fun W h1 => ⟨HX.out.2.2.below h1, zen_put (HX.out.2.2.below h1) (HX.out.1.trans (h1.mono HX.out.1.size)) (by omega)⟩)
  have HO := Lib.hid zen_one
  unfold zen at HO HZ
  have hd : decide (d < 0) = false := decide_eq_false (by omega)
  have hg : decide (1152921504606846976 - t < d) = true := decide_eq_true ho
  clear ho
  go_enter Try.func24, Try.ntmps24
  go_upto_region 1 with fail
  rw [← hwb.out]
  obtain ⟨c0, c1, c2, c3, c4, c5, c6, c7, c8, c9, c10, c11⟩ := HC.out wb (Below.refl _ _)
  go_wp2_with fail
  refine (CG.out _ (Below.refl _ _)).mono ?_; rintro e w1 ⟨rfl, hB1⟩
  have hz := HZ.out w1 hB1
  have b1 := Lib.hid hz.1
  have b2 := Lib.hid hz.2.1
  have HB2 := Lib.hid hz.2.2
  clear c0 c1 c2 c3 c4 c5 c6 c7 c8 c9 c10 c11
  obtain ⟨c0, c1, c2, c3, c4, c5, c6, c7, c8, c9, c10, c11⟩ := HC.out w1 hB1
  clear hz hB1
  go_wp2_with (refine wpList_store_row rfl 51 _ _ rfl _ _ rfl rfl _ _ b1.out infoEn rfl HO.out ?_)
  exact bodyPost_ret (results_en rfl _ _ (w.heap.size + 1) _ (.int .i64 18) rfl rfl b2.out rfl) rfl ⟨rfl, HB2.out⟩
end Go.Proofs.Ytjifdbhgoakjpaa.Dat
