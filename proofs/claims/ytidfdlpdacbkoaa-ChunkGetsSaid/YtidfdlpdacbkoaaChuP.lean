/- New of both (layer 13); a clone that is the call's own. -/
import Derived.Test.YtidfdlpdacbkoaaChuM
import Derived.Test.YtidfdlpdacbkoaaHedX
import Derived.Deep.RegionHeldLaw
import Derived.Deep.RegionWith
namespace Go.Proofs.Ytidfdlpdacbkoaa.Chu
open Go.ChangeShapes Go.WideShapes Go.ChangeAt Go.RowKit Go.Deep
open Go.Proofs.Ytidfdlpdacbkoaa.Byt Go.Proofs.Ytidfdlpdacbkoaa.Key Go.Proofs.Ytidfdlpdacbkoaa.Buf Go.Proofs.Ytidfdlpdacbkoaa.Hed Go.Proofs.Ytidfdlpdacbkoaa.Dat Go.Proofs.Ytidfdlpdacbkoaa.BufM Go.Proofs.Ytidfdlpdacbkoaa.Pkt
set_option linter.unusedVariables false
set_option linter.unusedSimpArgs false
set_option maxRecDepth 100000 in
/-- Clone: the same bytes in memory of the call's own. -/
theorem clone_own (ad : Option Addr) (len cap : Nat) (l : List UInt8) (w : World) (hlen : l.length = len) (hm : len ≤ 1000000) (hr : RdB w ad l) (hn : ad = none → cap = 0) (hle : len ≤ cap) :
    Calls Try.prog 24 #[.slice ad len cap] w fun e w' => ∃ ad' cap', e = .returned (.slice ad' len cap') ∧ OwnB w' w.heap.size (.slice ad' len cap') l ∧ Below w.heap.size w w' := by
  cases ad with
  | none =>
    obtain rfl : cap = 0 := hn rfl
    obtain rfl : len = 0 := by omega
    obtain rfl : l = [] := List.eq_nil_of_length_eq_zero hlen
    clear hr hn hlen hle hm
    have hq : (binOp .eql 25 (.slice none 0 0) (.slice none 0 0)).run Try.prog w = .ok (.bool true) w := Lib.run_eql_slice_nil w _ _ none 0 0 0 0 Try.underlying25
    go_enter Try.func24, Try.ntmps24
    go_wp2_with fail
    go_ret
    exact ⟨none, 0, rfl, World.ownsRow_nil _ _ _ _, Below.refl _ _⟩
  | some a =>
    have c0 := Lib.hid (Buf.own_zero w)
    have hB0 : Below w.heap.size w (w.alloc (.cells #[] 5)) := (Below.refl _ _).alloc (Nat.le_refl _) _
    have HS := Lib.hid hB0.size
    have c2 := Lib.hid (hr.below hB0)
    have HB0 := Lib.hid hB0
    have c3 := Lib.hid hlen
    clear hlen hr hn hB0 hle
    have hq : (binOp .eql 25 (.slice (some a) len cap) (.slice none 0 0)).run Try.prog w = .ok (.bool false) w := Lib.run_eql_slice_nil w _ _ (some a) len cap 0 0 Try.underlying25
    go_enter Try.func24, Try.ntmps24
    go_wp2_with (at_builtin; refine app_step rfl _ _ rfl w.heap.size (some ⟨w.heap.size, 0, none⟩) 0 0 [] rfl c0.out (some a) len cap l rfl c3.out.symm c2.out (fun h => by cases h) (by have := c3.out; simp; omega) HS.out ?_; intro l' ad' cap' w1 hl' ho hb _)
    have e : l' = l := by rw [hl'.out, List.nil_append]
    subst e
    have HP := Lib.hid (HB0.out.trans (hb.mono (Nat.le_refl _)))
    have HO := Lib.hid ho
    obtain ⟨n, hn⟩ : ∃ n, l'.length = n := ⟨_, rfl⟩
    rw [hn] at HO ⊢
    obtain rfl : n = len := hn.symm.trans c3.out
    clear ho hb hl' c0 c2 HB0 HS hn c3
    go_wp2_with fail
    go_ret
    exact ⟨_, _, rfl, HO.out, HP.out⟩
theorem rcnew_any (k : Ky) (no to index total : Int) (ad : Option Addr) (cap : Nat) (l : List UInt8) (w : World) :
    Calls Try.prog 9 #[kval k, .int .i64 no, .int .i64 to, .int .i64 index, .int .i64 total, .slice ad l.length cap] w fun e w' => e = .returned (pval (chuP k no to index total ad cap l)) ∧ Below w.heap.size w w' := by
  have HB : Hid (∀ o o', Below w.heap.size w ((w.alloc o).alloc o')) := Lib.hid (fun o o' => ((Below.refl _ _).alloc (Nat.le_refl _) o).alloc (by simp) o')
  obtain ⟨t, f, s⟩ := k
  unfold kval pval Pk.cells chuP
  obtain ⟨n, hn⟩ : ∃ n, l.length = n := ⟨_, rfl⟩
  simp only [hn]
  clear hn
  go_enter Try.func9, Try.ntmps9
  go_wp2_with fail
  go_returns
  exact ⟨rfl, HB.out _ _⟩
set_option maxRecDepth 100000 in
set_option maxHeartbeats 1000000 in
theorem cnew_any (k : Ky) (no to index total : Int) (ad : Option Addr) (cap : Nat) (l : List UInt8) (w : World) (hle : l.length ≤ cap) (hm : l.length ≤ 1000000) (hr : RdB w ad l) (hnil : ad = none → cap = 0) :
    Calls Try.prog 8 #[kval k, .int .i64 no, .int .i64 to, .int .i64 index, .int .i64 total, .slice ad l.length cap] w fun e w' => ∃ ad' cap', e = .returned (pval (chuP k no to index total ad' cap' l)) ∧ OwnB w' (w.heap.size + 2) (.slice ad' l.length cap') l ∧ Below w.heap.size w w' := by
  obtain ⟨wb, hwb⟩ : ∃ wb, Hid (wb = (w.alloc (.cells #[.int .i64 k.1, .int .i64 k.2.1, .int .u32 k.2.2] 24)).alloc (.cells (Pk.cells zero) 27)) := ⟨_, Lib.hid rfl⟩
  have HX := Lib.hid (boxes_tt w wb _ _ _ _ hwb.out)
  have HC : Hid (∀ W, Below wb.heap.size wb W → (_ ∧ _ ∧ _) ∧ _ ∧ _) := Lib.hid (fun W hW => ⟨⟨(HX.out.2.1.below hW).cell 0, (HX.out.2.1.below hW).cell 1, (HX.out.2.1.below hW).cell 2⟩, blk_cells (p := zero) (HX.out.2.2.below hW), blk_free (HX.out.2.2.below hW)⟩)
  have HS := Lib.hid (show wb.heap.size = w.heap.size + 2 by rw [hwb.out]; simp)
  have CO : Hid (∀ W, Below wb.heap.size wb W → Calls Try.prog 24 #[.slice ad l.length cap] W fun e w' => ∃ ad' cap', e = .returned (.slice ad' l.length cap') ∧ OwnB w' wb.heap.size (.slice ad' l.length cap') l ∧ Below wb.heap.size wb w') := Lib.hid (fun W hW => (clone_own ad l.length cap l W rfl hm (hr.below (HX.out.1.trans (hW.mono HX.out.1.size))) hnil hle).mono fun e w' h => by
    obtain ⟨ad', cap', rfl, h1, h2⟩ := h
    exact ⟨ad', cap', rfl, Own.mono h1 hW.size, hW.trans (h2.mono hW.size)⟩)
  obtain ⟨t, f, s⟩ := k
  unfold kval pval Pk.cells chuP
  unfold zero Pk.cells at hwb
  simp only at hwb HC ⊢
  obtain ⟨n, hn⟩ : ∃ n, l.length = n := ⟨_, rfl⟩
  simp only [hn, List.length_nil] at hwb CO ⊢
  unfold zero at HC
  simp only [List.length_nil, List.getElem?_toArray, List.getElem?_cons_succ, List.getElem?_cons_zero] at HC
  clear hn hr
  go_enter Try.func8, Try.ntmps8
  go_upto_region 1 with fail
  rw [← hwb.out]
  obtain ⟨⟨c0, c1, c2⟩, ⟨d0, d1, d2, d3, d4, d5, d6, d7, d8, d9, d10, d11⟩, f0, f1, f2, f3, f4, f5, f6, f7, f8, f9, f10, f11⟩ := HC.out wb (Below.refl _ _)
  refine wp_region_noPanic ?_
  go_region_with (go_at_call 24; (with_reducible refine (CO.out _ ?_).mono ?_); (first | assumption | exact (Below.refl _ _) | exact (Below.refl _ _).drew); rintro e w3 ⟨ad3, cap3, rfl, ho3, hB3⟩; obtain ⟨⟨c0, c1, c2⟩, ⟨d0, d1, d2, d3, d4, d5, d6, d7, d8, d9, d10, d11⟩, f0, f1, f2, f3, f4, f5, f6, f7, f8, f9, f10, f11⟩ := HC.out w3 hB3)
  all_goals
    refine NoPanic.normal ?_
    go_wp2_with fail
    obtain ⟨hb, ha⟩ := row12 zero (HX.out.2.2.below hB3) (.int .i64 6) (.int .i64 t) (.int .i64 f) (.int .u32 s) (.int .i64 1) (.int .i64 no) (.int .i64 to) (.int .i64 index) (.int .i64 total) (.int .i64 0) (.int .i64 0) (.slice ad3 n cap3)
    exact bodyPost_ret (results_pk1 rfl _ _ (w.heap.size + 1) _ rfl hb rfl) rfl ⟨ad3, cap3, rfl, ha.own (HS.out ▸ ho3) (by omega), HX.out.1.trans ((hB3.mono HX.out.1.size).trans (ha.below (by omega)))⟩
end Go.Proofs.Ytidfdlpdacbkoaa.Chu
