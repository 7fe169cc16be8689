/- What stands behind a head, as bytes, the document's own (layer 13): Bytes. -/
import Derived.Test.YtidfdlpdacbkoaaChuN
import Derived.Test.YtidfdlpdacbkoaaDatO
import Derived.Test.YtidfdlpdacbkoaaBufX
import Derived.Deep.RegionHeldLaw
namespace Go.Proofs.Ytidfdlpdacbkoaa.Chu
open Go.ChangeShapes Go.WideShapes Go.ChangeAt Go.RowKit Go.Deep
open Go.Proofs.Ytidfdlpdacbkoaa.Byt Go.Proofs.Ytidfdlpdacbkoaa.Key Go.Proofs.Ytidfdlpdacbkoaa.Buf Go.Proofs.Ytidfdlpdacbkoaa.Hed Go.Proofs.Ytidfdlpdacbkoaa.Dat Go.Proofs.Ytidfdlpdacbkoaa.BufM Go.Proofs.Ytidfdlpdacbkoaa.Pkt
set_option linter.unusedVariables false
set_option linter.unusedSimpArgs false
set_option maxRecDepth 100000 in
set_option maxHeartbeats 2000000 in
theorem rcbytes_any (p : Pk) (w : World) (hm : p.body.length ≤ 900000) (hr : RdB w p.ad p.body) (hnil : p.ad = none → p.cap = 0) :
    Calls Try.prog 18 #[pval p] w (Gives (chuB p) w) := by
  obtain ⟨wb, hwb⟩ : ∃ wb, Hid (wb = w.alloc (.cells p.cells 27)) := ⟨_, Lib.hid rfl⟩
  have HB0 := Lib.hid (one_box w wb _ _ hwb.out).1
  have HC := Lib.hid (pk_cells w wb p hwb.out)
  have CA : Hid (∀ W, Below wb.heap.size wb W → Calls Try.prog 34 #[.int .u64 (IntKind.u64.wrap p.no)] W fun e w' => ∃ ad cap, e = .returned (.slice ad (sev (un p.no)).length cap) ∧ Hid (OwnB w' wb.heap.size (.slice ad (sev (un p.no)).length cap) (sev (un p.no))) ∧ Below wb.heap.size wb w' ∧ Hid (Below W.heap.size W w')) := Lib.hid (fun W hW => by
    rw [← un_val]
    refine (rNum_any (un p.no) (un_lt _) W).mono fun e w' hq => ?_
    obtain ⟨ad, cap, rfl, ho, hB⟩ := hq
    exact ⟨ad, cap, rfl, Lib.hid (Own.mono ho hW.size), hW.trans (hB.mono hW.size), Lib.hid hB⟩)
  have CY : Hid (∀ W, Below wb.heap.size wb W → Calls Try.prog 35 #[.slice p.ad p.body.length p.cap] W fun e w' => ∃ ad cap, e = .returned (.slice ad (sev p.body.length ++ p.body).length cap) ∧ Hid (OwnB w' wb.heap.size (.slice ad (sev p.body.length ++ p.body).length cap) (sev p.body.length ++ p.body)) ∧ Hid (Below W.heap.size W w')) := Lib.hid (fun W hW => (rBytes_any p.ad p.body.length p.cap p.body W rfl (by omega) (hr.below (HB0.out.trans (hW.mono HB0.out.size))) hnil).mono fun e w' hq => by
    obtain ⟨ad, cap, rfl, ho, hB⟩ := hq
    exact ⟨ad, cap, rfl, Lib.hid (Own.mono ho hW.size), Lib.hid hB⟩)
  have HL := Lib.hid (sev_len10 (un p.no) (un_lt _))
  have HLb : Hid ((sev p.body.length ++ p.body).length ≤ 900010) := Lib.hid (by
    have := sev_len10 p.body.length (by omega)
    rw [List.length_append]; omega)
  have HT : Hid (∀ W : World, RdB (W.alloc (.cells #[.int .u8 (IntKind.u8.wrap p.to), .int .u8 (IntKind.u8.wrap p.index), .int .u8 (IntKind.u8.wrap p.total)] 5)) (some ⟨W.heap.size, 0, none⟩) [kb p.to, kb p.index, kb p.total]) := Lib.hid (fun W => rd_three W p.to p.index p.total)
  have hth := Lib.hid (show [kb p.to, kb p.index, kb p.total].length = 3 from rfl)
  have hs := HB0.out.size
  have HF : Hid (∀ l ad cap W, Hid (l = (sev (un p.no) ++ [kb p.to, kb p.index, kb p.total]) ++ (sev p.body.length ++ p.body)) → OwnB W wb.heap.size (.slice ad l.length cap) l → Below wb.heap.size wb W → Gives (chuB p) w (.returned (.slice ad l.length cap)) W) := Lib.hid (fun l ad cap W e h hB => by
    have e2 := e.out
    subst e2
    exact ⟨ad, cap, rfl, Own.mono h hs, HB0.out.trans (hB.mono hs)⟩)
  clear hs
  generalize Gives (chuB p) w = Fin at *
  generalize sev (un p.no) = ls at *
  generalize sev p.body.length ++ p.body = lb at *
  generalize [kb p.to, kb p.index, kb p.total] = th at *
  obtain ⟨l7, hl7⟩ : ∃ l7, Hid (ls ++ th = l7) := ⟨_, Lib.hid rfl⟩
  have HL7 : Hid (l7.length ≤ 13) := Lib.hid (by rw [← hl7.out, List.length_append, hth.out]; have := HL.out; omega)
  rw [hl7.out] at HF
  obtain ⟨kind, ⟨t, f, q⟩, hops, no, to, index, total, stamp, value, ad, cap, body⟩ := p
  unfold Pk.cells at hwb
  unfold pval Pk.cells
  simp only at CA CY HT hwb HC ⊢
  obtain ⟨n, hnn⟩ : ∃ n, body.length = n := ⟨_, rfl⟩
  simp only [hnn] at CY hwb HC ⊢
  have HAl : Hid (∀ W, Below wb.heap.size wb W → Below wb.heap.size wb (W.alloc (.cells #[.int .u8 (IntKind.u8.wrap to), .int .u8 (IntKind.u8.wrap index), .int .u8 (IntKind.u8.wrap total)] 5))) := Lib.hid (fun W h => h.alloc h.size _)
  have HAr : Hid (∀ W : World, Below W.heap.size W (W.alloc (.cells #[.int .u8 (IntKind.u8.wrap to), .int .u8 (IntKind.u8.wrap index), .int .u8 (IntKind.u8.wrap total)] 5))) := Lib.hid (fun W => (Below.refl _ _).alloc (Nat.le_refl _) _)
  have HH : Hid (∀ W, Below wb.heap.size wb W → W.cell? ⟨w.heap.size, 5, none⟩ = some (.int .i64 no) ∧ W.cell? ⟨w.heap.size, 6, none⟩ = some (.int .i64 to) ∧ W.cell? ⟨w.heap.size, 7, none⟩ = some (.int .i64 index) ∧ W.cell? ⟨w.heap.size, 8, none⟩ = some (.int .i64 total)) := Lib.hid (fun W hW => ⟨(HC.out W hW).2.2.2.2.2.1, (HC.out W hW).2.2.2.2.2.2.1, (HC.out W hW).2.2.2.2.2.2.2.1, (HC.out W hW).2.2.2.2.2.2.2.2.1⟩)
  clear hnn hr hnil hm
  go_enter Try.func18, Try.ntmps18
  go_upto_region 1 with fail
  rw [← hwb.out]
  obtain ⟨c0, c1, c2, c3, c4, c5, c6, c7, c8, c9, c10, c11⟩ := HC.out wb (Below.refl _ _)
  have hB0 := Below.refl wb.heap.size wb
  refine wp_region_noPanic ?_
  refine wp_region_held_drew (S := (fun W => W.cell? ⟨w.heap.size, 5, none⟩ = some (.int .i64 no) ∧ W.cell? ⟨w.heap.size, 6, none⟩ = some (.int .i64 to) ∧ W.cell? ⟨w.heap.size, 7, none⟩ = some (.int .i64 index) ∧ W.cell? ⟨w.heap.size, 8, none⟩ = some (.int .i64 total))) (by kernel_rfl) ?_ (fun hHeld => ?_)
  · exact HH.out _ hB0.drew
  refine wpAnyH_take (i := 0) (v := ?_) rfl (by kernel_rfl) (by kernel_rfl) (by kernel_rfl) (fun _ _ _ h => h) (Or.inl ⟨by kernel_rfl, ?_⟩) (by assumption) ?_
  rotate_left 1
  focus (intro w hSw; clear hSw; go_simp; try with_reducible rfl)
  refine wpAnyH_take (i := 1) (v := ?_) rfl (by kernel_rfl) (by kernel_rfl) (by kernel_rfl) (fun _ _ _ h => h) (Or.inl ⟨by kernel_rfl, ?_⟩) (by assumption) ?_
  rotate_left 1
  focus (intro w hSw; obtain ⟨hc5, hc6, hc7, hc8⟩ := hSw; go_simp; try with_reducible rfl)
  refine wpAnyH_take (i := 2) (v := ?_) rfl (by kernel_rfl) (by kernel_rfl) (by kernel_rfl) (fun _ _ _ h => h) (Or.inl ⟨by kernel_rfl, ?_⟩) (by assumption) ?_
  rotate_left 1
  focus (intro w hSw; clear hSw; go_simp; try with_reducible rfl)
  refine wpAnyH_take (i := 4) (v := ?_) rfl (by kernel_rfl) (by kernel_rfl) (by kernel_rfl) (fun _ _ _ h => h) (Or.inl ⟨by kernel_rfl, ?_⟩) (by assumption) ?_
  rotate_left 1
  focus (intro w hSw; clear hSw; go_simp; try with_reducible rfl)
  refine wpAnyH_take (i := 5) (v := ?_) rfl (by kernel_rfl) (by kernel_rfl) (by kernel_rfl) (fun _ _ _ h => h) (Or.inl ⟨by kernel_rfl, ?_⟩) (by assumption) ?_
  rotate_left 1
  focus (intro w hSw; obtain ⟨hc5, hc6, hc7, hc8⟩ := hSw; go_simp; try with_reducible rfl)
  refine wpAnyH_take (i := 6) (v := ?_) rfl (by kernel_rfl) (by kernel_rfl) (by kernel_rfl) (fun _ _ _ h => h) (Or.inl ⟨by kernel_rfl, ?_⟩) (by assumption) ?_
  rotate_left 1
  focus (intro w hSw; clear hSw; go_simp; try with_reducible rfl)
  refine wpAnyH_take (i := 7) (v := ?_) rfl (by kernel_rfl) (by kernel_rfl) (by kernel_rfl) (fun _ _ _ h => h) (Or.inl ⟨by kernel_rfl, ?_⟩) (by assumption) ?_
  rotate_left 1
  focus (intro w hSw; clear hSw; go_simp; try with_reducible rfl)
  refine wpAnyH_take (i := 8) (v := ?_) rfl (by kernel_rfl) (by kernel_rfl) (by kernel_rfl) (fun _ _ _ h => h) (Or.inl ⟨by kernel_rfl, ?_⟩) (by assumption) ?_
  rotate_left 1
  focus (intro w hSw; obtain ⟨hc5, hc6, hc7, hc8⟩ := hSw; go_simp; try with_reducible rfl)
  refine wpAnyH_take (i := 9) (v := ?_) rfl (by kernel_rfl) (by kernel_rfl) (by kernel_rfl) (fun _ _ _ h => h) (Or.inl ⟨by kernel_rfl, ?_⟩) (by assumption) ?_
  rotate_left 1
  focus (intro w hSw; clear hSw; go_simp; try with_reducible rfl)
  refine wpAnyH_take (i := 10) (v := ?_) rfl (by kernel_rfl) (by kernel_rfl) (by kernel_rfl) (fun _ _ _ h => h) (Or.inl ⟨by kernel_rfl, ?_⟩) (by assumption) ?_
  rotate_left 1
  focus (intro w hSw; clear hSw; go_simp; try with_reducible rfl)
  refine wpAnyH_take (i := 11) (v := ?_) rfl (by kernel_rfl) (by kernel_rfl) (by kernel_rfl) (fun _ _ _ h => h) (Or.inl ⟨by kernel_rfl, ?_⟩) (by assumption) ?_
  rotate_left 1
  focus (intro w hSw; obtain ⟨hc5, hc6, hc7, hc8⟩ := hSw; go_simp; try with_reducible rfl)
  refine wpAnyH_take (i := 12) (v := ?_) rfl (by kernel_rfl) (by kernel_rfl) (by kernel_rfl) (fun _ _ _ h => h) (Or.inl ⟨by kernel_rfl, ?_⟩) (by assumption) ?_
  rotate_left 1
  focus (intro w hSw; clear hSw; go_simp; try with_reducible rfl)
  refine wpAnyH_ready (rs := [3, 13]) (by kernel_rfl) (by simp) ?_
  refine AllReadyH.cons rfl (fun K hK => ?_) ?_
  · go_simp
    go_wp2_with (go_at_call 34; (with_reducible refine (CA.out _ ?_).mono ?_); (focus (first | assumption | exact Below.drew (by assumption))); rintro e w5 ⟨ad5, cap5, rfl, HO5, hB5, HB5⟩)
    refine hK.out _ _ ?_ (fun hHeld => ?_)
    · exact HH.out _ hB5
    clear hK K
    refine wpAnyH_ready (rs := [13]) (by kernel_rfl) (by simp) ?_
    refine AllReadyH.cons rfl (fun K hK => ?_) ?_
    · go_simp
      have hB13 := HAl.out _ hB5
      have HT3 := Lib.hid (HT.out w5)
      refine hK.out _ _ ?_ (fun hHeld => ?_)
      · exact HH.out _ hB13
      clear hK K
      refine wpAnyH_ready (rs := [14]) (by kernel_rfl) (by simp) ?_
      refine AllReadyH.cons rfl (fun K hK => ?_) ?_
      · refine Dat.step_app2 rfl _ _ rfl wb.heap.size _ ls ?_ (HO5.out.below (HAr.out w5)) _ 3 3 th ?_ hth.out.symm HT3.out (fun e => by cases e) (by have := HL.out; omega) hB13.size ?_
        · simp [Act.eval, Act.put]
          try rfl
        · simp [Act.eval, Act.put]
        intro ad7 cap7 w7 ho7 hb7
        rw [hl7.out] at ho7
        rw [hl7.out]
        have HO7 := Lib.hid ho7
        have hB7 := hB13.trans hb7
        clear ho7 hb7
        refine hK.out _ _ ?_ (fun hHeld => ?_)
        · exact HH.out _ hB7
        clear hK K
        refine wpAnyH_ready (rs := [15]) (by kernel_rfl) (by simp) ?_
        refine AllReadyH.cons rfl (fun K hK => ?_) ?_
        · go_simp
          refine hK.out _ _ ?_ (fun hHeld => ?_)
          · exact HH.out _ hB7
          clear hK K
          refine wpAnyH_done (by kernel_rfl) ?_ _
          refine NoPanic.normal ?_
          have HB7 := Lib.hid hB7
          clear hHeld hB7 hB0 hB5 hB13 HO5 HB5 HT3 CA HH HAl HAr HT c0 c1 c2 c3 c4 c5 c6 c7 c8 c9 c10 c11
          obtain ⟨c0, c1, c2, c3, c4, c5, c6, c7, c8, c9, c10, c11⟩ := HC.out w7 HB7.out
          have CY7 := Lib.hid (CY.out w7 HB7.out)
          clear CY HC
          go_wp2_with fail
          refine (CY7.out).mono ?_; rintro e w8 ⟨ad8, cap8, rfl, HO8, HB8⟩
          have HOx := Lib.hid (HO7.out.below HB8.out)
          have HRx := Lib.hid HO8.out.rd.1
          have HNx := Lib.hid HO8.out.pos.2.2.1
          have HBx := Lib.hid (HB7.out.trans (HB8.out.mono HB7.out.size))
          have HSx := Lib.hid HBx.out.size
          clear CY7 HO7 HB8 HO8 HB7 c0 c1 c2 c3 c4 c5 c6 c7 c8 c9 c10 c11
          go_wp2_with (at_builtin; refine app_step rfl _ _ rfl wb.heap.size ad7 _ cap7 l7 rfl HOx.out ad8 _ cap8 lb rfl rfl HRx.out HNx.out (by have := HL7.out; have := HLb.out; omega) HSx.out ?_; intro l9 ad9 cap9 w9 hl9 ho9 hb9 _)
          have hF := Lib.hid (HF.out l9 ad9 cap9 w9 hl9 ho9 (HBx.out.trans hb9))
          clear ho9 hb9 HOx HRx HNx
          go_wp2_with fail
          first
            | exact hF.out
            | (go_ret; exact hF.out)
        exact AllReadyH.nil
      exact AllReadyH.nil
    exact AllReadyH.nil
  refine AllReadyH.cons rfl (fun K hK => ?_) ?_
  · go_simp
    have hB13 := HAl.out _ hB0.drew
    have HT3 := Lib.hid (HT.out wb.drew)
    refine hK.out _ _ ?_ (fun hHeld => ?_)
    · exact HH.out _ hB13
    clear hK K
    refine wpAnyH_ready (rs := [3]) (by kernel_rfl) (by simp) ?_
    refine AllReadyH.cons rfl (fun K hK => ?_) ?_
    · go_simp
      go_wp2_with (go_at_call 34; (with_reducible refine (CA.out _ ?_).mono ?_); (focus (first | assumption | exact Below.drew (by assumption))); rintro e w5 ⟨ad5, cap5, rfl, HO5, hB5, HB5⟩)
      refine hK.out _ _ ?_ (fun hHeld => ?_)
      · exact HH.out _ hB5
      clear hK K
      refine wpAnyH_ready (rs := [14]) (by kernel_rfl) (by simp) ?_
      refine AllReadyH.cons rfl (fun K hK => ?_) ?_
      · refine Dat.step_app2 rfl _ _ rfl wb.heap.size _ ls ?_ HO5.out _ 3 3 th ?_ hth.out.symm (HT3.out.below HB5.out) (fun e => by cases e) (by have := HL.out; omega) hB5.size ?_
        · simp [Act.eval, Act.put]
          try rfl
        · simp [Act.eval, Act.put]
        intro ad7 cap7 w7 ho7 hb7
        rw [hl7.out] at ho7
        rw [hl7.out]
        have HO7 := Lib.hid ho7
        have hB7 := hB5.trans hb7
        clear ho7 hb7
        refine hK.out _ _ ?_ (fun hHeld => ?_)
        · exact HH.out _ hB7
        clear hK K
        refine wpAnyH_ready (rs := [15]) (by kernel_rfl) (by simp) ?_
        refine AllReadyH.cons rfl (fun K hK => ?_) ?_
        · go_simp
          refine hK.out _ _ ?_ (fun hHeld => ?_)
          · exact HH.out _ hB7
          clear hK K
          refine wpAnyH_done (by kernel_rfl) ?_ _
          refine NoPanic.normal ?_
          have HB7 := Lib.hid hB7
          clear hHeld hB7 hB0 hB5 hB13 HO5 HB5 HT3 CA HH HAl HAr HT c0 c1 c2 c3 c4 c5 c6 c7 c8 c9 c10 c11
          obtain ⟨c0, c1, c2, c3, c4, c5, c6, c7, c8, c9, c10, c11⟩ := HC.out w7 HB7.out
          have CY7 := Lib.hid (CY.out w7 HB7.out)
          clear CY HC
          go_wp2_with fail
          refine (CY7.out).mono ?_; rintro e w8 ⟨ad8, cap8, rfl, HO8, HB8⟩
          have HOx := Lib.hid (HO7.out.below HB8.out)
          have HRx := Lib.hid HO8.out.rd.1
          have HNx := Lib.hid HO8.out.pos.2.2.1
          have HBx := Lib.hid (HB7.out.trans (HB8.out.mono HB7.out.size))
          have HSx := Lib.hid HBx.out.size
          clear CY7 HO7 HB8 HO8 HB7 c0 c1 c2 c3 c4 c5 c6 c7 c8 c9 c10 c11
          go_wp2_with (at_builtin; refine app_step rfl _ _ rfl wb.heap.size ad7 _ cap7 l7 rfl HOx.out ad8 _ cap8 lb rfl rfl HRx.out HNx.out (by have := HL7.out; have := HLb.out; omega) HSx.out ?_; intro l9 ad9 cap9 w9 hl9 ho9 hb9 _)
          have hF := Lib.hid (HF.out l9 ad9 cap9 w9 hl9 ho9 (HBx.out.trans hb9))
          clear ho9 hb9 HOx HRx HNx
          go_wp2_with fail
          first
            | exact hF.out
            | (go_ret; exact hF.out)
        exact AllReadyH.nil
      exact AllReadyH.nil
    exact AllReadyH.nil
  exact AllReadyH.nil
end Go.Proofs.Ytidfdlpdacbkoaa.Chu
