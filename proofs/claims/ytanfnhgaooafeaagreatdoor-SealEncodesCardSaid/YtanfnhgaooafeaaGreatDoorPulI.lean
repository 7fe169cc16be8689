/- What stands behind a head, as bytes, the document's own (layer 11): Bytes. -/
import Derived.Test.YtanfnhgaooafeaaGreatDoorPulX
import Derived.Test.YtanfnhgaooafeaaGreatDoorDatZ
import Derived.Test.YtanfnhgaooafeaaGreatDoorBufX
import Derived.Deep.RegionHeldLaw
namespace Go.Proofs.YtanfnhgaooafeaaGreatDoor.Pul
open Go.ChangeShapes Go.WideShapes Go.ChangeAt Go.RowKit Go.Deep
open Go.Proofs.YtanfnhgaooafeaaGreatDoor.Byt Go.Proofs.YtanfnhgaooafeaaGreatDoor.Key Go.Proofs.YtanfnhgaooafeaaGreatDoor.Buf Go.Proofs.YtanfnhgaooafeaaGreatDoor.Hed Go.Proofs.YtanfnhgaooafeaaGreatDoor.Dat Go.Proofs.YtanfnhgaooafeaaGreatDoor.BufM
set_option linter.unusedVariables false
set_option linter.unusedSimpArgs false
/-- What stands behind a head. -/
def pulB (p : Pk) : List UInt8 := if p.kind = 1 then fixB (un p.stamp) 8 else if p.kind = 2 then fixB (un p.stamp) 8 ++ fixB (un p.value) 8 else sev (un p.no)
set_option maxRecDepth 100000 in
theorem pbytes_1 (p : Pk) (w : World) (hk : p.kind = 1) :
    Calls Tryz.prog 26 #[pval p] w (Gives (pulB p) w) := by
  obtain ⟨wb, hwb⟩ : ∃ wb, Hid (wb = w.alloc (.cells p.cells 27)) := ⟨_, Lib.hid rfl⟩
  have HB0 := Lib.hid (one_box w wb _ _ hwb.out).1
  have HC := Lib.hid (pk_cells w wb p hwb.out)
  rw [show pulB p = fixB (un p.stamp) 8 from by unfold pulB; rw [if_pos hk]]
  have CB : Hid (Calls Tryz.prog 60 #[.int .u64 (IntKind.u64.wrap p.stamp), .int .i64 8] wb fun e w' => ∃ ad cap, e = .returned (.slice ad (fixB (un p.stamp) 8).length cap) ∧ Hid (Gives (fixB (un p.stamp) 8) w (.returned (.slice ad (fixB (un p.stamp) 8).length cap)) w')) := Lib.hid ((by rw [← un_val]; exact rFixed_any (un p.stamp) 8 (un_lt _) (by omega) wb : Calls Tryz.prog 60 #[.int .u64 (IntKind.u64.wrap p.stamp), .int .i64 8] wb (Gives (fixB (un p.stamp) 8) wb)).mono fun e w' hq => by
    obtain ⟨ad, cap, rfl, ho, hB⟩ := hq
    exact ⟨ad, cap, rfl, Lib.hid ⟨ad, cap, rfl, Own.mono ho HB0.out.size, HB0.out.trans (hB.mono HB0.out.size)⟩⟩)
  generalize fixB (un p.stamp) 8 = out at *
  obtain ⟨kind, ⟨t, f, s⟩, hops, no, to, index, total, stamp, value, ad, cap, body⟩ := p
  simp only at hk
  subst hk
  unfold Pk.cells at hwb
  unfold pval Pk.cells
  simp only at CB hwb HC ⊢
  obtain ⟨n, hnn⟩ : ∃ n, body.length = n := ⟨_, rfl⟩
  simp only [hnn] at hwb HC ⊢
  clear hnn
  go_enter Tryz.func26, Tryz.ntmps26
  go_upto_region 1 with fail
  rw [← hwb.out]
  obtain ⟨c0, c1, c2, c3, c4, c5, c6, c7, c8, c9, c10, c11⟩ := HC.out wb (Below.refl _ _)
  go_wp2_with fail
  refine (CB.out).mono ?_; rintro e w' ⟨ad2, cap2, rfl, HP⟩
  go_wp2_with fail
  go_ret
  exact HP.out
set_option maxRecDepth 100000 in
theorem pbytes_3 (p : Pk) (w : World) (h1 : p.kind ≠ 1) (h2 : p.kind ≠ 2) :
    Calls Tryz.prog 26 #[pval p] w (Gives (pulB p) w) := by
  obtain ⟨wb, hwb⟩ : ∃ wb, Hid (wb = w.alloc (.cells p.cells 27)) := ⟨_, Lib.hid rfl⟩
  have HB0 := Lib.hid (one_box w wb _ _ hwb.out).1
  have HC := Lib.hid (pk_cells w wb p hwb.out)
  rw [show pulB p = sev (un p.no) from by unfold pulB; rw [if_neg h1, if_neg h2]]
  have CB : Hid (Calls Tryz.prog 59 #[.int .u64 (IntKind.u64.wrap p.no)] wb fun e w' => ∃ ad cap, e = .returned (.slice ad (sev (un p.no)).length cap) ∧ Hid (Gives (sev (un p.no)) w (.returned (.slice ad (sev (un p.no)).length cap)) w')) := Lib.hid ((by rw [← un_val]; exact rNum_any _ (un_lt _) wb : Calls Tryz.prog 59 #[.int .u64 (IntKind.u64.wrap p.no)] wb (Gives (sev (un p.no)) wb)).mono fun e w' hq => by
    obtain ⟨ad, cap, rfl, ho, hB⟩ := hq
    exact ⟨ad, cap, rfl, Lib.hid ⟨ad, cap, rfl, Own.mono ho HB0.out.size, HB0.out.trans (hB.mono HB0.out.size)⟩⟩)
  generalize sev (un p.no) = out at *
  have hk1 : (p.kind == 1) = false := by simpa using h1
  have hk2 : (p.kind == 2) = false := by simpa using h2
  clear h1 h2
  obtain ⟨kind, ⟨t, f, s⟩, hops, no, to, index, total, stamp, value, ad, cap, body⟩ := p
  unfold Pk.cells at hwb
  unfold pval Pk.cells
  simp only at CB hk1 hk2 hwb HC ⊢
  obtain ⟨n, hnn⟩ : ∃ n, body.length = n := ⟨_, rfl⟩
  simp only [hnn] at hwb HC ⊢
  clear hnn
  go_enter Tryz.func26, Tryz.ntmps26
  go_upto_region 1 with fail
  rw [← hwb.out]
  obtain ⟨c0, c1, c2, c3, c4, c5, c6, c7, c8, c9, c10, c11⟩ := HC.out wb (Below.refl _ _)
  go_wp2_with fail
  refine (CB.out).mono ?_; rintro e w' ⟨ad2, cap2, rfl, HP⟩
  go_wp2_with fail
  go_ret
  exact HP.out
set_option maxRecDepth 100000 in
set_option maxHeartbeats 2000000 in
theorem pbytes_2 (p : Pk) (w : World) (hk : p.kind = 2) :
    Calls Tryz.prog 26 #[pval p] w (Gives (pulB p) w) := by
  obtain ⟨wb, hwb⟩ : ∃ wb, Hid (wb = w.alloc (.cells p.cells 27)) := ⟨_, Lib.hid rfl⟩
  have HB0 := Lib.hid (one_box w wb _ _ hwb.out).1
  have HC := Lib.hid (pk_cells w wb p hwb.out)
  rw [show pulB p = fixB (un p.stamp) 8 ++ fixB (un p.value) 8 from by unfold pulB; rw [if_neg (by omega), if_pos hk]]
  have CF : ∀ (x : Int) W, Below wb.heap.size wb W → Calls Tryz.prog 60 #[.int .u64 (IntKind.u64.wrap x), .int .i64 8] W fun e w' => ∃ ad cap, e = .returned (.slice ad 8 cap) ∧ Hid (OwnB w' wb.heap.size (.slice ad 8 cap) (fixB (un x) 8)) ∧ Below wb.heap.size wb w' ∧ Hid (Below W.heap.size W w') := fun x W hW => by
    rw [← un_val]
    refine (rFixed_any (un x) 8 (un_lt _) (by omega) W).mono fun e w' hq => ?_
    obtain ⟨ad, cap, rfl, ho, hB⟩ := hq
    rw [fixB_len] at ho ⊢
    exact ⟨ad, cap, rfl, Lib.hid (Own.mono ho hW.size), hW.trans (hB.mono hW.size), Lib.hid hB⟩
  have CA := Lib.hid (CF p.stamp)
  have CB := Lib.hid (CF p.value)
  have L1 := Lib.hid (fixB_len 8 (un p.stamp))
  have L2 := Lib.hid (fixB_len 8 (un p.value))
  clear CF
  generalize fixB (un p.stamp) 8 = l1 at *
  generalize fixB (un p.value) 8 = l2 at *
  have HS := HB0.out.size
  have HF : Hid (∀ ad cap l W, Hid (l = l1 ++ l2) → OwnB W wb.heap.size (.slice ad l.length cap) l → Below wb.heap.size wb W → Gives (l1 ++ l2) w (.returned (.slice ad l.length cap)) W) := Lib.hid (fun ad cap l W e h hB => by
    have e2 := e.out
    subst e2
    exact ⟨ad, cap, rfl, Own.mono h HS, HB0.out.trans (hB.mono HS)⟩)
  clear HS
  generalize Gives (l1 ++ l2) w = Fin at *
  obtain ⟨kind, ⟨t, f, s⟩, hops, no, to, index, total, stamp, value, ad, cap, body⟩ := p
  simp only at hk
  subst hk
  unfold Pk.cells at hwb
  unfold pval Pk.cells
  simp only at CA CB hwb HC ⊢
  obtain ⟨n, hnn⟩ : ∃ n, body.length = n := ⟨_, rfl⟩
  simp only [hnn] at hwb HC ⊢
  clear hnn
  go_enter Tryz.func26, Tryz.ntmps26
  go_upto_region 1 with fail
  rw [← hwb.out]
  obtain ⟨c0, c1, c2, c3, c4, c5, c6, c7, c8, c9, c10, c11⟩ := HC.out wb (Below.refl _ _)
  have hB0 := Below.refl wb.heap.size wb
  go_upto_region 4 with fail
  have HH2 : Hid (∀ W, Below wb.heap.size wb W → W.cell? ⟨w.heap.size, 9, none⟩ = some (.int .i64 stamp) ∧ W.cell? ⟨w.heap.size, 10, none⟩ = some (.int .i64 value)) := Lib.hid (fun W hW => ⟨(HC.out W hW).2.2.2.2.2.2.2.2.2.1, (HC.out W hW).2.2.2.2.2.2.2.2.2.2.1⟩)
  refine wp_region_noPanic ?_
  refine wp_region_held_drew (S := (fun W => W.cell? ⟨w.heap.size, 9, none⟩ = some (.int .i64 stamp) ∧ W.cell? ⟨w.heap.size, 10, none⟩ = some (.int .i64 value))) (by kernel_rfl) ?_ (fun hHeld => ?_)
  · exact HH2.out _ hB0.drew
  refine wpAnyH_take (i := 0) (v := ?_) rfl (by kernel_rfl) (by kernel_rfl) (by kernel_rfl) (fun _ _ _ h => h) (Or.inl ⟨by rfl, ?_⟩) (by assumption) ?_
  rotate_left 1
  focus (intro w hSw; clear hSw; go_simp; try with_reducible rfl)
  refine wpAnyH_take (i := 1) (v := ?_) rfl (by kernel_rfl) (by kernel_rfl) (by kernel_rfl) (fun _ _ _ h => h) (Or.inl ⟨by rfl, ?_⟩) (by assumption) ?_
  rotate_left 1
  focus (intro w hSw; obtain ⟨hc9, hc10⟩ := hSw; go_simp; try with_reducible rfl)
  refine wpAnyH_take (i := 2) (v := ?_) rfl (by kernel_rfl) (by kernel_rfl) (by kernel_rfl) (fun _ _ _ h => h) (Or.inl ⟨by rfl, ?_⟩) (by assumption) ?_
  rotate_left 1
  focus (intro w hSw; clear hSw; go_simp; try with_reducible rfl)
  refine wpAnyH_take (i := 4) (v := ?_) rfl (by kernel_rfl) (by kernel_rfl) (by kernel_rfl) (fun _ _ _ h => h) (Or.inl ⟨by rfl, ?_⟩) (by assumption) ?_
  rotate_left 1
  focus (intro w hSw; clear hSw; go_simp; try with_reducible rfl)
  refine wpAnyH_take (i := 5) (v := ?_) rfl (by kernel_rfl) (by kernel_rfl) (by kernel_rfl) (fun _ _ _ h => h) (Or.inl ⟨by rfl, ?_⟩) (by assumption) ?_
  rotate_left 1
  focus (intro w hSw; obtain ⟨hc9, hc10⟩ := hSw; go_simp; try with_reducible rfl)
  refine wpAnyH_take (i := 6) (v := ?_) rfl (by kernel_rfl) (by kernel_rfl) (by kernel_rfl) (fun _ _ _ h => h) (Or.inl ⟨by rfl, ?_⟩) (by assumption) ?_
  rotate_left 1
  focus (intro w hSw; clear hSw; go_simp; try with_reducible rfl)
  refine wpAnyH_ready (rs := [3]) (by kernel_rfl) (by simp) ?_
  refine AllReadyH.cons rfl (fun K hK => ?_) ?_
  · go_simp
    go_wp2_with (go_at_call 60; (with_reducible refine (CA.out _ ?_).mono ?_); (focus (first | assumption | exact Below.drew (by assumption))); rintro e w5 ⟨ad5, cap5, rfl, HO5, hB5, HB5⟩)
    refine hK.out _ _ ?_ (fun hHeld => ?_)
    · exact HH2.out _ (by first | assumption)
    clear hK K
    refine wpAnyH_ready (rs := [7]) (by kernel_rfl) (by simp) ?_
    refine AllReadyH.cons rfl (fun K hK => ?_) ?_
    · go_simp
      go_wp2_with (go_at_call 60; (with_reducible refine (CB.out _ ?_).mono ?_); (focus (first | assumption | exact Below.drew (by assumption))); rintro e w6 ⟨ad6, cap6, rfl, HO6, hB6, HB6⟩)
      refine hK.out _ _ ?_ (fun hHeld => ?_)
      · exact HH2.out _ (by first | assumption)
      clear hK K
      refine wpAnyH_ready (rs := [8]) (by kernel_rfl) (by simp) ?_
      refine AllReadyH.cons rfl (fun K hK => ?_) ?_
      · have HO5b := Lib.hid (HO5.out.below HB6.out)
        have HR6 := Lib.hid HO6.out.rd.1
        have HN6 := HO6.out.pos.2.2.1
        refine Dat.step_app2 rfl _ _ rfl wb.heap.size _ l1 ?_ HO5b.out ad6 8 cap6 l2 ?_ L2.out.symm HR6.out HN6 (by rw [L1.out]; omega) hB6.size ?_
        · simp [Act.eval, Act.put]
          try rfl
        · simp [Act.eval, Act.put]
        intro ad7 cap7 w7 ho7 hb7
        have HO7 := Lib.hid ho7
        have hB7 := hB6.trans hb7
        clear ho7 hb7
        refine hK.out _ _ ?_ (fun hHeld => ?_)
        · exact HH2.out _ (by first | assumption)
        clear hK K
        refine wpAnyH_ready (rs := [9]) (by kernel_rfl) (by simp) ?_
        refine AllReadyH.cons rfl (fun K hK => ?_) ?_
        · go_simp
          refine hK.out _ _ ?_ (fun hHeld => ?_)
          · exact HH2.out _ (by first | assumption)
          clear hK K
          refine wpAnyH_done (by kernel_rfl) ?_ _
          refine NoPanic.normal ?_
          have hF := Lib.hid (HF.out _ _ _ _ (Lib.hid rfl) HO7.out hB7)
          clear hHeld
          rw [List.length_append] at hF
          go_wp2_with fail
          exact hF.out
        exact AllReadyH.nil
      exact AllReadyH.nil
    exact AllReadyH.nil
  exact AllReadyH.nil
theorem pbytes_any (p : Pk) (w : World) :
    Calls Tryz.prog 26 #[pval p] w (Gives (pulB p) w) := by
  by_cases h1 : p.kind = 1
  · exact pbytes_1 p w h1
  · by_cases h2 : p.kind = 2
    · exact pbytes_2 p w h2
    · exact pbytes_3 p w h1 h2
end Go.Proofs.YtanfnhgaooafeaaGreatDoor.Pul
