/- A packet of any key and any body is as the document says, and shares nothing with the body. -/
import Derived.Test.YtjifdbhgoakjpaaRows
import Derived.WalkKit
import Derived.ProofKit
import Derived.OpenShut
import Derived.ShutString
import Derived.ChangeOld
import Derived.Below
import Derived.Test.YtjifdbhgoakjpaaDatK
import Derived.Test.YtjifdbhgoakjpaaDatD
import Derived.Test.YtjifdbhgoakjpaaDatC
import Derived.Test.YtjifdbhgoakjpaaDatG
import Derived.Deep.RegionHeldLaw
import Derived.Deep.Cut
import Derived.Test.YtjifdbhgoakjpaaDatN
namespace Go.Proofs.Ytjifdbhgoakjpaa.lawDataNew
open Go.ChangeShapes Go.WideShapes Go.ChangeAt Go.RowKit
open Go.ChangeMaps (open_string shut_string)
set_option linter.unusedVariables false

theorem own : ownKnob Try.prog.godebug = none := by kernel_rfl
theorem laidOut : laidOutB Try.prog = true := by kernel_rfl

/-- What the walk is told of a slice of integers that came in. -/
def IsRow (k : IntKind) (w : World) (a : Option Addr) (len cap : Nat) (zs : List Int) : Prop :=
  (a = none ∧ len = 0 ∧ cap = 0 ∧ zs = []) ∨
  ∃ x, a = some x ∧ len ≤ cap ∧ cap ≤ maxLen ∧ zs.length = cap ∧ (∀ i, i < zs.length → w.cell? (x.add i) = some (.int k (zs.getD i 0))) ∧ ∀ n ∈ zs, (Lit.int k n).wf = true

/-! The walk: the Go text returns true and writes nothing that was there. -/
set_option linter.unusedSimpArgs false in
set_option maxRecDepth 100000 in
set_option maxHeartbeats 4000000 in
theorem walk (a0 : Key.Ky) (a1 : Option Addr) (len1 cap1 : Nat) (z1 : List Int) (w : World) (w0 : Key.ok a0) (w1 : IsRow .u8 w a1 len1 cap1 z1) :
    Calls Try.prog 3 #[Key.kval a0, .slice a1 len1 cap1] w fun e w' => e = .returned (.bool true) ∧ Below w.heap.size w w' := by
  obtain ⟨xa, HX0, HXL0, hlc0, hcm0, HXN0, hxs0⟩ := Byt.rd_of_row w1
  clear w1 hxs0
  have hl0 := HXL0.out
  obtain ⟨wb, hwb⟩ : ∃ wb, Hid (wb = w.alloc (.cells #[.int .i64 a0.1, .int .i64 a0.2.1, .int .u32 a0.2.2] 24)) := ⟨_, Lib.hid rfl⟩
  have HB0 := Lib.hid (Hed.one_box w wb _ _ hwb.out).1
  have HBx := Lib.hid (Hed.one_box w wb _ _ hwb.out).2
  have HSB : Hid (wb.heap.size = w.heap.size + 1) := Lib.hid (by rw [hwb.out]; simp)
  have hBa : Below wb.heap.size wb (wb.alloc (.cells #[] 5)) := (Below.refl _ _).alloc (Nat.le_refl _) _
  have HO := Lib.hid (Buf.own_zero wb)
  have HRD0 := Lib.hid ((HX0.out.below (HB0.out.trans (hBa.mono HB0.out.size))).take 1100)
  have HBz : Hid (wb.heap.size ≤ (wb.alloc (.cells #[] 5)).heap.size) := Lib.hid hBa.size
  have HE : Hid ((min (len1 : Int) 1100).toNat = (xa.take 1100).length) := Lib.hid (by rw [List.length_take]; omega)
  have HYs : Hid ((xa.take 1100).length ≤ 1100) := Lib.hid (by rw [List.length_take]; omega)
  have HBa := Lib.hid hBa
  have hin : (len1 : Int) ≤ (cap1 : Int) ∧ (cap1 : Int) ≤ 9223372036854775807 := by omega
  obtain ⟨hin1, hin2⟩ := hin
  clear HX0 HXL0 hl0 w0 hBa
  generalize xa.take 1100 = xs at *
  obtain ⟨t, f, s⟩ := a0
  unfold Key.kval
  simp only at hwb HBx ⊢
  go_enter Try.func3, Try.ntmps3
  go_upto_region 1 with fail
  rw [← hwb.out]
  go_upto_region 2 with (at_builtin; refine Hed.app_step rfl _ _ rfl wb.heap.size (some ⟨wb.heap.size, 0, none⟩) 0 0 [] rfl HO.out a1 _ cap1 xs rfl HE.out HRD0.out HXN0.out (by have := HYs.out; simp; omega) HBz.out ?_; intro l1 ad2 cap2 w1 hl1 ho1 hb1 _)
  have hl1e : l1 = xs := by rw [hl1.out, List.nil_append]
  subst hl1e
  generalize l1 = xs at *
  have HB1 := Lib.hid (HB0.out.trans ((HBa.out.trans (hb1.mono (Nat.le_refl _))).mono HB0.out.size))
  have HBx1 := Lib.hid (HBx.out.below (HBa.out.trans (hb1.mono (Nat.le_refl _))))
  have HO1 : Hid (Byt.OwnB w1 (w.heap.size + 1) (.slice ad2 xs.length cap2) xs) := Lib.hid (HSB.out ▸ ho1)
  have HRD : Hid (∀ W, Below w1.heap.size w1 W → Byt.RdB W ad2 xs) := Lib.hid (fun W hW => ho1.rd.1.below hW)
  have HTr : Hid (∀ W V, Below w1.heap.size w1 W → Below W.heap.size W V → Below w1.heap.size w1 V) := Lib.hid (fun W V h1 h2 => h1.trans (h2.mono h1.size))
  have HKC : Hid (∀ W, Below w1.heap.size w1 W → _ ∧ _ ∧ _) := Lib.hid (fun W hW => ⟨(HBx1.out.below hW).cell 0, (HBx1.out.below hW).cell 1, (HBx1.out.below hW).cell 2⟩)
  simp only [List.getElem?_toArray, List.getElem?_cons_succ, List.getElem?_cons_zero] at HKC
  have CN : Hid (∀ W adx capx, Below w1.heap.size w1 W → Calls Try.prog 8 #[Key.kval (t, f, s), .slice adx xs.length capx] W fun e w' => e = .returned (Hed.pval (Dat.mk4 (t, f, s) 1 adx capx xs)) ∧ Hid (Below W.heap.size W w') ∧ Below w1.heap.size w1 w') := Lib.hid (fun W adx capx hW => (Dat.rnew_any (t, f, s) adx capx xs W).mono fun e w' h => ⟨h.1, Lib.hid h.2, hW.trans (h.2.mono hW.size)⟩)
  have hpos := ho1.pos
  have CP : Hid (∀ W, Below w1.heap.size w1 W → Calls Try.prog 9 #[Key.kval (t, f, s), .slice ad2 xs.length cap2] W fun e w' => ∃ adp capp, e = .returned (Hed.pval (Dat.mk4 (t, f, s) 1 adp capp xs)) ∧ Hid (Byt.OwnB w' (W.heap.size + 2) (.slice adp xs.length capp) xs) ∧ Hid (Below W.heap.size W w')) := Lib.hid (fun W hW => (Dat.dnew_any (t, f, s) ad2 cap2 xs W hpos.1 (by have := HYs.out; omega) (by have := hpos.2.1; unfold maxLen at this; omega) (HRD.out W hW)).mono fun e w' h => by
    obtain ⟨adp, capp, rfl, h1, h2⟩ := h
    exact ⟨adp, capp, rfl, Lib.hid h1, Lib.hid h2⟩)
  unfold Key.kval Hed.pval Hed.Pk.cells Dat.mk4 at CN CP
  obtain ⟨n, hn⟩ : ∃ n, xs.length = n := ⟨_, rfl⟩
  simp only [hn] at CN CP HO1 ⊢
  have HM := Lib.hid hn
  clear hn ho1 hb1 hl1 hpos HBa HBx HB0 HBz HO HE HRD0 HXN0 HSB hwb hin1 hin2 hlc0 hcm0
  go_cut [5] from 8 (fun v W => ∃ bw adw capw, v = .pointer (some ⟨bw, 0, none⟩) ∧ Hid (w1.heap.size ≤ bw ∧ Buf.Blk W bw 27 #[.int .i64 4, .int .i64 t, .int .i64 f, .int .u32 s, .int .i64 1, .int .i64 0, .int .i64 0, .int .i64 0, .int .i64 0, .int .i64 0, .int .i64 0, .slice adw n capw] ∧ Byt.RdB W adw xs ∧ (xs = [] ∨ ∀ b o, adw = some ⟨b, o, none⟩ → w1.heap.size ≤ b) ∧ Below w1.heap.size w1 W))
  case first =>
    refine wp_region_noPanic ?_
    refine wp_region_held_drew (S := (fun W => W.cell? ⟨w.heap.size, 0, none⟩ = some (.int .i64 t) ∧ W.cell? ⟨w.heap.size, 1, none⟩ = some (.int .i64 f) ∧ W.cell? ⟨w.heap.size, 2, none⟩ = some (.int .u32 s))) (by kernel_rfl) ?_ (fun hHeld => ?_)
    · exact HKC.out _ (Below.refl _ _).drew
    refine wpAnyH_take (i := 0) (v := ?_) rfl (by kernel_rfl) (by kernel_rfl) (by kernel_rfl) (fun _ _ _ h => h) (Or.inl ⟨by rfl, ?_⟩) (by assumption) ?_
    rotate_left 1
    focus (intro w hSw; (try dsimp only at hSw); go_simp; try with_reducible rfl)
    refine wpAnyH_take (i := 2) (v := ?_) rfl (by kernel_rfl) (by kernel_rfl) (by kernel_rfl) (fun _ _ _ h => h) (Or.inl ⟨by rfl, ?_⟩) (by assumption) ?_
    rotate_left 1
    focus (intro w hSw; clear hSw; go_simp; try with_reducible rfl)
    refine wpAnyH_ready (rs := [1, 5]) (by kernel_rfl) (by simp) ?_
    refine AllReadyH.cons rfl (fun K hK => ?_) ?_
    · go_simp
      refine hK.out _ _ ?_ (fun hHeld => ?_)
      · refine HKC.out _ ?_
        repeat' (first | assumption | exact Below.refl _ _ | exact Nat.le_refl _ | (simp only [World.size_alloc, World.size_drew]; omega) | exact Below.size (by assumption) | refine Below.drew ?_ | refine Below.alloc ?_ ?_ _ | refine Below.setCell ?_ ?_ _ | omega)
      clear hK K
      refine wpAnyH_ready (rs := [3, 5]) (by kernel_rfl) (by simp) ?_
      refine AllReadyH.cons rfl (fun K hK => ?_) ?_
      · refine Dat.step_app1 rfl _ _ rfl (w1.heap.size) ?_ ad2 n cap2 xs ?_ HM.out.symm (HRD.out _ ?_) ?_ (by have := HM.out; have := HYs.out; omega) ?_
        · simp [Act.eval, Act.put]
        · simp [Act.eval, Act.put]
        · (repeat' (first | assumption | exact Below.refl _ _ | exact Nat.le_refl _ | (simp only [World.size_alloc, World.size_drew]; omega) | exact Below.size (by assumption) | refine Below.drew ?_ | refine Below.alloc ?_ ?_ _ | refine Below.setCell ?_ ?_ _ | omega))
        · simp only [World.size_alloc, World.size_drew]; omega
        intro adw capw w4 hrs hB4 hown4
        have hT4 : Below w1.heap.size w1 w4 := HTr.out _ _ (by (repeat' (first | assumption | exact Below.refl _ _ | exact Nat.le_refl _ | (simp only [World.size_alloc, World.size_drew]; omega) | exact Below.size (by assumption) | refine Below.drew ?_ | refine Below.alloc ?_ ?_ _ | refine Below.setCell ?_ ?_ _ | omega))) hB4
        refine hK.out _ _ ?_ (fun hHeld => ?_)
        · refine HKC.out _ ?_
          repeat' (first | assumption | exact Below.refl _ _ | exact Nat.le_refl _ | (simp only [World.size_alloc, World.size_drew]; omega) | exact Below.size (by assumption) | refine Below.drew ?_ | refine Below.alloc ?_ ?_ _ | refine Below.setCell ?_ ?_ _ | omega)
        clear hK K
        refine wpAnyH_ready (rs := [4, 5]) (by kernel_rfl) (by simp) ?_
        refine AllReadyH.cons rfl (fun K hK => ?_) ?_
        · go_simp
          go_wp2_with (go_at_call 8; (with_reducible refine (CN.out _ _ _ ?_).mono ?_); (first | assumption | exact hT4.alloc hT4.size _ | exact hT4.drew | exact (hT4.alloc hT4.size _).drew); rintro e w5 ⟨rfl, hK5, hB5⟩)
          refine hK.out _ _ ?_ (fun hHeld => ?_)
          · refine HKC.out _ ?_
            repeat' (first | assumption | exact Below.refl _ _ | exact Nat.le_refl _ | (simp only [World.size_alloc, World.size_drew]; omega) | exact Below.size (by assumption) | refine Below.drew ?_ | refine Below.alloc ?_ ?_ _ | refine Below.setCell ?_ ?_ _ | omega)
          clear hK K
          refine wpAnyH_ready (rs := [5]) (by kernel_rfl) (by simp) ?_
          refine AllReadyH.cons rfl (fun K hK => ?_) ?_
          · go_simp
            refine hK.out _ _ ?_ (fun hHeld => ?_)
            · refine HKC.out _ ?_
              repeat' (first | assumption | exact Below.refl _ _ | exact Nat.le_refl _ | (simp only [World.size_alloc, World.size_drew]; omega) | exact Below.size (by assumption) | refine Below.drew ?_ | refine Below.alloc ?_ ?_ _ | refine Below.setCell ?_ ?_ _ | omega)
            clear hK K
            refine wpAnyH_ready (rs := [6]) (by kernel_rfl) (by simp) ?_
            refine AllReadyH.cons rfl (fun K hK => ?_) ?_
            · go_simp
              refine hK.out _ _ ?_ (fun hHeld => ?_)
              · refine HKC.out _ ?_
                repeat' (first | assumption | exact Below.refl _ _ | exact Nat.le_refl _ | (simp only [World.size_alloc, World.size_drew]; omega) | exact Below.size (by assumption) | refine Below.drew ?_ | refine Below.alloc ?_ ?_ _ | refine Below.setCell ?_ ?_ _ | omega)
              clear hK K
              refine wpAnyH_done (by kernel_rfl) ?_ _
              refine NoPanic.normal ?_
              have HFar := Lib.hid (Dat.far_of hown4 hT4 (by first | exact Below.size (by assumption) | (simp only [World.size_drew, World.size_alloc]; omega)))
              have HQ := Lib.hid (And.intro (Buf.Blk.new w5 27 #[.int .i64 4, .int .i64 t, .int .i64 f, .int .u32 s, .int .i64 1, .int .i64 0, .int .i64 0, .int .i64 0, .int .i64 0, .int .i64 0, .int .i64 0, .slice adw n capw]) (And.intro ((hrs.rd.below hK5.out).below ((Below.refl _ _).alloc (Nat.le_refl _) (.cells #[.int .i64 4, .int .i64 t, .int .i64 f, .int .u32 s, .int .i64 1, .int .i64 0, .int .i64 0, .int .i64 0, .int .i64 0, .int .i64 0, .int .i64 0, .slice adw n capw] 27))) (hB5.alloc hB5.size (.cells #[.int .i64 4, .int .i64 t, .int .i64 f, .int .u32 s, .int .i64 1, .int .i64 0, .int .i64 0, .int .i64 0, .int .i64 0, .int .i64 0, .int .i64 0, .slice adw n capw] 27))))
              have HLe := Lib.hid (show w1.heap.size ≤ w5.heap.size from hB5.size)
              clear hHeld hrs
              go_wp2_with fail
              go_meet
              case rel => exact ⟨w5.heap.size, adw, capw, rfl, Lib.hid ⟨HLe.out, HQ.out.1, HQ.out.2.1, HFar.out, HQ.out.2.2⟩⟩
            exact AllReadyH.nil
          exact AllReadyH.nil
        refine AllReadyH.cons rfl (fun K hK => ?_) ?_
        · go_simp
          refine hK.out _ _ ?_ (fun hHeld => ?_)
          · refine HKC.out _ ?_
            repeat' (first | assumption | exact Below.refl _ _ | exact Nat.le_refl _ | (simp only [World.size_alloc, World.size_drew]; omega) | exact Below.size (by assumption) | refine Below.drew ?_ | refine Below.alloc ?_ ?_ _ | refine Below.setCell ?_ ?_ _ | omega)
          clear hK K
          refine wpAnyH_ready (rs := [4]) (by kernel_rfl) (by simp) ?_
          refine AllReadyH.cons rfl (fun K hK => ?_) ?_
          · go_simp
            go_wp2_with (go_at_call 8; (with_reducible refine (CN.out _ _ _ ?_).mono ?_); (first | assumption | exact hT4.alloc hT4.size _ | exact hT4.drew | exact (hT4.alloc hT4.size _).drew); rintro e w5 ⟨rfl, hK5, hB5⟩)
            have hx5 : Buf.Blk w5 (w4.heap.size) 27 #[.int .i64 0, .int .i64 0, .int .i64 0, .int .u32 0, .int .i64 0, .int .i64 0, .int .i64 0, .int .i64 0, .int .i64 0, .int .i64 0, .int .i64 0, .slice none 0 0] := (Buf.Blk.new w4 _ _).below hK5.out
            obtain ⟨d0, d1, d2, d3, d4, d5, d6, d7, d8, d9, d10, d11⟩ := Hed.blk_cells (p := Hed.zero) hx5
            obtain ⟨f0, f1, f2, f3, f4, f5, f6, f7, f8, f9, f10, f11⟩ := Dat.blk_free hx5
            refine hK.out _ _ ?_ (fun hHeld => ?_)
            · refine HKC.out _ ?_
              repeat' (first | assumption | exact Below.refl _ _ | exact Nat.le_refl _ | (simp only [World.size_alloc, World.size_drew]; omega) | exact Below.size (by assumption) | refine Below.drew ?_ | refine Below.alloc ?_ ?_ _ | refine Below.setCell ?_ ?_ _ | omega)
            clear hK K
            refine wpAnyH_ready (rs := [6]) (by kernel_rfl) (by simp) ?_
            refine AllReadyH.cons rfl (fun K hK => ?_) ?_
            · go_simp
              refine hK.out _ _ ?_ (fun hHeld => ?_)
              · exact HKC.out _ (Dat.below12 hB5 hT4.size _ _ _ _ _ _ _ _ _ _ _ _)
              clear hK K
              refine wpAnyH_done (by kernel_rfl) ?_ _
              refine NoPanic.normal ?_
              have HFar := Lib.hid (Dat.far_of hown4 hT4 (by first | exact Below.size (by assumption) | (simp only [World.size_drew, World.size_alloc]; omega)))
              obtain ⟨hb, ha⟩ := Dat.row12 Hed.zero hx5 (.int .i64 4) (.int .i64 t) (.int .i64 f) (.int .u32 s) (.int .i64 1) (.int .i64 0) (.int .i64 0) (.int .i64 0) (.int .i64 0) (.int .i64 0) (.int .i64 0) (.slice adw n capw)
              have HQ := Lib.hid (And.intro hb (And.intro (Hed.rd_other Hed.zero ((hrs.rd.below ((Below.refl _ _).alloc (Nat.le_refl _) _)).below hK5.out) hx5 ha.block) (hB5.trans (ha.below hT4.size))))
              clear hb ha d0 d1 d2 d3 d4 d5 d6 d7 d8 d9 d10 d11 f0 f1 f2 f3 f4 f5 f6 f7 f8 f9 f10 f11
              have HLe := Lib.hid (show w1.heap.size ≤ w4.heap.size from hT4.size)
              clear hHeld hrs
              go_wp2_with fail
              go_meet
              case rel => exact ⟨w4.heap.size, adw, capw, rfl, Lib.hid ⟨HLe.out, HQ.out.1, HQ.out.2.1, HFar.out, HQ.out.2.2⟩⟩
            exact AllReadyH.nil
          exact AllReadyH.nil
        exact AllReadyH.nil
      refine AllReadyH.cons rfl (fun K hK => ?_) ?_
      · go_simp
        refine hK.out _ _ ?_ (fun hHeld => ?_)
        · refine HKC.out _ ?_
          repeat' (first | assumption | exact Below.refl _ _ | exact Nat.le_refl _ | (simp only [World.size_alloc, World.size_drew]; omega) | exact Below.size (by assumption) | refine Below.drew ?_ | refine Below.alloc ?_ ?_ _ | refine Below.setCell ?_ ?_ _ | omega)
        clear hK K
        refine wpAnyH_ready (rs := [3]) (by kernel_rfl) (by simp) ?_
        refine AllReadyH.cons rfl (fun K hK => ?_) ?_
        · refine Dat.step_app1 rfl _ _ rfl (w1.heap.size) ?_ ad2 n cap2 xs ?_ HM.out.symm (HRD.out _ ?_) ?_ (by have := HM.out; have := HYs.out; omega) ?_
          · simp [Act.eval, Act.put]
          · simp [Act.eval, Act.put]
          · (repeat' (first | assumption | exact Below.refl _ _ | exact Nat.le_refl _ | (simp only [World.size_alloc, World.size_drew]; omega) | exact Below.size (by assumption) | refine Below.drew ?_ | refine Below.alloc ?_ ?_ _ | refine Below.setCell ?_ ?_ _ | omega))
          · simp only [World.size_alloc, World.size_drew]; omega
          intro adw capw w4 hrs hB4 hown4
          have hT4 : Below w1.heap.size w1 w4 := HTr.out _ _ (by (repeat' (first | assumption | exact Below.refl _ _ | exact Nat.le_refl _ | (simp only [World.size_alloc, World.size_drew]; omega) | exact Below.size (by assumption) | refine Below.drew ?_ | refine Below.alloc ?_ ?_ _ | refine Below.setCell ?_ ?_ _ | omega))) hB4
          have hx4 : Buf.Blk w4 (w1.heap.size + 1) 27 #[.int .i64 0, .int .i64 0, .int .i64 0, .int .u32 0, .int .i64 0, .int .i64 0, .int .i64 0, .int .i64 0, .int .i64 0, .int .i64 0, .int .i64 0, .slice none 0 0] := (hB4.block _ (by simp only [World.size_drew, World.size_alloc]; omega)).trans (Dat.boxes_tt w1 _ #[] #[.int .i64 0, .int .i64 0, .int .i64 0, .int .u32 0, .int .i64 0, .int .i64 0, .int .i64 0, .int .i64 0, .int .i64 0, .int .i64 0, .int .i64 0, .slice none 0 0] 5 27 rfl).2.2
          refine hK.out _ _ ?_ (fun hHeld => ?_)
          · refine HKC.out _ ?_
            repeat' (first | assumption | exact Below.refl _ _ | exact Nat.le_refl _ | (simp only [World.size_alloc, World.size_drew]; omega) | exact Below.size (by assumption) | refine Below.drew ?_ | refine Below.alloc ?_ ?_ _ | refine Below.setCell ?_ ?_ _ | omega)
          clear hK K
          refine wpAnyH_ready (rs := [4]) (by kernel_rfl) (by simp) ?_
          refine AllReadyH.cons rfl (fun K hK => ?_) ?_
          · go_simp
            go_wp2_with (go_at_call 8; (with_reducible refine (CN.out _ _ _ ?_).mono ?_); (first | assumption | exact hT4.alloc hT4.size _ | exact hT4.drew | exact (hT4.alloc hT4.size _).drew); rintro e w5 ⟨rfl, hK5, hB5⟩)
            have hx5 : Buf.Blk w5 (w1.heap.size + 1) 27 #[.int .i64 0, .int .i64 0, .int .i64 0, .int .u32 0, .int .i64 0, .int .i64 0, .int .i64 0, .int .i64 0, .int .i64 0, .int .i64 0, .int .i64 0, .slice none 0 0] := hx4.below hK5.out
            obtain ⟨d0, d1, d2, d3, d4, d5, d6, d7, d8, d9, d10, d11⟩ := Hed.blk_cells (p := Hed.zero) hx5
            obtain ⟨f0, f1, f2, f3, f4, f5, f6, f7, f8, f9, f10, f11⟩ := Dat.blk_free hx5
            refine hK.out _ _ ?_ (fun hHeld => ?_)
            · refine HKC.out _ ?_
              repeat' (first | assumption | exact Below.refl _ _ | exact Nat.le_refl _ | (simp only [World.size_alloc, World.size_drew]; omega) | exact Below.size (by assumption) | refine Below.drew ?_ | refine Below.alloc ?_ ?_ _ | refine Below.setCell ?_ ?_ _ | omega)
            clear hK K
            refine wpAnyH_ready (rs := [6]) (by kernel_rfl) (by simp) ?_
            refine AllReadyH.cons rfl (fun K hK => ?_) ?_
            · go_simp
              refine hK.out _ _ ?_ (fun hHeld => ?_)
              · exact HKC.out _ (Dat.below12 hB5 (Nat.le_succ _) _ _ _ _ _ _ _ _ _ _ _ _)
              clear hK K
              refine wpAnyH_done (by kernel_rfl) ?_ _
              refine NoPanic.normal ?_
              have HFar := Lib.hid (Dat.far_of hown4 hT4 (by first | exact Below.size (by assumption) | (simp only [World.size_drew, World.size_alloc]; omega)))
              obtain ⟨hb, ha⟩ := Dat.row12 Hed.zero hx5 (.int .i64 4) (.int .i64 t) (.int .i64 f) (.int .u32 s) (.int .i64 1) (.int .i64 0) (.int .i64 0) (.int .i64 0) (.int .i64 0) (.int .i64 0) (.int .i64 0) (.slice adw n capw)
              have HQ := Lib.hid (And.intro hb (And.intro (Hed.rd_other Hed.zero (hrs.rd.below hK5.out) hx5 ha.block) (hB5.trans (ha.below (Nat.le_succ _)))))
              clear hb ha d0 d1 d2 d3 d4 d5 d6 d7 d8 d9 d10 d11 f0 f1 f2 f3 f4 f5 f6 f7 f8 f9 f10 f11
              have HLe := Lib.hid (show w1.heap.size ≤ w1.heap.size + 1 from (Nat.le_succ _))
              clear hHeld hrs
              go_wp2_with fail
              go_meet
              case rel => exact ⟨w1.heap.size + 1, adw, capw, rfl, Lib.hid ⟨HLe.out, HQ.out.1, HQ.out.2.1, HFar.out, HQ.out.2.2⟩⟩
            exact AllReadyH.nil
          exact AllReadyH.nil
        exact AllReadyH.nil
      exact AllReadyH.nil
    refine AllReadyH.cons rfl (fun K hK => ?_) ?_
    · go_simp
      refine hK.out _ _ ?_ (fun hHeld => ?_)
      · refine HKC.out _ ?_
        repeat' (first | assumption | exact Below.refl _ _ | exact Nat.le_refl _ | (simp only [World.size_alloc, World.size_drew]; omega) | exact Below.size (by assumption) | refine Below.drew ?_ | refine Below.alloc ?_ ?_ _ | refine Below.setCell ?_ ?_ _ | omega)
      clear hK K
      refine wpAnyH_ready (rs := [1]) (by kernel_rfl) (by simp) ?_
      refine AllReadyH.cons rfl (fun K hK => ?_) ?_
      · go_simp
        refine hK.out _ _ ?_ (fun hHeld => ?_)
        · refine HKC.out _ ?_
          repeat' (first | assumption | exact Below.refl _ _ | exact Nat.le_refl _ | (simp only [World.size_alloc, World.size_drew]; omega) | exact Below.size (by assumption) | refine Below.drew ?_ | refine Below.alloc ?_ ?_ _ | refine Below.setCell ?_ ?_ _ | omega)
        clear hK K
        refine wpAnyH_ready (rs := [3]) (by kernel_rfl) (by simp) ?_
        refine AllReadyH.cons rfl (fun K hK => ?_) ?_
        · refine Dat.step_app1 rfl _ _ rfl (w1.heap.size + 1) ?_ ad2 n cap2 xs ?_ HM.out.symm (HRD.out _ ?_) ?_ (by have := HM.out; have := HYs.out; omega) ?_
          · simp [Act.eval, Act.put]
          · simp [Act.eval, Act.put]
          · (repeat' (first | assumption | exact Below.refl _ _ | exact Nat.le_refl _ | (simp only [World.size_alloc, World.size_drew]; omega) | exact Below.size (by assumption) | refine Below.drew ?_ | refine Below.alloc ?_ ?_ _ | refine Below.setCell ?_ ?_ _ | omega))
          · simp only [World.size_alloc, World.size_drew]; omega
          intro adw capw w4 hrs hB4 hown4
          have hT4 : Below w1.heap.size w1 w4 := HTr.out _ _ (by (repeat' (first | assumption | exact Below.refl _ _ | exact Nat.le_refl _ | (simp only [World.size_alloc, World.size_drew]; omega) | exact Below.size (by assumption) | refine Below.drew ?_ | refine Below.alloc ?_ ?_ _ | refine Below.setCell ?_ ?_ _ | omega))) hB4
          have hx4 : Buf.Blk w4 (w1.heap.size) 27 #[.int .i64 0, .int .i64 0, .int .i64 0, .int .u32 0, .int .i64 0, .int .i64 0, .int .i64 0, .int .i64 0, .int .i64 0, .int .i64 0, .int .i64 0, .slice none 0 0] := (hB4.block _ (by simp only [World.size_drew, World.size_alloc]; omega)).trans (Dat.boxes_tt w1 _ #[.int .i64 0, .int .i64 0, .int .i64 0, .int .u32 0, .int .i64 0, .int .i64 0, .int .i64 0, .int .i64 0, .int .i64 0, .int .i64 0, .int .i64 0, .slice none 0 0] #[] 27 5 rfl).2.1
          refine hK.out _ _ ?_ (fun hHeld => ?_)
          · refine HKC.out _ ?_
            repeat' (first | assumption | exact Below.refl _ _ | exact Nat.le_refl _ | (simp only [World.size_alloc, World.size_drew]; omega) | exact Below.size (by assumption) | refine Below.drew ?_ | refine Below.alloc ?_ ?_ _ | refine Below.setCell ?_ ?_ _ | omega)
          clear hK K
          refine wpAnyH_ready (rs := [4]) (by kernel_rfl) (by simp) ?_
          refine AllReadyH.cons rfl (fun K hK => ?_) ?_
          · go_simp
            go_wp2_with (go_at_call 8; (with_reducible refine (CN.out _ _ _ ?_).mono ?_); (first | assumption | exact hT4.alloc hT4.size _ | exact hT4.drew | exact (hT4.alloc hT4.size _).drew); rintro e w5 ⟨rfl, hK5, hB5⟩)
            have hx5 : Buf.Blk w5 (w1.heap.size) 27 #[.int .i64 0, .int .i64 0, .int .i64 0, .int .u32 0, .int .i64 0, .int .i64 0, .int .i64 0, .int .i64 0, .int .i64 0, .int .i64 0, .int .i64 0, .slice none 0 0] := hx4.below hK5.out
            obtain ⟨d0, d1, d2, d3, d4, d5, d6, d7, d8, d9, d10, d11⟩ := Hed.blk_cells (p := Hed.zero) hx5
            obtain ⟨f0, f1, f2, f3, f4, f5, f6, f7, f8, f9, f10, f11⟩ := Dat.blk_free hx5
            refine hK.out _ _ ?_ (fun hHeld => ?_)
            · refine HKC.out _ ?_
              repeat' (first | assumption | exact Below.refl _ _ | exact Nat.le_refl _ | (simp only [World.size_alloc, World.size_drew]; omega) | exact Below.size (by assumption) | refine Below.drew ?_ | refine Below.alloc ?_ ?_ _ | refine Below.setCell ?_ ?_ _ | omega)
            clear hK K
            refine wpAnyH_ready (rs := [6]) (by kernel_rfl) (by simp) ?_
            refine AllReadyH.cons rfl (fun K hK => ?_) ?_
            · go_simp
              refine hK.out _ _ ?_ (fun hHeld => ?_)
              · exact HKC.out _ (Dat.below12 hB5 (Nat.le_refl _) _ _ _ _ _ _ _ _ _ _ _ _)
              clear hK K
              refine wpAnyH_done (by kernel_rfl) ?_ _
              refine NoPanic.normal ?_
              have HFar := Lib.hid (Dat.far_of hown4 hT4 (by first | exact Below.size (by assumption) | (simp only [World.size_drew, World.size_alloc]; omega)))
              obtain ⟨hb, ha⟩ := Dat.row12 Hed.zero hx5 (.int .i64 4) (.int .i64 t) (.int .i64 f) (.int .u32 s) (.int .i64 1) (.int .i64 0) (.int .i64 0) (.int .i64 0) (.int .i64 0) (.int .i64 0) (.int .i64 0) (.slice adw n capw)
              have HQ := Lib.hid (And.intro hb (And.intro (Hed.rd_other Hed.zero (hrs.rd.below hK5.out) hx5 ha.block) (hB5.trans (ha.below (Nat.le_refl _)))))
              clear hb ha d0 d1 d2 d3 d4 d5 d6 d7 d8 d9 d10 d11 f0 f1 f2 f3 f4 f5 f6 f7 f8 f9 f10 f11
              have HLe := Lib.hid (show w1.heap.size ≤ w1.heap.size from (Nat.le_refl _))
              clear hHeld hrs
              go_wp2_with fail
              go_meet
              case rel => exact ⟨w1.heap.size, adw, capw, rfl, Lib.hid ⟨HLe.out, HQ.out.1, HQ.out.2.1, HFar.out, HQ.out.2.2⟩⟩
            exact AllReadyH.nil
          exact AllReadyH.nil
        exact AllReadyH.nil
      exact AllReadyH.nil
    exact AllReadyH.nil
  case rest =>
    obtain ⟨bw, adw, capw, rfl, HQ⟩ := hcut
    have HBc := Lib.hid HQ.out.2.2.2.2
    have CP5 := Lib.hid (CP.out wc HBc.out)
    obtain ⟨k0, k1, k2⟩ := HKC.out wc HBc.out
    clear CP CN HRD HTr HKC
    go_wp2_with fail
    refine (CP5.out).mono ?_; rintro e w5 ⟨adp, capp, rfl, HO5, HB5⟩
    clear k0 k1 k2 CP5
    go_upto_region 4 with fail
    obtain ⟨W6, hW6⟩ : ∃ W6, Hid (W6 = w5.alloc (.cells #[.int .i64 4, .int .i64 t, .int .i64 f, .int .u32 s, .int .i64 1, .int .i64 0, .int .i64 0, .int .i64 0, .int .i64 0, .int .i64 0, .int .i64 0, .slice adp n capp] 27)) := ⟨_, Lib.hid rfl⟩
    rw [← hW6.out]
    have hX := Hed.one_box w5 W6 _ _ hW6.out
    obtain ⟨gi, HN, HRw⟩ : ∃ gi, Hid (Dat.NewS w gi bw w5.heap.size (t, f, s) adw adp capw capp xs W6) ∧ Hid (0 < n → ad2 = some ⟨gi, 0, none⟩ ∧ Dat.Row8 W6 gi n) := by
      obtain ⟨q1, q2, q3, q4, q5⟩ := HQ.out
      have z1 := HB1.out.size; have z2 := HBc.out.size; have z3 := HB5.out.size; have z4 := q2.lt
      have b1 := HB1.out.trans (q5.mono HB1.out.size)
      have b2 := b1.trans (HB5.out.mono b1.size)
      have b3 := b2.trans (hX.1.mono b2.size)
      have bx1 : Buf.Blk W6 bw 27 (Dat.mk4 (t, f, s) 1 adw capw xs).cells := by
        unfold Dat.mk4 Hed.Pk.cells
        simp only [HM.out]
        exact (q2.below HB5.out).below hX.1
      have bx2 : Buf.Blk W6 w5.heap.size 27 (Dat.mk4 (t, f, s) 1 adp capp xs).cells := by
        unfold Dat.mk4 Hed.Pk.cells
        simp only [HM.out]
        exact hX.2
      have r1 := (q3.below HB5.out).below hX.1
      have r2 := HO5.out.rd.1.below hX.1
      rcases Nat.eq_zero_or_pos n with h0 | h0
      · have hnil : xs = [] := List.eq_nil_of_length_eq_zero (HM.out.trans h0)
        exact ⟨w.heap.size + bw + w5.heap.size + 1, Lib.hid ⟨b3, bx1, bx2, r1, r2, by omega, by omega, by omega, fun h => absurd hnil h, fun h => absurd hnil h⟩, Lib.hid fun h => by omega⟩
      · obtain ⟨gi, e, h1, h2, h3⟩ := Dat.Row8.of_own HO1.out h0
        refine ⟨gi, Lib.hid ⟨b3, bx1, bx2, r1, r2, by omega, by omega, by omega, fun hx b o e2 => ?_, fun hx b o e2 => ?_⟩, Lib.hid fun _ => ⟨e, ((h3.below q5).below HB5.out).below hX.1⟩⟩
        · rcases q4 with h | h
          · exact absurd h hx
          · have := h b o e2; omega
        · have := (Buf.own_at HO5.out (k := b) (by rw [e2]; rfl)).1
          omega
    have HT : Hid ((Dat.NewT w gi bw w5.heap.size (t, f, s) adw adp capw capp xs ad2 n) W6) := Lib.hid ⟨HN.out, HRw.out⟩
    have HS : Hid (∀ W, (Dat.NewT w gi bw w5.heap.size (t, f, s) adw adp capw capp xs ad2 n) W → (W.cell? ⟨w5.heap.size, 0, none⟩ = some (.int .i64 4) ∧ W.cell? ⟨w5.heap.size, 1, none⟩ = some (.int .i64 t) ∧ W.cell? ⟨w5.heap.size, 2, none⟩ = some (.int .i64 f) ∧ W.cell? ⟨w5.heap.size, 3, none⟩ = some (.int .u32 s) ∧ W.cell? ⟨w5.heap.size, 4, none⟩ = some (.int .i64 1) ∧ W.cell? ⟨w5.heap.size, 5, none⟩ = some (.int .i64 0) ∧ W.cell? ⟨w5.heap.size, 6, none⟩ = some (.int .i64 0) ∧ W.cell? ⟨w5.heap.size, 7, none⟩ = some (.int .i64 0) ∧ W.cell? ⟨w5.heap.size, 8, none⟩ = some (.int .i64 0) ∧ W.cell? ⟨w5.heap.size, 9, none⟩ = some (.int .i64 0) ∧ W.cell? ⟨w5.heap.size, 10, none⟩ = some (.int .i64 0) ∧ W.cell? ⟨w5.heap.size, 11, none⟩ = some (.slice adp n capp)) ∧ (W.cell? ⟨bw, 0, none⟩ = some (.int .i64 4) ∧ W.cell? ⟨bw, 1, none⟩ = some (.int .i64 t) ∧ W.cell? ⟨bw, 2, none⟩ = some (.int .i64 f) ∧ W.cell? ⟨bw, 3, none⟩ = some (.int .u32 s) ∧ W.cell? ⟨bw, 4, none⟩ = some (.int .i64 1) ∧ W.cell? ⟨bw, 5, none⟩ = some (.int .i64 0) ∧ W.cell? ⟨bw, 6, none⟩ = some (.int .i64 0) ∧ W.cell? ⟨bw, 7, none⟩ = some (.int .i64 0) ∧ W.cell? ⟨bw, 8, none⟩ = some (.int .i64 0) ∧ W.cell? ⟨bw, 9, none⟩ = some (.int .i64 0) ∧ W.cell? ⟨bw, 10, none⟩ = some (.int .i64 0) ∧ W.cell? ⟨bw, 11, none⟩ = some (.slice adw n capw))) := Lib.hid (fun W h => by
      have e1 := Hed.blk_cells h.ns.boxp
      have e2 := Hed.blk_cells h.ns.boxw
      unfold Dat.mk4 at e1 e2
      simp only [HM.out] at e1 e2
      exact ⟨e1, e2⟩)
    have CS : Hid (∀ W, (Dat.NewT w gi bw w5.heap.size (t, f, s) adw adp capw capp xs ad2 n) W → Calls Try.prog 10 #[Hed.pval (Dat.mk4 (t, f, s) 1 adp capp xs), Hed.pval (Dat.mk4 (t, f, s) 1 adw capw xs)] W fun e w' => e = .returned (.bool true) ∧ (Dat.NewT w gi bw w5.heap.size (t, f, s) adw adp capw capp xs ad2 n) w') := Lib.hid (fun W h => by
      have := Hed.rsame_any (Dat.mk4 (t, f, s) 1 adp capp xs) (Dat.mk4 (t, f, s) 1 adw capw xs) W h.ns.rdp h.ns.rdw
      rw [Dat.same_mk4] at this
      exact this.mono fun e w' hq => ⟨hq.1, h.kept hq.2⟩)
    have CG1 : Hid (∀ W, (Dat.NewT w gi bw w5.heap.size (t, f, s) adw adp capw capp xs ad2 n) W → Calls Try.prog 11 #[Hed.pval (Dat.mk4 (t, f, s) 1 adp capp xs)] W fun e w' => e = .returned (.bool (Dat.datG (Dat.mk4 (t, f, s) 1 adw capw xs))) ∧ (Dat.NewT w gi bw w5.heap.size (t, f, s) adw adp capw capp xs ad2 n) w') := Lib.hid (fun W h => by
      have := Dat.dgood_any (Dat.mk4 (t, f, s) 1 adp capp xs) W h.ns.rdp
      rw [Dat.datG_mk4 _ _ adp adw capp capw] at this
      exact this.mono fun e w' hq => ⟨hq.1, h.kept hq.2⟩)
    have CG2 : Hid (∀ W, (Dat.NewT w gi bw w5.heap.size (t, f, s) adw adp capw capp xs ad2 n) W → Calls Try.prog 12 #[Hed.pval (Dat.mk4 (t, f, s) 1 adw capw xs)] W fun e w' => e = .returned (.bool (Dat.datG (Dat.mk4 (t, f, s) 1 adw capw xs))) ∧ (Dat.NewT w gi bw w5.heap.size (t, f, s) adw adp capw capp xs ad2 n) w') := Lib.hid (fun W h => (Dat.refgood_any (Dat.mk4 (t, f, s) 1 adw capw xs) W h.ns.rdw).mono fun e w' hq => ⟨hq.1, h.kept hq.2⟩)
    have CW : Hid (∀ W, (Dat.NewT w gi bw w5.heap.size (t, f, s) adw adp capw capp xs ad2 n) W → Calls Try.prog 13 #[] W fun e w' => e = .returned (.bool true) ∧ (Dat.NewT w gi bw w5.heap.size (t, f, s) adw adp capw capp xs ad2 n) w') := Lib.hid (fun W h => (Dat.dworks_any W).mono fun e w' hq => ⟨hq.1, h.kept hq.2⟩)
    generalize Dat.datG (Dat.mk4 (t, f, s) 1 adw capw xs) = gb at *
    have hgb : (gb == gb) = true := by simp
    have hgb2 : (gb != gb) = false := by simp
    unfold Dat.mk4 Hed.pval Hed.Pk.cells at CS CG1 CG2
    simp only [HM.out] at CS CG1 CG2
    have HPut : Hid (∀ W (i x : Nat), x < 256 → (Dat.NewT w gi bw w5.heap.size (t, f, s) adw adp capw capp xs ad2 n) W → (Dat.NewT w gi bw w5.heap.size (t, f, s) adw adp capw capp xs ad2 n) (W.setCell ⟨gi, i, none⟩ (.int .u8 (x : Int)))) := Lib.hid (fun W i x hx h => h.put i x hx)
    have HDr : Hid (∀ W, (Dat.NewT w gi bw w5.heap.size (t, f, s) adw adp capw capp xs ad2 n) W → (Dat.NewT w gi bw w5.heap.size (t, f, s) adw adp capw capp xs ad2 n) W.drew) := Lib.hid (fun W h => h.kept (Below.refl _ _).drew)
    have HBl : Hid (∀ W, (Dat.NewT w gi bw w5.heap.size (t, f, s) adw adp capw capp xs ad2 n) W → Below w.heap.size w W) := Lib.hid (fun W h => h.ns.below)
    have HRw2 : Hid (∀ W, (Dat.NewT w gi bw w5.heap.size (t, f, s) adw adp capw capp xs ad2 n) W → 0 < n → ad2 = some ⟨gi, 0, none⟩ ∧ Dat.Row8 W gi n) := Lib.hid (fun W h => h.row)
    generalize (Dat.NewT w gi bw w5.heap.size (t, f, s) adw adp capw capp xs ad2 n) = NT at *
    have hn1 : n ≤ 1100 := by have h1 := HYs.out; have h2 := HM.out; omega
    clear hX hW6 HO5 HB5 HQ HBc HO1 HM HYs HB1 HBx1 HN HRw
    obtain ⟨⟨c0, c1, c2, c3, c4, c5, c6, c7, c8, c9, c10, c11⟩, d0, d1, d2, d3, d4, d5, d6, d7, d8, d9, d10, d11⟩ := HS.out W6 HT.out
    have hT6 := HT.out
    refine wp_region_noPanic ?_
    go_region_held_law (fun W => NT W ∧ (W.cell? ⟨w5.heap.size, 0, none⟩ = some (.int .i64 4) ∧ W.cell? ⟨w5.heap.size, 1, none⟩ = some (.int .i64 t) ∧ W.cell? ⟨w5.heap.size, 2, none⟩ = some (.int .i64 f) ∧ W.cell? ⟨w5.heap.size, 3, none⟩ = some (.int .u32 s) ∧ W.cell? ⟨w5.heap.size, 4, none⟩ = some (.int .i64 1) ∧ W.cell? ⟨w5.heap.size, 5, none⟩ = some (.int .i64 0) ∧ W.cell? ⟨w5.heap.size, 6, none⟩ = some (.int .i64 0) ∧ W.cell? ⟨w5.heap.size, 7, none⟩ = some (.int .i64 0) ∧ W.cell? ⟨w5.heap.size, 8, none⟩ = some (.int .i64 0) ∧ W.cell? ⟨w5.heap.size, 9, none⟩ = some (.int .i64 0) ∧ W.cell? ⟨w5.heap.size, 10, none⟩ = some (.int .i64 0) ∧ W.cell? ⟨w5.heap.size, 11, none⟩ = some (.slice adp n capp)) ∧ (W.cell? ⟨bw, 0, none⟩ = some (.int .i64 4) ∧ W.cell? ⟨bw, 1, none⟩ = some (.int .i64 t) ∧ W.cell? ⟨bw, 2, none⟩ = some (.int .i64 f) ∧ W.cell? ⟨bw, 3, none⟩ = some (.int .u32 s) ∧ W.cell? ⟨bw, 4, none⟩ = some (.int .i64 1) ∧ W.cell? ⟨bw, 5, none⟩ = some (.int .i64 0) ∧ W.cell? ⟨bw, 6, none⟩ = some (.int .i64 0) ∧ W.cell? ⟨bw, 7, none⟩ = some (.int .i64 0) ∧ W.cell? ⟨bw, 8, none⟩ = some (.int .i64 0) ∧ W.cell? ⟨bw, 9, none⟩ = some (.int .i64 0) ∧ W.cell? ⟨bw, 10, none⟩ = some (.int .i64 0) ∧ W.cell? ⟨bw, 11, none⟩ = some (.slice adw n capw))) ((refine ⟨?_, HS.out _ ?_⟩ <;> (first | assumption | exact HDr.out _ (by assumption))))
      (first
        | (go_at_call 10; (with_reducible refine (CS.out _ ?_).mono ?_); (focus (first | assumption | exact HDr.out _ (by assumption) | exact (‹NT _ ∧ _›).1)); rintro e w7 ⟨rfl, hT7⟩)
        | (go_at_call 11; (with_reducible refine (CG1.out _ ?_).mono ?_); (focus (first | assumption | exact HDr.out _ (by assumption) | exact (‹NT _ ∧ _›).1)); rintro e w8 ⟨rfl, hT8⟩)
        | (go_at_call 12; (with_reducible refine (CG2.out _ ?_).mono ?_); (focus (first | assumption | exact HDr.out _ (by assumption) | exact (‹NT _ ∧ _›).1)); rintro e w9 ⟨rfl, hT9⟩))
    refine NoPanic.normal ?_
    have HT9 := Lib.hid hT9
    clear c0 c1 c2 c3 c4 c5 c6 c7 c8 c9 c10 c11 d0 d1 d2 d3 d4 d5 d6 d7 d8 d9 d10 d11 hT6 hT7 hT8 hT9 HT CG1 CG2
    rename_i hHeld
    clear hHeld
    go_wp2_with fail
    go_loopw [36] (fun iv wr => ∃ k : Nat, k ≤ n ∧ iv = .int .i64 (k : Int) ∧ Hid (NT wr)) (fun iv _ => n - (intOf iv).toNat)
    case atStart => exact ⟨0, Nat.zero_le _, rfl, HT9⟩
    case round =>
      obtain ⟨k, hk, rfl, ht⟩ := hrel
      by_cases hlt : k < n
      · obtain ⟨e, cur, hb, hc⟩ := HRw2.out _ ht.out (by omega)
        subst e
        obtain ⟨x, hx, hxc⟩ := hc k hlt
        have hcell := (hb.cell k).trans hxc
        have hfr := hb.free k
        have HN := Lib.hid (HPut.out _ k ((x + 1) % 256) (Nat.mod_lt _ (by omega)) ht.out)
        rw [show (((x + 1) % 256 : Nat) : Int) = ((x : Int) + 1) % 256 from by omega] at HN
        have hki : (k : Int) < (n : Int) := by omega
        clear ht hb hc hxc HT9 HRw2 HPut HS CS CW HBl HDr
        go_wp2_with fail
        go_roundw
        case rel => exact ⟨k + 1, by omega, by go_num, HN⟩
        case measure => simp [intOf]; omega
      · obtain rfl : k = n := by omega
        clear HRw2 HPut HT9 HDr
        obtain ⟨⟨c0, c1, c2, c3, c4, c5, c6, c7, c8, c9, c10, c11⟩, d0, d1, d2, d3, d4, d5, d6, d7, d8, d9, d10, d11⟩ := HS.out _ ht.out
        go_wp2_with fail
        refine (CS.out _ ht.out).mono ?_; rintro e w10 ⟨rfl, hT10⟩
        have HT10 := Lib.hid hT10
        clear hT10
        go_wp2_with fail
        refine (CW.out _ HT10.out).mono ?_; rintro e w11 ⟨rfl, hT11⟩
        have HT11 := Lib.hid hT11
        clear hT11
        go_wp2_with fail
        go_ret
        exact ⟨rfl, HBl.out _ HT11.out⟩

set_option maxRecDepth 100000 in
theorem lifted (os : Os) (started : os.Started) (H : Type) (enc : TypeId × Value → H) :
    ReturnsInHanded {} Try.checked os 3 .any (Rows.dataNewSpec.pre6 enc Try.prog Try.f3 Rows.dataNewRow.domain false) (Rows.dataNewSpec.post enc Try.prog Try.f3 false true false false) := by
  refine returnsInHanded_of_change (C := Try.checked) own started (by kernel_rfl) Try.func3
    (ChangeSpec.witness6 (enc := enc) (C := Try.checked) false ⟨#[], #[.agg #[.int .i64 0, .int .i64 0, .int .u32 0], .slice none 0 0], []⟩ 8 (by kernel_rfl) (by kernel_rfl) (by kernel_rfl) (by kernel_rfl)) ?_
  intro W base args ds gs before hval0 hW hcnd _
  have hval : ∀ (j : Nat) t v, Try.f3.params[j]? = some t → args[j]? = some v → Value.okWide Try.prog W .any base t v := hval0
  have hW' := hW
  obtain ⟨p, q, hA0, hV, rfl, hfz, hnd⟩ := hW
  have hA : DataW.TrodAll enc Try.prog W 0 (fun _ => true) true Try.f3.params.toList args.toList ds p := hA0
  rw [Try.params3] at hA hval
  obtain ⟨v0, vs0, d0, ds0, p0, q0, hargs, rfl, rfl, h0, r0⟩ := trodAll_cons hA
  obtain ⟨v1, vs1, d1, ds1, p1, q1, rfl, rfl, rfl, h1, r1⟩ := trodAll_cons r0
  obtain ⟨rfl, rfl, rfl⟩ := trodAll_nil r1
  obtain rfl : args = #[v0, v1] := by cases args; simp_all
  obtain ⟨rfl, rfl⟩ := trodVars_none hV
  have k0 := h0
  have lt0 : ∀ x ∈ p0, x.block < W.heap.size := by obtain ⟨m, hm⟩ := k0; exact DataW.trod_lt m _ _ _ hm
  obtain ⟨a0, rfl, w0⟩ := Dat.open_k (hval 0 24 v0 rfl rfl) h0
  obtain ⟨a1, len1, cap1, rfl⟩ := okWide_slice Try.underlying25 (hval 1 25 v1 rfl rfl)
  have k1 := h1
  have lt1 : ∀ x ∈ p1, x.block < W.heap.size := by obtain ⟨m, hm⟩ := k1; exact DataW.trod_lt m _ _ _ hm
  obtain ⟨z1, w1⟩ : ∃ zs, IsRow .u8 W a1 len1 cap1 zs := by
    obtain ⟨fuel, hf⟩ := h1
    rcases open_ints Try.underlying25 Try.underlying5 (by kernel_rfl) hf with ⟨hcs, _⟩ | ⟨x, l, c, zs, hcs, _, hl, hm, hz, _, hcell, hwz⟩
    · simp [Value.cells] at hcs
      obtain ⟨rfl, rfl, rfl⟩ := hcs
      exact ⟨[], .inl ⟨rfl, rfl, rfl, rfl⟩⟩
    · simp [Value.cells] at hcs
      obtain ⟨rfl, rfl, rfl⟩ := hcs
      exact ⟨zs, .inr ⟨_, rfl, hl, hm, by simpa using hz, hcell, hwz⟩⟩
  clear hA0 hval0
  refine (walk a0 a1 len1 cap1 z1 W w0 w1).mono fun e W' ⟨he, bel⟩ => ?_
  subst he
  exact ⟨_, rfl, _, _, _, [], _, [], hW', trodAll_mk1 (shut_bool Try.underlying4 _), (trodAll_cons_mk (Below.trod laidOut (by kernel_rfl) (of_decide_eq_true (by kernel_rfl)) k0 bel lt0) (trodAll_cons_mk (Below.trod laidOut (by kernel_rfl) (of_decide_eq_true (by kernel_rfl)) k1 bel lt1) trodAll_mk0)), rfl, bel.frame _, fun h => by cases h⟩

theorem over : Rows.dataNewRow.holds Try.pinned (OpenSpec.ofChange Rows.dataNewSpec) :=
  OpenClaim.holds_of_wide 3 Try.f3 rfl rfl rfl rfl rfl rfl rfl ⟨rfl, rfl, rfl, rfl, rfl⟩ rfl rfl rfl rfl rfl (by kernel_rfl) Try.func3 (by kernel_rfl)
    (of_decide_eq_true (by kernel_rfl)) (by unfold Func.isWrapper; first | (rw [if_pos (by decide +kernel)]; kernel_rfl) | (rw [if_neg (by decide +kernel)]; exact ⟨rfl, rfl⟩))
    (fun os started H enc _ => lifted os started H enc)

theorem proved : Rows.DataNewSaid := over
#print axioms proved
end Go.Proofs.Ytjifdbhgoakjpaa.lawDataNew
