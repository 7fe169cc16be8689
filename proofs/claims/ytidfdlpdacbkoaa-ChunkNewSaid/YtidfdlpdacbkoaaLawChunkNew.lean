/- A chunk of anything is as the document says, and shares nothing with the body. -/
import Derived.Test.YtidfdlpdacbkoaaRows
import Derived.WalkKit
import Derived.ProofKit
import Derived.OpenShut
import Derived.ShutString
import Derived.ChangeOld
import Derived.Below
import Derived.Test.YtidfdlpdacbkoaaChuK
import Derived.Test.YtidfdlpdacbkoaaChuC
import Derived.Test.YtidfdlpdacbkoaaChuU
import Derived.Test.YtidfdlpdacbkoaaDatX
import Derived.Deep.RegionHeldLaw
import Derived.Deep.Cut
import Derived.Test.YtidfdlpdacbkoaaChuW
import Derived.Test.YtidfdlpdacbkoaaChuP
namespace Go.Proofs.Ytidfdlpdacbkoaa.lawChunkNew
open Go.ChangeShapes Go.WideShapes Go.ChangeAt Go.RowKit
open Go.ChangeMaps (open_string shut_string)
set_option linter.unusedVariables false

theorem own : ownKnob Try.prog.godebug = none := by kernel_rfl
theorem laidOut : laidOutB Try.prog = true := by kernel_rfl

/-! The walk: the Go text returns true and writes nothing that was there. -/
set_option linter.unusedSimpArgs false in
set_option maxRecDepth 100000 in
set_option maxHeartbeats 4000000 in
theorem walk (a0 : Hed.Pk) (w : World) (w0 : Hed.Ok w a0) :
    Calls Try.prog 3 #[Hed.pval a0] w fun e w' => e = .returned (.bool true) ∧ Below w.heap.size w w' := by
  have hr0 := w0.rd
  have hn0 := w0.nil
  have hl0 := w0.le
  have hm0 := w0.max
  obtain ⟨wb, hwb⟩ : ∃ wb, Hid (wb = w.alloc (.cells (Hed.Pk.cells a0) 27)) := ⟨_, Lib.hid rfl⟩
  have HB0 := Lib.hid (Hed.one_box w wb _ _ hwb.out).1
  have hc0 := Hed.pk_cells w wb a0 hwb.out wb (Below.refl _ _)
  have HBx := Lib.hid (Hed.one_box w wb _ _ hwb.out).2
  have CCut : Hid (Calls Try.prog 7 #[Hed.pval a0] wb fun e w' => ∃ ad' cap', e = .returned (Hed.pval (Dat.bodP a0 ad' cap' (a0.body.take 80))) ∧ Hid (Byt.OwnB w' (w.heap.size + 1) (.slice ad' (a0.body.take 80).length cap') (a0.body.take 80)) ∧ Hid (Below wb.heap.size wb w')) := Lib.hid ((Chu.ccut_any a0 wb (hr0.below HB0.out) hn0 hl0 hm0).mono fun e w' h => by
    obtain ⟨ad', cap', rfl, h1, h2⟩ := h
    exact ⟨ad', cap', rfl, Lib.hid (Own.mono h1 (by rw [hwb.out]; simp)), Lib.hid h2⟩)
  have HY : Hid ((a0.body.take 80).length ≤ 80) := Lib.hid (by rw [List.length_take]; omega)
  unfold Dat.bodP at CCut
  generalize a0.body.take 80 = y0 at *
  obtain ⟨kind, ⟨t, f, s⟩, hops, no, to, index, total, stamp, value, ad, cap, body⟩ := a0
  unfold Hed.pval Hed.Pk.cells at CCut
  unfold Hed.Pk.cells at hwb HBx
  unfold Hed.pval Hed.Pk.cells
  simp only at CCut hwb hc0 HBx ⊢
  obtain ⟨n, hn⟩ : ∃ n, body.length = n := ⟨_, rfl⟩
  obtain ⟨m, hmm⟩ : ∃ m, y0.length = m := ⟨_, rfl⟩
  simp only [hn] at CCut hwb hc0 HBx ⊢
  simp only [hmm] at CCut
  have HM := Lib.hid hmm
  clear hn hmm w0 hr0 hn0 hl0 hm0
  have HOc : Hid (∀ ad1 cap1, Array.all (#[.int .i64 kind, .int .i64 t, .int .i64 f, .int .u32 s, .int .i64 hops, .int .i64 no, .int .i64 to, .int .i64 index, .int .i64 total, .int .i64 stamp, .int .i64 value, .slice ad1 m cap1] : Array Value) (·.oneCell') = true) := Lib.hid (fun ad1 cap1 => by simp [Value.oneCell'])
  obtain ⟨c0, c1, c2, c3, c4, c5, c6, c7, c8, c9, c10, c11⟩ := hc0
  go_enter Try.func3, Try.ntmps3
  go_upto_region 1 with fail
  rw [← hwb.out]
  go_wp2_with fail
  refine (CCut.out).mono ?_; rintro e w2 ⟨ad1, cap1, rfl, HO2, HB2⟩
  have HBx2 := Lib.hid (HBx.out.below HB2.out)
  have HBx3 := Lib.hid (Hed.Blk.row HBx2.out #[.int .i64 kind, .int .i64 t, .int .i64 f, .int .u32 s, .int .i64 hops, .int .i64 no, .int .i64 to, .int .i64 index, .int .i64 total, .int .i64 stamp, .int .i64 value, .slice ad1 m cap1] rfl)
  have HOc1 := Lib.hid (HOc.out ad1 cap1)
  clear c0 c1 c2 c3 c4 c5 c6 c7 c8 c9 c10 c11 CCut hwb HBx HOc
  go_upto_region 2 with (refine wpList_store_row rfl 27 _ _ rfl _ #[.int .i64 kind, .int .i64 t, .int .i64 f, .int .u32 s, .int .i64 hops, .int .i64 no, .int .i64 to, .int .i64 index, .int .i64 total, .int .i64 stamp, .int .i64 value, .slice ad1 m cap1] rfl rfl _ _ HBx2.out Hed.infoPk rfl HOc1.out ?_)
  have HB3 : Hid (Below w.heap.size w (w2.setRow w.heap.size #[.int .i64 kind, .int .i64 t, .int .i64 f, .int .u32 s, .int .i64 hops, .int .i64 no, .int .i64 to, .int .i64 index, .int .i64 total, .int .i64 stamp, .int .i64 value, .slice ad1 m cap1])) := Lib.hid (below_setRow (HB0.out.trans (HB2.out.mono HB0.out.size)) (Nat.le_refl _) _)
  have HO3 := Lib.hid (Dat.own_box (V := w2.setRow w.heap.size #[.int .i64 kind, .int .i64 t, .int .i64 f, .int .u32 s, .int .i64 hops, .int .i64 no, .int .i64 to, .int .i64 index, .int .i64 total, .int .i64 stamp, .int .i64 value, .slice ad1 m cap1]) HO2.out (by simp) (fun k hk => setRow_other _ _ _ _ (by omega)))
  clear HBx2 HOc1 HO2 HB2 HB0
  generalize w2.setRow w.heap.size #[.int .i64 kind, .int .i64 t, .int .i64 f, .int .u32 s, .int .i64 hops, .int .i64 no, .int .i64 to, .int .i64 index, .int .i64 total, .int .i64 stamp, .int .i64 value, .slice ad1 m cap1] = W3 at *
  have HZ : Hid (∀ (W : World) (b : Nat), Buf.Blk W b 27 #[.int .i64 kind, .int .i64 t, .int .i64 f, .int .u32 s, .int .i64 hops, .int .i64 no, .int .i64 to, .int .i64 index, .int .i64 total, .int .i64 stamp, .int .i64 value, .slice ad1 m cap1] → _ ∧ _) := Lib.hid (fun W b h => Hed.blk_cells (p := ⟨kind, (t, f, s), hops, no, to, index, total, stamp, value, ad1, cap1, y0⟩) (by unfold Hed.Pk.cells; simp only [HM.out]; exact h))
  simp only [HM.out] at HZ
  have HC : Hid (∀ W, Below W3.heap.size W3 W → _ ∧ _) := Lib.hid (fun W hW => HZ.out W w.heap.size (HBx3.out.below hW))
  have HR : Hid (∀ W, Below W3.heap.size W3 W → Byt.RdB W ad1 y0) := Lib.hid (fun W hW => HO3.out.rd.1.below hW)
  have hBa : Below W3.heap.size W3 (W3.alloc (.cells #[] 5)) := (Below.refl _ _).alloc (Nat.le_refl _) _
  have HO := Lib.hid (Buf.own_zero W3)
  have HRD0 := Lib.hid (HR.out _ hBa)
  have HBz : Hid (W3.heap.size ≤ (W3.alloc (.cells #[] 5)).heap.size) := Lib.hid hBa.size
  have HBa := Lib.hid hBa
  have hpos := HO3.out.pos
  have HXN := Lib.hid hpos.2.2.1
  have HHm := Lib.hid HM.out.symm
  obtain ⟨c0, c1, c2, c3, c4, c5, c6, c7, c8, c9, c10, c11⟩ := HC.out W3 (Below.refl _ _)
  obtain ⟨d0, d1, d2, d3, d4, d5, d6, d7, d8, d9, d10, d11⟩ := HC.out _ hBa
  clear hBa hpos
  go_upto_region 3 with (at_builtin; refine Hed.app_step rfl _ _ rfl W3.heap.size (some ⟨W3.heap.size, 0, none⟩) 0 0 [] rfl HO.out ad1 m cap1 y0 rfl HHm.out HRD0.out HXN.out (by have := HY.out; simp only [List.length_nil]; omega) HBz.out ?_; intro l1 ad2 cap2 w4 hl1 ho1 hb1 _)
  have hl1e : l1 = y0 := by rw [hl1.out, List.nil_append]
  subst hl1e
  generalize l1 = y0 at *
  clear c0 c1 c2 c3 c4 c5 c6 c7 c8 c9 c10 c11 d0 d1 d2 d3 d4 d5 d6 d7 d8 d9 d10 d11
  have HB34 := Lib.hid (HBa.out.trans (hb1.mono (Nat.le_refl _)))
  have HO4 : Hid (Byt.OwnB w4 W3.heap.size (.slice ad2 m cap2) y0) := Lib.hid (by rw [← HM.out]; exact ho1)
  have HB4 := Lib.hid (HB3.out.trans (HB34.out.mono HB3.out.size))
  have HBx4 := Lib.hid (HBx3.out.below HB34.out)
  have HR4 := Lib.hid (HR.out _ HB34.out)
  rw [HM.out]
  have hpos := ho1.pos
  have CN : Hid (Calls Try.prog 8 #[Key.kval (t, f, s), .int .i64 no, .int .i64 to, .int .i64 index, .int .i64 total, .slice ad2 y0.length cap2] w4 fun e w' => ∃ adq capq, e = .returned (Hed.pval (Chu.chuP (t, f, s) no to index total adq capq y0)) ∧ Hid (Byt.OwnB w' (w4.heap.size + 2) (.slice adq y0.length capq) y0) ∧ Hid (Below w4.heap.size w4 w')) := Lib.hid ((Chu.cnew_any (t, f, s) no to index total ad2 cap2 y0 w4 hpos.1 (by have := HY.out; omega) ho1.rd.1 hpos.2.2.1).mono fun e w' h => by
    obtain ⟨adq, capq, rfl, h1, h2⟩ := h
    exact ⟨adq, capq, rfl, Lib.hid h1, Lib.hid h2⟩)
  have CRn : Hid (∀ W, Calls Try.prog 9 #[Key.kval (t, f, s), .int .i64 no, .int .i64 to, .int .i64 index, .int .i64 total, .slice ad1 y0.length cap1] W fun e w' => e = .returned (Hed.pval (Chu.chuP (t, f, s) no to index total ad1 cap1 y0)) ∧ Below W.heap.size W w') := Lib.hid (fun W => Chu.rcnew_any (t, f, s) no to index total ad1 cap1 y0 W)
  unfold Key.kval Hed.pval Hed.Pk.cells Chu.chuP at CN CRn
  simp only [HM.out] at CN CRn
  have HC4 : Hid (_ ∧ _) := Lib.hid (HZ.out w4 w.heap.size HBx4.out)
  clear hl1 ho1 hb1 hpos HO HRD0 HBz HBa HXN HHm HC HR
  obtain ⟨c0, c1, c2, c3, c4, c5, c6, c7, c8, c9, c10, c11⟩ := HC4.out
  go_wp2_with fail
  refine (CN.out).mono ?_; rintro e w5 ⟨adq, capq, rfl, HO5, HB5⟩
  clear c0 c1 c2 c3 c4 c5 c6 c7 c8 c9 c10 c11 HC4 CN
  go_upto_region 4 with fail
  obtain ⟨W6, hW6⟩ : ∃ W6, Hid (W6 = w5.alloc (.cells #[.int .i64 6, .int .i64 t, .int .i64 f, .int .u32 s, .int .i64 1, .int .i64 no, .int .i64 to, .int .i64 index, .int .i64 total, .int .i64 0, .int .i64 0, .slice adq m capq] 27)) := ⟨_, Lib.hid rfl⟩
  rw [← hW6.out]
  have hX := Hed.one_box w5 W6 _ _ hW6.out
  obtain ⟨gi, HN, HRw⟩ : ∃ gi, Hid (Chu.NewC w gi w.heap.size w5.heap.size ⟨kind, (t, f, s), hops, no, to, index, total, stamp, value, ad1, cap1, y0⟩ (Chu.chuP (t, f, s) no to index total adq capq y0) W6) ∧ Hid (0 < m → ad2 = some ⟨gi, 0, none⟩ ∧ Dat.Row8 W6 gi m) := by
    have z1 := HB3.out.size; have z2 := HB34.out.size; have z3 := HB5.out.size; have z4 := HBx3.out.lt
    have b2 := HB4.out.trans (HB5.out.mono HB4.out.size)
    have b3 := b2.trans (hX.1.mono b2.size)
    have bx1 : Buf.Blk W6 w.heap.size 27 (Hed.Pk.cells ⟨kind, (t, f, s), hops, no, to, index, total, stamp, value, ad1, cap1, y0⟩) := by
      unfold Hed.Pk.cells
      simp only [HM.out]
      exact (HBx4.out.below HB5.out).below hX.1
    have bx2 : Buf.Blk W6 w5.heap.size 27 (Hed.Pk.cells (Chu.chuP (t, f, s) no to index total adq capq y0)) := by
      unfold Chu.chuP Hed.Pk.cells
      simp only [HM.out]
      exact hX.2
    have r1 := (HR4.out.below HB5.out).below hX.1
    have r2 := HO5.out.rd.1.below hX.1
    rcases Nat.eq_zero_or_pos m with h0 | h0
    · have hnil : y0 = [] := List.eq_nil_of_length_eq_zero (HM.out.trans h0)
      exact ⟨w.heap.size + w5.heap.size + 1, Lib.hid ⟨b3, bx1, bx2, r1, r2, by omega, by omega, by omega, fun h => absurd hnil h, fun h => absurd hnil h⟩, Lib.hid fun h => by omega⟩
    · obtain ⟨gi, e, h1, h2, h3⟩ := Dat.Row8.of_own HO4.out h0
      refine ⟨gi, Lib.hid ⟨b3, bx1, bx2, r1, r2, by omega, by omega, by omega, fun hx b o e2 => ?_, fun hx b o e2 => ?_⟩, Lib.hid fun _ => ⟨e, (h3.below HB5.out).below hX.1⟩⟩
      · have := (Buf.own_at HO3.out (k := b) (by simp only at e2; rw [e2]; rfl)).2
        omega
      · have := (Buf.own_at HO5.out (k := b) (by simp only [Chu.chuP] at e2; rw [e2]; rfl)).1
        omega
  have HT : Hid ((Chu.NewD w gi w.heap.size w5.heap.size ⟨kind, (t, f, s), hops, no, to, index, total, stamp, value, ad1, cap1, y0⟩ (Chu.chuP (t, f, s) no to index total adq capq y0) ad2 m) W6) := Lib.hid ⟨HN.out, HRw.out⟩
  have HS : Hid (∀ W, (Chu.NewD w gi w.heap.size w5.heap.size ⟨kind, (t, f, s), hops, no, to, index, total, stamp, value, ad1, cap1, y0⟩ (Chu.chuP (t, f, s) no to index total adq capq y0) ad2 m) W → (W.cell? ⟨w.heap.size, 0, none⟩ = some (.int .i64 kind) ∧ W.cell? ⟨w.heap.size, 1, none⟩ = some (.int .i64 t) ∧ W.cell? ⟨w.heap.size, 2, none⟩ = some (.int .i64 f) ∧ W.cell? ⟨w.heap.size, 3, none⟩ = some (.int .u32 s) ∧ W.cell? ⟨w.heap.size, 4, none⟩ = some (.int .i64 hops) ∧ W.cell? ⟨w.heap.size, 5, none⟩ = some (.int .i64 no) ∧ W.cell? ⟨w.heap.size, 6, none⟩ = some (.int .i64 to) ∧ W.cell? ⟨w.heap.size, 7, none⟩ = some (.int .i64 index) ∧ W.cell? ⟨w.heap.size, 8, none⟩ = some (.int .i64 total) ∧ W.cell? ⟨w.heap.size, 9, none⟩ = some (.int .i64 stamp) ∧ W.cell? ⟨w.heap.size, 10, none⟩ = some (.int .i64 value) ∧ W.cell? ⟨w.heap.size, 11, none⟩ = some (.slice ad1 m cap1)) ∧ Hid (Buf.Blk W w5.heap.size 27 #[.int .i64 6, .int .i64 t, .int .i64 f, .int .u32 s, .int .i64 1, .int .i64 no, .int .i64 to, .int .i64 index, .int .i64 total, .int .i64 0, .int .i64 0, .slice adq m capq])) := Lib.hid (fun W h => by
    have e1 := Hed.blk_cells h.ns.boxp
    have e2 := h.ns.boxq
    unfold Chu.chuP Hed.Pk.cells at e2
    simp only [HM.out] at e1 e2
    exact ⟨e1, Lib.hid e2⟩)
  have HPut : Hid (∀ W (i x : Nat), x < 256 → (Chu.NewD w gi w.heap.size w5.heap.size ⟨kind, (t, f, s), hops, no, to, index, total, stamp, value, ad1, cap1, y0⟩ (Chu.chuP (t, f, s) no to index total adq capq y0) ad2 m) W → (Chu.NewD w gi w.heap.size w5.heap.size ⟨kind, (t, f, s), hops, no, to, index, total, stamp, value, ad1, cap1, y0⟩ (Chu.chuP (t, f, s) no to index total adq capq y0) ad2 m) (W.setCell ⟨gi, i, none⟩ (.int .u8 (x : Int)))) := Lib.hid (fun W i x hx h => h.put i x hx)
  have HBl : Hid (∀ W, (Chu.NewD w gi w.heap.size w5.heap.size ⟨kind, (t, f, s), hops, no, to, index, total, stamp, value, ad1, cap1, y0⟩ (Chu.chuP (t, f, s) no to index total adq capq y0) ad2 m) W → Below w.heap.size w W ∧ Byt.RdB W ad1 y0 ∧ Byt.RdB W adq y0) := Lib.hid (fun W h => ⟨h.ns.below, h.ns.rdp, h.ns.rdq⟩)
  have HRw2 : Hid (∀ W, (Chu.NewD w gi w.heap.size w5.heap.size ⟨kind, (t, f, s), hops, no, to, index, total, stamp, value, ad1, cap1, y0⟩ (Chu.chuP (t, f, s) no to index total adq capq y0) ad2 m) W → 0 < m → ad2 = some ⟨gi, 0, none⟩ ∧ Dat.Row8 W gi m) := Lib.hid (fun W h => h.row)
  generalize (Chu.NewD w gi w.heap.size w5.heap.size ⟨kind, (t, f, s), hops, no, to, index, total, stamp, value, ad1, cap1, y0⟩ (Chu.chuP (t, f, s) no to index total adq capq y0) ad2 m) = NT at *
  have hm1 : m ≤ 80 := by have h2 := HM.out; have := HY.out; omega
  have HZq : Hid (∀ (W : World) (b : Nat) ad cap, Buf.Blk W b 27 #[.int .i64 6, .int .i64 t, .int .i64 f, .int .u32 s, .int .i64 1, .int .i64 no, .int .i64 to, .int .i64 index, .int .i64 total, .int .i64 0, .int .i64 0, .slice ad m cap] → _ ∧ _) := Lib.hid (fun W b ad cap h => Hed.blk_cells (p := (Chu.chuP (t, f, s) no to index total ad cap y0)) (by unfold Chu.chuP Hed.Pk.cells; simp only [HM.out]; exact h))
  unfold Chu.chuP at HZq
  simp only [HM.out] at HZq
  clear hX hW6 HO5 HB5 HN HRw HO4 HB4 HBx4 HR4 HB34 HO3 HBx3 HB3 HZ HY
  go_wp2_with fail
  go_loopw [27] (fun iv wr => ∃ k : Nat, k ≤ m ∧ iv = .int .i64 (k : Int) ∧ Hid (NT wr)) (fun iv _ => m - (intOf iv).toNat)
  case atStart => exact ⟨0, Nat.zero_le _, rfl, HT⟩
  case round =>
    obtain ⟨k, hk, rfl, ht⟩ := hrel
    by_cases hlt : k < m
    · obtain ⟨e, cur, hb, hc⟩ := HRw2.out _ ht.out (by omega)
      subst e
      obtain ⟨x, hx, hxc⟩ := hc k hlt
      have hcell := (hb.cell k).trans hxc
      have hfr := hb.free k
      have HN := Lib.hid (HPut.out _ k ((x + 1) % 256) (Nat.mod_lt _ (by omega)) ht.out)
      rw [show (((x + 1) % 256 : Nat) : Int) = ((x : Int) + 1) % 256 from by omega] at HN
      have hki : (k : Int) < (m : Int) := by omega
      clear ht hb hc hxc HT HRw2 HPut HS HBl CRn HZq
      go_wp2_with fail
      go_roundw
      case rel => exact ⟨k + 1, by omega, by go_num, HN⟩
      case measure => simp [intOf]; omega
    · obtain rfl : k = m := by omega
      clear HRw2 HPut HT
      obtain ⟨⟨c0, c1, c2, c3, c4, c5, c6, c7, c8, c9, c10, c11⟩, HQ⟩ := HS.out _ ht.out
      go_wp2_with fail
      refine (CRn.out _).mono ?_; rintro e w10 ⟨rfl, hB10⟩
      have HB10 := Lib.hid hB10
      clear hB10 c0 c1 c2 c3 c4 c5 c6 c7 c8 c9 c10 c11 CRn HS
      go_upto_region 10 with fail
      obtain ⟨W11, hW11⟩ : ∃ W11, Hid (W11 = w10.alloc (.cells #[.int .i64 6, .int .i64 t, .int .i64 f, .int .u32 s, .int .i64 1, .int .i64 no, .int .i64 to, .int .i64 index, .int .i64 total, .int .i64 0, .int .i64 0, .slice ad1 k cap1] 27)) := ⟨_, Lib.hid rfl⟩
      rw [← hW11.out]
      have hX := Hed.one_box w10 W11 _ _ hW11.out
      have HB11 := Lib.hid (HB10.out.trans (hX.1.mono HB10.out.size))
      have hl := HBl.out _ ht.out
      have HB0 := Lib.hid hl.1
      have HR1 : Hid (∀ W, Below W11.heap.size W11 W → Byt.RdB W ad1 y0) := Lib.hid (fun W hW => (hl.2.1.below HB11.out).below hW)
      have HRq : Hid (∀ W, Below W11.heap.size W11 W → Byt.RdB W adq y0) := Lib.hid (fun W hW => (hl.2.2.below HB11.out).below hW)
      have HQ1 := Lib.hid (HQ.out.below HB11.out)
      have HQ2 := Lib.hid hX.2
      have HC : Hid (∀ W, Below W11.heap.size W11 W → _ ∧ _) := Lib.hid (fun W hW => ⟨HZq.out W w5.heap.size adq capq (HQ1.out.below hW), HZq.out W w10.heap.size ad1 cap1 (HQ2.out.below hW)⟩)
      have CS : Hid (∀ W, Below W11.heap.size W11 W → Calls Try.prog 10 #[Hed.pval (Chu.chuP (t, f, s) no to index total adq capq y0), Hed.pval (Chu.chuP (t, f, s) no to index total ad1 cap1 y0)] W fun e w' => e = .returned (.bool (Hed.eqP (Chu.chuP (t, f, s) no to index total adq capq y0) (Chu.chuP (t, f, s) no to index total ad1 cap1 y0))) ∧ Below W11.heap.size W11 w') := Lib.hid (fun W hW => (Hed.rsame_any (Chu.chuP (t, f, s) no to index total adq capq y0) (Chu.chuP (t, f, s) no to index total ad1 cap1 y0) W (HRq.out W hW) (HR1.out W hW)).mono fun e w' h => ⟨h.1, hW.trans (h.2.mono hW.size)⟩)
      have CG1 : Hid (∀ W, Below W11.heap.size W11 W → Calls Try.prog 11 #[Hed.pval (Chu.chuP (t, f, s) no to index total adq capq y0)] W fun e w' => e = .returned (.bool (Chu.chuG (Chu.chuP (t, f, s) no to index total adq capq y0))) ∧ Below W11.heap.size W11 w') := Lib.hid (fun W hW => (Chu.cgood_any (Chu.chuP (t, f, s) no to index total adq capq y0) W).mono fun e w' h => ⟨h.1, hW.trans (h.2.mono hW.size)⟩)
      have CG2 : Hid (∀ W, Below W11.heap.size W11 W → Calls Try.prog 12 #[Hed.pval (Chu.chuP (t, f, s) no to index total ad1 cap1 y0)] W fun e w' => e = .returned (.bool (Chu.chuG (Chu.chuP (t, f, s) no to index total ad1 cap1 y0))) ∧ Below W11.heap.size W11 w') := Lib.hid (fun W hW => (Chu.rcgood_any (Chu.chuP (t, f, s) no to index total ad1 cap1 y0) W).mono fun e w' h => ⟨h.1, hW.trans (h.2.mono hW.size)⟩)
      have CW : Hid (∀ W, Below W11.heap.size W11 W → Calls Try.prog 13 #[] W fun e w' => e = .returned (.bool true) ∧ Below W11.heap.size W11 w') := Lib.hid (fun W hW => (Chu.cworks_any W).mono fun e w' h => ⟨h.1, hW.trans (h.2.mono hW.size)⟩)
      rw [Chu.same_chuP] at CS
      rw [Chu.chuG_chuP _ _ _ _ _ adq ad1 capq cap1] at CG1
      generalize Chu.chuG (Chu.chuP (t, f, s) no to index total ad1 cap1 y0) = gb at *
      have hgb : (gb == gb) = true := by simp
      unfold Chu.chuP Hed.pval Hed.Pk.cells at CS CG1 CG2
      simp only [HM.out] at CS CG1 CG2
      clear hX hW11 HQ HQ1 HQ2 HZq hl ht HBl HR1 HRq
      obtain ⟨⟨c0, c1, c2, c3, c4, c5, c6, c7, c8, c9, c10, c11⟩, ⟨d0, d1, d2, d3, d4, d5, d6, d7, d8, d9, d10, d11⟩⟩ := HC.out W11 (Below.refl _ _)
      refine wp_region_noPanic ?_
      go_region_held_law (fun W => Below W11.heap.size W11 W ∧ (W.cell? ⟨w5.heap.size, 0, none⟩ = some (.int .i64 6) ∧ W.cell? ⟨w5.heap.size, 1, none⟩ = some (.int .i64 t) ∧ W.cell? ⟨w5.heap.size, 2, none⟩ = some (.int .i64 f) ∧ W.cell? ⟨w5.heap.size, 3, none⟩ = some (.int .u32 s) ∧ W.cell? ⟨w5.heap.size, 4, none⟩ = some (.int .i64 1) ∧ W.cell? ⟨w5.heap.size, 5, none⟩ = some (.int .i64 no) ∧ W.cell? ⟨w5.heap.size, 6, none⟩ = some (.int .i64 to) ∧ W.cell? ⟨w5.heap.size, 7, none⟩ = some (.int .i64 index) ∧ W.cell? ⟨w5.heap.size, 8, none⟩ = some (.int .i64 total) ∧ W.cell? ⟨w5.heap.size, 9, none⟩ = some (.int .i64 0) ∧ W.cell? ⟨w5.heap.size, 10, none⟩ = some (.int .i64 0) ∧ W.cell? ⟨w5.heap.size, 11, none⟩ = some (.slice adq k capq)) ∧ (W.cell? ⟨w10.heap.size, 0, none⟩ = some (.int .i64 6) ∧ W.cell? ⟨w10.heap.size, 1, none⟩ = some (.int .i64 t) ∧ W.cell? ⟨w10.heap.size, 2, none⟩ = some (.int .i64 f) ∧ W.cell? ⟨w10.heap.size, 3, none⟩ = some (.int .u32 s) ∧ W.cell? ⟨w10.heap.size, 4, none⟩ = some (.int .i64 1) ∧ W.cell? ⟨w10.heap.size, 5, none⟩ = some (.int .i64 no) ∧ W.cell? ⟨w10.heap.size, 6, none⟩ = some (.int .i64 to) ∧ W.cell? ⟨w10.heap.size, 7, none⟩ = some (.int .i64 index) ∧ W.cell? ⟨w10.heap.size, 8, none⟩ = some (.int .i64 total) ∧ W.cell? ⟨w10.heap.size, 9, none⟩ = some (.int .i64 0) ∧ W.cell? ⟨w10.heap.size, 10, none⟩ = some (.int .i64 0) ∧ W.cell? ⟨w10.heap.size, 11, none⟩ = some (.slice ad1 k cap1))) ((refine ⟨?_, HC.out _ ?_⟩ <;> (first | assumption | exact (Below.refl _ _) | exact (Below.refl _ _).drew | exact Below.drew (by assumption))))
        (first
          | (go_at_call 10; (with_reducible refine (CS.out _ ?_).mono ?_); (focus (first | assumption | exact (Below.refl _ _) | exact (Below.refl _ _).drew | exact Below.drew (by assumption) | exact (‹Below W11.heap.size W11 _ ∧ _›).1)); rintro e w12 ⟨rfl, hB12⟩)
          | (go_at_call 11; (with_reducible refine (CG1.out _ ?_).mono ?_); (focus (first | assumption | exact (Below.refl _ _) | exact (Below.refl _ _).drew | exact Below.drew (by assumption) | exact (‹Below W11.heap.size W11 _ ∧ _›).1)); rintro e w13 ⟨rfl, hB13⟩)
          | (go_at_call 12; (with_reducible refine (CG2.out _ ?_).mono ?_); (focus (first | assumption | exact (Below.refl _ _) | exact (Below.refl _ _).drew | exact Below.drew (by assumption) | exact (‹Below W11.heap.size W11 _ ∧ _›).1)); rintro e w14 ⟨rfl, hB14⟩)
          | (go_at_call 13; (with_reducible refine (CW.out _ ?_).mono ?_); (focus (first | assumption | exact (Below.refl _ _) | exact (Below.refl _ _).drew | exact Below.drew (by assumption) | exact (‹Below W11.heap.size W11 _ ∧ _›).1)); rintro e w15 ⟨rfl, hB15⟩))
      all_goals
        refine NoPanic.normal ?_
        go_wp2_with fail
        go_ret
        exact ⟨rfl, HB0.out.trans ((HB11.out.trans ((‹Below W11.heap.size W11 _ ∧ _›).1.mono HB11.out.size)).mono HB0.out.size)⟩

set_option maxRecDepth 100000 in
theorem lifted (os : Os) (started : os.Started) (H : Type) (enc : TypeId × Value → H) :
    ReturnsInHanded {} Try.checked os 3 .any (Rows.chunkNewSpec.pre6 enc Try.prog Try.f3 Rows.chunkNewRow.domain false) (Rows.chunkNewSpec.post enc Try.prog Try.f3 false true false false) := by
  refine returnsInHanded_of_change (C := Try.checked) own started (by kernel_rfl) Try.func3
    (ChangeSpec.witness6 (enc := enc) (C := Try.checked) false ⟨#[], #[.agg #[.int .i64 0, .int .i64 0, .int .i64 0, .int .u32 0, .int .i64 0, .int .i64 0, .int .i64 0, .int .i64 0, .int .i64 0, .int .i64 0, .int .i64 0, .slice none 0 0]], []⟩ 8 (by kernel_rfl) (by kernel_rfl) (by kernel_rfl) (by kernel_rfl)) ?_
  intro W base args ds gs before hval0 hW hcnd _
  have hval : ∀ (j : Nat) t v, Try.f3.params[j]? = some t → args[j]? = some v → Value.okWide Try.prog W .any base t v := hval0
  have hW' := hW
  obtain ⟨p, q, hA0, hV, rfl, hfz, hnd⟩ := hW
  have hA : DataW.TrodAll enc Try.prog W 0 (fun _ => true) true Try.f3.params.toList args.toList ds p := hA0
  rw [Try.params3] at hA hval
  obtain ⟨v0, vs0, d0, ds0, p0, q0, hargs, rfl, rfl, h0, r0⟩ := trodAll_cons hA
  obtain ⟨rfl, rfl, rfl⟩ := trodAll_nil r0
  obtain rfl : args = #[v0] := by cases args; simp_all
  obtain ⟨rfl, rfl⟩ := trodVars_none hV
  have k0 := h0
  have lt0 : ∀ x ∈ p0, x.block < W.heap.size := by obtain ⟨m, hm⟩ := k0; exact DataW.trod_lt m _ _ _ hm
  obtain ⟨a0, rfl, w0⟩ := Hed.open_pk (hval 0 27 v0 rfl rfl) h0
  clear hA0 hval0
  refine (walk a0 W w0).mono fun e W' ⟨he, bel⟩ => ?_
  subst he
  exact ⟨_, rfl, _, _, _, [], _, [], hW', trodAll_mk1 (shut_bool Try.underlying4 _), (trodAll_cons_mk (Below.trod laidOut (by kernel_rfl) (of_decide_eq_true (by kernel_rfl)) k0 bel lt0) trodAll_mk0), rfl, bel.frame _, fun h => by cases h⟩

theorem over : Rows.chunkNewRow.holds Try.pinned (OpenSpec.ofChange Rows.chunkNewSpec) :=
  OpenClaim.holds_of_wide 3 Try.f3 rfl rfl rfl rfl rfl rfl rfl ⟨rfl, rfl, rfl, rfl, rfl⟩ rfl rfl rfl rfl rfl (by kernel_rfl) Try.func3 (by kernel_rfl)
    (of_decide_eq_true (by kernel_rfl)) (by unfold Func.isWrapper; first | (rw [if_pos (by decide +kernel)]; kernel_rfl) | (rw [if_neg (by decide +kernel)]; exact ⟨rfl, rfl⟩))
    (fun os started H enc _ => lifted os started H enc)

theorem proved : Rows.ChunkNewSaid := over
#print axioms proved
end Go.Proofs.Ytidfdlpdacbkoaa.lawChunkNew
