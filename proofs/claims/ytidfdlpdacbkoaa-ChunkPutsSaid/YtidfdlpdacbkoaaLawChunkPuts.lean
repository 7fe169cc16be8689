/- Any chunk that may be is written as the document says, and read as it was. -/
import Derived.Test.YtidfdlpdacbkoaaRows
import Derived.WalkKit
import Derived.ProofKit
import Derived.OpenShut
import Derived.ShutString
import Derived.ChangeOld
import Derived.Below
import Derived.Test.YtidfdlpdacbkoaaChuK
import Derived.Test.YtidfdlpdacbkoaaChuC
import Derived.Test.YtidfdlpdacbkoaaChuU
import Derived.Test.YtidfdlpdacbkoaaDatX
import Derived.Deep.RegionHeldLaw
import Derived.Deep.Cut
import Derived.Test.YtidfdlpdacbkoaaChuS
namespace Go.Proofs.Ytidfdlpdacbkoaa.lawChunkPuts
open Go.ChangeShapes Go.WideShapes Go.ChangeAt Go.RowKit
open Go.ChangeMaps (open_string shut_string)
set_option linter.unusedVariables false

theorem own : ownKnob Try.prog.godebug = none := by kernel_rfl
theorem laidOut : laidOutB Try.prog = true := by kernel_rfl

/-! The walk: the Go text returns true and writes nothing that was there. -/
set_option linter.unusedSimpArgs false in
set_option maxRecDepth 100000 in
set_option maxHeartbeats 4000000 in
theorem walk (a0 : Hed.Pk) (w : World) (w0 : Hed.Ok w a0) :
    Calls Try.prog 5 #[Hed.pval a0] w fun e w' => e = .returned (.bool true) ∧ Below w.heap.size w w' := by
  have hr0 := w0.rd
  have hn0 := w0.nil
  have hl0 := w0.le
  have hm0 := w0.max
  obtain ⟨wb, hwb⟩ : ∃ wb, Hid (wb = w.alloc (.cells (Hed.Pk.cells a0) 27)) := ⟨_, Lib.hid rfl⟩
  have HB0 := Lib.hid (Hed.one_box w wb _ _ hwb.out).1
  have hc0 := Hed.pk_cells w wb a0 hwb.out wb (Below.refl _ _)
  have HBx := Lib.hid (Hed.one_box w wb _ _ hwb.out).2
  have CCut : Hid (Calls Try.prog 7 #[Hed.pval a0] wb fun e w' => ∃ ad' cap', e = .returned (Hed.pval (Dat.bodP a0 ad' cap' (a0.body.take 80))) ∧ Hid (Byt.OwnB w' (w.heap.size + 1) (.slice ad' (a0.body.take 80).length cap') (a0.body.take 80)) ∧ Hid (Below wb.heap.size wb w')) := Lib.hid ((Chu.ccut_any a0 wb (hr0.below HB0.out) hn0 hl0 hm0).mono fun e w' h => by
    obtain ⟨ad', cap', rfl, h1, h2⟩ := h
    exact ⟨ad', cap', rfl, Lib.hid (Own.mono h1 (by rw [hwb.out]; simp)), Lib.hid h2⟩)
  have HY : Hid ((a0.body.take 80).length ≤ 80) := Lib.hid (by rw [List.length_take]; omega)
  unfold Dat.bodP at CCut
  generalize a0.body.take 80 = y0 at *
  obtain ⟨kind, ⟨t, f, s⟩, hops, no, to, index, total, stamp, value, ad, cap, body⟩ := a0
  unfold Hed.pval Hed.Pk.cells at CCut
  unfold Hed.Pk.cells at hwb HBx
  unfold Hed.pval Hed.Pk.cells
  simp only at CCut hwb hc0 HBx ⊢
  obtain ⟨n, hn⟩ : ∃ n, body.length = n := ⟨_, rfl⟩
  obtain ⟨m, hmm⟩ : ∃ m, y0.length = m := ⟨_, rfl⟩
  simp only [hn] at CCut hwb hc0 HBx ⊢
  simp only [hmm] at CCut
  have HM := Lib.hid hmm
  clear hn hmm w0 hr0 hn0 hl0 hm0
  have HOc : Hid (∀ ad1 cap1, Array.all (#[.int .i64 kind, .int .i64 t, .int .i64 f, .int .u32 s, .int .i64 hops, .int .i64 no, .int .i64 to, .int .i64 index, .int .i64 total, .int .i64 stamp, .int .i64 value, .slice ad1 m cap1] : Array Value) (·.oneCell') = true) := Lib.hid (fun ad1 cap1 => by simp [Value.oneCell'])
  obtain ⟨c0, c1, c2, c3, c4, c5, c6, c7, c8, c9, c10, c11⟩ := hc0
  go_enter Try.func5, Try.ntmps5
  go_upto_region 1 with fail
  rw [← hwb.out]
  go_wp2_with fail
  refine (CCut.out).mono ?_; rintro e w2 ⟨ad1, cap1, rfl, HO2, HB2⟩
  have HBx2 := Lib.hid (HBx.out.below HB2.out)
  have HBx3 := Lib.hid (Hed.Blk.row HBx2.out #[.int .i64 kind, .int .i64 t, .int .i64 f, .int .u32 s, .int .i64 hops, .int .i64 no, .int .i64 to, .int .i64 index, .int .i64 total, .int .i64 stamp, .int .i64 value, .slice ad1 m cap1] rfl)
  have HOc1 := Lib.hid (HOc.out ad1 cap1)
  clear c0 c1 c2 c3 c4 c5 c6 c7 c8 c9 c10 c11 CCut hwb HBx HOc
  go_upto_region 2 with (refine wpList_store_row rfl 27 _ _ rfl _ #[.int .i64 kind, .int .i64 t, .int .i64 f, .int .u32 s, .int .i64 hops, .int .i64 no, .int .i64 to, .int .i64 index, .int .i64 total, .int .i64 stamp, .int .i64 value, .slice ad1 m cap1] rfl rfl _ _ HBx2.out Hed.infoPk rfl HOc1.out ?_)
  have HB3 : Hid (Below w.heap.size w (w2.setRow w.heap.size #[.int .i64 kind, .int .i64 t, .int .i64 f, .int .u32 s, .int .i64 hops, .int .i64 no, .int .i64 to, .int .i64 index, .int .i64 total, .int .i64 stamp, .int .i64 value, .slice ad1 m cap1])) := Lib.hid (below_setRow (HB0.out.trans (HB2.out.mono HB0.out.size)) (Nat.le_refl _) _)
  have HO3 := Lib.hid (Dat.own_box (V := w2.setRow w.heap.size #[.int .i64 kind, .int .i64 t, .int .i64 f, .int .u32 s, .int .i64 hops, .int .i64 no, .int .i64 to, .int .i64 index, .int .i64 total, .int .i64 stamp, .int .i64 value, .slice ad1 m cap1]) HO2.out (by simp) (fun k hk => setRow_other _ _ _ _ (by omega)))
  clear HBx2 HOc1 HO2 HB2 HB0
  generalize w2.setRow w.heap.size #[.int .i64 kind, .int .i64 t, .int .i64 f, .int .u32 s, .int .i64 hops, .int .i64 no, .int .i64 to, .int .i64 index, .int .i64 total, .int .i64 stamp, .int .i64 value, .slice ad1 m cap1] = W3 at *
  have HZ : Hid (∀ (W : World) (b : Nat), Buf.Blk W b 27 #[.int .i64 kind, .int .i64 t, .int .i64 f, .int .u32 s, .int .i64 hops, .int .i64 no, .int .i64 to, .int .i64 index, .int .i64 total, .int .i64 stamp, .int .i64 value, .slice ad1 m cap1] → _ ∧ _) := Lib.hid (fun W b h => Hed.blk_cells (p := ⟨kind, (t, f, s), hops, no, to, index, total, stamp, value, ad1, cap1, y0⟩) (by unfold Hed.Pk.cells; simp only [HM.out]; exact h))
  simp only [HM.out] at HZ
  have HC : Hid (∀ W, Below W3.heap.size W3 W → _ ∧ _) := Lib.hid (fun W hW => HZ.out W w.heap.size (HBx3.out.below hW))
  have HR : Hid (∀ W, Below W3.heap.size W3 W → Byt.RdB W ad1 y0) := Lib.hid (fun W hW => HO3.out.rd.1.below hW)
  have CG : Hid (∀ W, Below W3.heap.size W3 W → Calls Try.prog 11 #[Hed.pval ⟨kind, (t, f, s), hops, no, to, index, total, stamp, value, ad1, cap1, y0⟩] W fun e w' => e = .returned (.bool (Chu.chuG ⟨kind, (t, f, s), hops, no, to, index, total, stamp, value, ad1, cap1, y0⟩)) ∧ Below W3.heap.size W3 w') := Lib.hid (fun W hW => (Chu.cgood_any ⟨kind, (t, f, s), hops, no, to, index, total, stamp, value, ad1, cap1, y0⟩ W).mono fun e w' h => ⟨h.1, hW.trans (h.2.mono hW.size)⟩)
  have CR : Hid (∀ W, Below W3.heap.size W3 W → Calls Try.prog 12 #[Hed.pval ⟨kind, (t, f, s), hops, no, to, index, total, stamp, value, ad1, cap1, y0⟩] W fun e w' => e = .returned (.bool (Chu.chuG ⟨kind, (t, f, s), hops, no, to, index, total, stamp, value, ad1, cap1, y0⟩)) ∧ Below W3.heap.size W3 w') := Lib.hid (fun W hW => (Chu.rcgood_any ⟨kind, (t, f, s), hops, no, to, index, total, stamp, value, ad1, cap1, y0⟩ W).mono fun e w' h => ⟨h.1, hW.trans (h.2.mono hW.size)⟩)
  have CW : Hid (∀ W, Below W3.heap.size W3 W → Calls Try.prog 13 #[] W fun e w' => e = .returned (.bool true) ∧ Below W3.heap.size W3 w') := Lib.hid (fun W hW => (Chu.cworks_any W).mono fun e w' h => ⟨h.1, hW.trans (h.2.mono hW.size)⟩)
  obtain ⟨gb, hgb⟩ : ∃ gb, Chu.chuG ⟨kind, (t, f, s), hops, no, to, index, total, stamp, value, ad1, cap1, y0⟩ = gb := ⟨_, rfl⟩
  rw [hgb] at CG CR
  cases gb with
  | false =>
    unfold Hed.pval Hed.Pk.cells at CG CR
    simp only [HM.out] at CG CR
    clear hgb HY
    obtain ⟨c0, c1, c2, c3, c4, c5, c6, c7, c8, c9, c10, c11⟩ := HC.out W3 (Below.refl _ _)
    go_wp2_with fail
    refine (CR.out _ (Below.refl _ _)).mono ?_; rintro e w4 ⟨rfl, hB4⟩
    have HB4 := Lib.hid hB4
    clear hB4 c0 c1 c2 c3 c4 c5 c6 c7 c8 c9 c10 c11
    obtain ⟨c0, c1, c2, c3, c4, c5, c6, c7, c8, c9, c10, c11⟩ := HC.out w4 HB4.out
    go_wp2_with fail
    refine (CG.out _ HB4.out).mono ?_; rintro e w5 ⟨rfl, hB5⟩
    have HB5 := Lib.hid hB5
    clear hB5
    go_wp2_with fail
    refine (CW.out _ HB5.out).mono ?_; rintro e w6 ⟨rfl, hB6⟩
    have HB6 := Lib.hid hB6
    clear hB6
    go_wp2_with fail
    go_ret
    exact ⟨rfl, HB3.out.trans (HB6.out.mono HB3.out.size)⟩
  | true =>
    obtain ⟨g1, g2, g3⟩ := Chu.chu_got ⟨kind, (t, f, s), hops, no, to, index, total, stamp, value, ad1, cap1, y0⟩ hgb
    have hlen : (Chu.chuB ⟨kind, (t, f, s), hops, no, to, index, total, stamp, value, ad1, cap1, y0⟩).length ≤ 103 := Chu.chuB_len ⟨kind, (t, f, s), hops, no, to, index, total, stamp, value, ad1, cap1, y0⟩ HY.out
    have HY2 : y0.length ≤ 80 := HY.out
    clear hgb CG
    have CN := Lib.hid (fun W => Buf.new_any 200 (by omega) W)
    have HN : Hid (ad1 = none → cap1 = 0) := Lib.hid HO3.out.pos.2.2.1
    have CP : Hid (∀ W g, Below W3.heap.size W3 W → W3.heap.size ≤ g → Buf.WR W g g (200 : Int).toNat (0, []) none → Calls Try.prog 16 #[.pointer (some ⟨g, 0, none⟩), Hed.pval ⟨kind, (t, f, s), hops, no, to, index, total, stamp, value, ad1, cap1, y0⟩] W (Buf.WPost W g g (200 : Int).toNat none (0, (Chu.chuB ⟨kind, (t, f, s), hops, no, to, index, total, stamp, value, ad1, cap1, y0⟩)))) := Lib.hid (fun W g hW hg h => by
      have := Chu.cput_any ⟨kind, (t, f, s), hops, no, to, index, total, stamp, value, ad1, cap1, y0⟩ g g (200 : Int).toNat (0, []) none W h (by simp only [List.length_nil]; omega) (HR.out W hW) HN.out (fun _ b o e => ⟨by have := (Buf.own_at HO3.out (k := b) (by simp only at e; rw [e]; rfl)).2; omega, by simp⟩)
      rwa [Chu.chu_fits (200 : Int).toNat ⟨kind, (t, f, s), hops, no, to, index, total, stamp, value, ad1, cap1, y0⟩ (by have : (200 : Int).toNat = 200 := rfl; omega)] at this)
    have CD : Hid (∀ W g row, Buf.WR W g g (200 : Int).toNat (0, (Chu.chuB ⟨kind, (t, f, s), hops, no, to, index, total, stamp, value, ad1, cap1, y0⟩)) row → Calls Try.prog 17 #[.pointer (some ⟨g, 0, none⟩)] W (fun e w2 => ∃ ad cap, e = .returned (.tuple #[.slice ad (Chu.chuB ⟨kind, (t, f, s), hops, no, to, index, total, stamp, value, ad1, cap1, y0⟩).length cap, .int .i64 0]) ∧ Hid (Byt.OwnB w2 W.heap.size (.slice ad (Chu.chuB ⟨kind, (t, f, s), hops, no, to, index, total, stamp, value, ad1, cap1, y0⟩).length cap) (Chu.chuB ⟨kind, (t, f, s), hops, no, to, index, total, stamp, value, ad1, cap1, y0⟩)) ∧ Hid (Below W.heap.size W w2))) := Lib.hid (fun W g row h => (Buf.done_any g g (200 : Int).toNat _ row W h (by simp only; omega)).mono fun e w2 hx => by
      obtain ⟨v, rfl, ho, hB⟩ := hx
      simp only [if_true] at ho
      obtain ⟨ad, cap, rfl, _⟩ := Own.shape ho
      exact ⟨ad, cap, rfl, Lib.hid ho, Lib.hid hB⟩)
    have CB : Hid (∀ W, Below W3.heap.size W3 W → Calls Try.prog 18 #[Hed.pval ⟨kind, (t, f, s), hops, no, to, index, total, stamp, value, ad1, cap1, y0⟩] W (Buf.Gives (Chu.chuB ⟨kind, (t, f, s), hops, no, to, index, total, stamp, value, ad1, cap1, y0⟩) W)) := Lib.hid (fun W hW => Chu.rcbytes_any ⟨kind, (t, f, s), hops, no, to, index, total, stamp, value, ad1, cap1, y0⟩ W (by simp only; omega) (HR.out W hW) HN.out)
    have HRm : Hid ((Chu.chuB ⟨kind, (t, f, s), hops, no, to, index, total, stamp, value, ad1, cap1, y0⟩).length ≤ 1000000) := Lib.hid (by omega)
    have CT : Hid (∀ W g, Buf.RR W g (0, (Chu.chuB ⟨kind, (t, f, s), hops, no, to, index, total, stamp, value, ad1, cap1, y0⟩)) → Calls Try.prog 20 #[.pointer (some ⟨g, 0, none⟩), Hed.pval (Chu.headC ⟨kind, (t, f, s), hops, no, to, index, total, stamp, value, ad1, cap1, y0⟩)] W fun e w' => ∃ ad cap, e = .returned (.tuple #[Hed.pval (Pkt.memP (Chu.dP (Chu.headC ⟨kind, (t, f, s), hops, no, to, index, total, stamp, value, ad1, cap1, y0⟩) (Chu.chuB ⟨kind, (t, f, s), hops, no, to, index, total, stamp, value, ad1, cap1, y0⟩)) ad cap), .int .i64 0]) ∧ Hid (Byt.OwnB w' W.heap.size (.slice ad (Chu.dP (Chu.headC ⟨kind, (t, f, s), hops, no, to, index, total, stamp, value, ad1, cap1, y0⟩) (Chu.chuB ⟨kind, (t, f, s), hops, no, to, index, total, stamp, value, ad1, cap1, y0⟩)).body.length cap) (Chu.dP (Chu.headC ⟨kind, (t, f, s), hops, no, to, index, total, stamp, value, ad1, cap1, y0⟩) (Chu.chuB ⟨kind, (t, f, s), hops, no, to, index, total, stamp, value, ad1, cap1, y0⟩)).body) ∧ Hid (Buf.RR w' g (0, [])) ∧ Hid (Buf.RStep W w' g)) := Lib.hid (fun W g h => by
      have := Chu.ucget_ok (Chu.headC ⟨kind, (t, f, s), hops, no, to, index, total, stamp, value, ad1, cap1, y0⟩) g (Chu.chuB ⟨kind, (t, f, s), hops, no, to, index, total, stamp, value, ad1, cap1, y0⟩) W h g1
      rw [g2] at this
      refine this.mono fun e w' hx => ?_
      obtain ⟨ad, cap, rfl, ho, h1, h2⟩ := hx
      exact ⟨ad, cap, rfl, Lib.hid (Own.mono ho.out (by omega)), h1, h2⟩)
    have CS : Hid (∀ W ad cap, Below W3.heap.size W3 W → Byt.RdB W ad (Chu.dP (Chu.headC ⟨kind, (t, f, s), hops, no, to, index, total, stamp, value, ad1, cap1, y0⟩) (Chu.chuB ⟨kind, (t, f, s), hops, no, to, index, total, stamp, value, ad1, cap1, y0⟩)).body → Calls Try.prog 10 #[Hed.pval ⟨kind, (t, f, s), hops, no, to, index, total, stamp, value, ad1, cap1, y0⟩, Hed.pval (Pkt.memP (Chu.dP (Chu.headC ⟨kind, (t, f, s), hops, no, to, index, total, stamp, value, ad1, cap1, y0⟩) (Chu.chuB ⟨kind, (t, f, s), hops, no, to, index, total, stamp, value, ad1, cap1, y0⟩)) ad cap)] W fun e w' => e = .returned (.bool true) ∧ Below W3.heap.size W3 w') := Lib.hid (fun W ad cap hW hr => by
      have := Hed.rsame_any ⟨kind, (t, f, s), hops, no, to, index, total, stamp, value, ad1, cap1, y0⟩ (Pkt.memP (Chu.dP (Chu.headC ⟨kind, (t, f, s), hops, no, to, index, total, stamp, value, ad1, cap1, y0⟩) (Chu.chuB ⟨kind, (t, f, s), hops, no, to, index, total, stamp, value, ad1, cap1, y0⟩)) ad cap) W (HR.out W hW) hr
      rw [g3] at this
      exact this.mono fun e w' h => ⟨h.1, hW.trans (h.2.mono hW.size)⟩)
    have HZ7 : Hid (∀ (W : World) (b : Nat) ad7 cap7, Buf.Blk W b 27 (Hed.Pk.cells (Pkt.memP (Chu.dP (Chu.headC ⟨kind, (t, f, s), hops, no, to, index, total, stamp, value, ad1, cap1, y0⟩) (Chu.chuB ⟨kind, (t, f, s), hops, no, to, index, total, stamp, value, ad1, cap1, y0⟩)) ad7 cap7)) → _ ∧ _) := Lib.hid (fun W b ad7 cap7 h => Hed.blk_cells (p := Pkt.memP (Chu.dP (Chu.headC ⟨kind, (t, f, s), hops, no, to, index, total, stamp, value, ad1, cap1, y0⟩) (Chu.chuB ⟨kind, (t, f, s), hops, no, to, index, total, stamp, value, ad1, cap1, y0⟩)) ad7 cap7) h)
    clear g1 g2 g3 hlen HY HY2
    generalize (Chu.dP (Chu.headC ⟨kind, (t, f, s), hops, no, to, index, total, stamp, value, ad1, cap1, y0⟩) (Chu.chuB ⟨kind, (t, f, s), hops, no, to, index, total, stamp, value, ad1, cap1, y0⟩)) = qF at *
    generalize (Chu.chuB ⟨kind, (t, f, s), hops, no, to, index, total, stamp, value, ad1, cap1, y0⟩) = hb at *
    unfold Chu.headC at CT
    obtain ⟨kind2, ⟨t2, f2, s2⟩, hops2, no2, to2, index2, total2, stamp2, value2, adq, capq, body2⟩ := qF
    unfold Pkt.memP at CT CS HZ7
    unfold Hed.pval Hed.Pk.cells at CR CP CB CT CS
    unfold Hed.Pk.cells at HZ7
    obtain ⟨n2, hn2⟩ : ∃ n2, body2.length = n2 := ⟨_, rfl⟩
    simp only [HM.out, List.length_nil, hn2] at CR CP CB CT CS HZ7
    clear hn2
    obtain ⟨c0, c1, c2, c3, c4, c5, c6, c7, c8, c9, c10, c11⟩ := HC.out W3 (Below.refl _ _)
    go_wp2_with fail
    refine (CR.out _ (Below.refl _ _)).mono ?_; rintro e w4 ⟨rfl, hB4⟩
    have HB4 := Lib.hid hB4
    clear hB4 c0 c1 c2 c3 c4 c5 c6 c7 c8 c9 c10 c11
    go_wp2_with fail
    refine (CN.out _).mono ?_; rintro e w5 ⟨rfl, hr5, hB5, -⟩
    have HB5 := Lib.hid (HB4.out.trans (hB5.mono HB4.out.size))
    have CP5 := Lib.hid (CP.out w5 _ HB5.out HB4.out.size hr5)
    clear hr5 hB5 CP
    obtain ⟨c0, c1, c2, c3, c4, c5, c6, c7, c8, c9, c10, c11⟩ := HC.out w5 HB5.out
    go_wp2_with fail
    refine (CP5.out).mono ?_; rintro e w6 ⟨rfl, row6, hr6, hst6⟩
    have HB6 := Lib.hid (HB5.out.trans (hst6.below.mono HB4.out.size))
    have CD6 := Lib.hid (CD.out w6 _ _ hr6)
    clear hr6 hst6 CP5 CD c0 c1 c2 c3 c4 c5 c6 c7 c8 c9 c10 c11
    go_wp2_with fail
    refine (CD6.out).mono ?_; rintro e w7 ⟨ad4, cap4, rfl, HO7, HB67⟩
    have HB7 := Lib.hid (HB6.out.trans (HB67.out.mono HB6.out.size))
    clear CD6 HB67
    go_upto_region 7 with fail
    obtain ⟨sb, hsb⟩ : ∃ sb, Hid (Byt.strB hb = sb) := ⟨_, Lib.hid rfl⟩
    have HS7 : Hid (∀ W, Below w7.heap.size w7 W → (W.cell? ⟨w.heap.size, 0, none⟩ = some (.int .i64 kind) ∧ W.cell? ⟨w.heap.size, 1, none⟩ = some (.int .i64 t) ∧ W.cell? ⟨w.heap.size, 2, none⟩ = some (.int .i64 f) ∧ W.cell? ⟨w.heap.size, 3, none⟩ = some (.int .u32 s) ∧ W.cell? ⟨w.heap.size, 4, none⟩ = some (.int .i64 hops) ∧ W.cell? ⟨w.heap.size, 5, none⟩ = some (.int .i64 no) ∧ W.cell? ⟨w.heap.size, 6, none⟩ = some (.int .i64 to) ∧ W.cell? ⟨w.heap.size, 7, none⟩ = some (.int .i64 index) ∧ W.cell? ⟨w.heap.size, 8, none⟩ = some (.int .i64 total) ∧ W.cell? ⟨w.heap.size, 9, none⟩ = some (.int .i64 stamp) ∧ W.cell? ⟨w.heap.size, 10, none⟩ = some (.int .i64 value) ∧ W.cell? ⟨w.heap.size, 11, none⟩ = some (.slice ad1 m cap1)) ∧ (convert 25 9 (.slice ad4 hb.length cap4)).run Try.prog W = .ok (.string sb) W) := Lib.hid (fun W hW => ⟨HC.out W (HB7.out.trans (hW.mono HB7.out.size)), by rw [← hsb.out]; exact HO7.out.str hW⟩)
    have CBt : Hid (∀ W, Below w7.heap.size w7 W → Calls Try.prog 18 #[.agg #[.int .i64 kind, .int .i64 t, .int .i64 f, .int .u32 s, .int .i64 hops, .int .i64 no, .int .i64 to, .int .i64 index, .int .i64 total, .int .i64 stamp, .int .i64 value, .slice ad1 m cap1]] W fun e w' => ∃ ad5 cap5, e = .returned (.slice ad5 hb.length cap5) ∧ Below w7.heap.size w7 w' ∧ ∀ V, Below w'.heap.size w' V → (convert 25 9 (.slice ad5 hb.length cap5)).run Try.prog V = .ok (.string sb) V) := Lib.hid (fun W hW => (CB.out W (HB7.out.trans (hW.mono HB7.out.size))).mono fun e w' hx => by
      obtain ⟨ad5, cap5, rfl, ho, hB⟩ := hx
      exact ⟨ad5, cap5, rfl, hW.trans (hB.mono hW.size), fun V hV => by rw [← hsb.out]; exact ho.str hV⟩)
    have hnn : (sb == sb) = true := by rw [beq_toListBytes]; simp
    have hnn2 : (sb != sb) = false := by simp [bne, hnn]
    clear CB hsb
    obtain ⟨⟨c0, c1, c2, c3, c4, c5, c6, c7, c8, c9, c10, c11⟩, v0⟩ := HS7.out w7 (Below.refl _ _)
    refine wp_region_noPanic ?_
    go_region_held_law (fun W => Below w7.heap.size w7 W ∧ (W.cell? ⟨w.heap.size, 0, none⟩ = some (.int .i64 kind) ∧ W.cell? ⟨w.heap.size, 1, none⟩ = some (.int .i64 t) ∧ W.cell? ⟨w.heap.size, 2, none⟩ = some (.int .i64 f) ∧ W.cell? ⟨w.heap.size, 3, none⟩ = some (.int .u32 s) ∧ W.cell? ⟨w.heap.size, 4, none⟩ = some (.int .i64 hops) ∧ W.cell? ⟨w.heap.size, 5, none⟩ = some (.int .i64 no) ∧ W.cell? ⟨w.heap.size, 6, none⟩ = some (.int .i64 to) ∧ W.cell? ⟨w.heap.size, 7, none⟩ = some (.int .i64 index) ∧ W.cell? ⟨w.heap.size, 8, none⟩ = some (.int .i64 total) ∧ W.cell? ⟨w.heap.size, 9, none⟩ = some (.int .i64 stamp) ∧ W.cell? ⟨w.heap.size, 10, none⟩ = some (.int .i64 value) ∧ W.cell? ⟨w.heap.size, 11, none⟩ = some (.slice ad1 m cap1)) ∧ (convert 25 9 (.slice ad4 hb.length cap4)).run Try.prog W = .ok (.string sb) W) ((refine ⟨?_, HS7.out _ ?_⟩ <;> (first | assumption | exact (Below.refl _ _) | exact (Below.refl _ _).drew)))
      (first
        | (go_at_call 18; (with_reducible refine (CBt.out _ ?_).mono ?_); (focus (first | assumption | exact (Below.refl _ _) | exact (Below.refl _ _).drew | exact (‹Below w7.heap.size w7 _ ∧ _›).1)); rintro e w8 ⟨ad5, cap5, rfl, hB8, hc8⟩; have hc8 := hc8 w8 (Below.refl _ _)))
    all_goals
      refine NoPanic.normal ?_
      have hW8 := (‹Below w7.heap.size w7 w8 ∧ _›).1
      have HB8 := Lib.hid (HB7.out.trans (hW8.mono HB7.out.size))
      have CRd := Lib.hid (Buf.read_any ad4 hb.length cap4 hb w8 rfl HRm.out (HO7.out.rd.1.below hW8) HO7.out.pos.2.2.1)
      clear c0 c1 c2 c3 c4 c5 c6 c7 c8 c9 c10 c11 v0 hc8 hW8 HS7 CBt
      go_wp2_with fail
      refine (CRd.out).mono ?_; rintro e w9 ⟨g2, rfl, hr9, hB9, hge9, -⟩
      have HG := Lib.hid (Nat.le_trans HB8.out.size hge9)
      have HB9 := Lib.hid (HB8.out.trans (hB9.mono HB8.out.size))
      have CT9 := Lib.hid (CT.out w9 g2 hr9)
      clear hr9 hB9 hge9 CRd CT
      obtain ⟨c0, c1, c2, c3, c4, c5, c6, c7, c8, c9, c10, c11⟩ := HC.out w9 HB9.out
      go_wp2_with fail
      refine (CT9.out).mono ?_; rintro e w10 ⟨ad7, cap7, rfl, HO10, HR10, HS10⟩
      have HB10 := Lib.hid (HB9.out.trans (HS10.out.below.mono HG.out))
      clear c0 c1 c2 c3 c4 c5 c6 c7 c8 c9 c10 c11 CT9 HS10
      go_upto_region 11 with fail
      obtain ⟨W11, hW11⟩ : ∃ W11, Hid (W11 = w10.alloc (.cells #[.int .i64 kind2, .int .i64 t2, .int .i64 f2, .int .u32 s2, .int .i64 hops2, .int .i64 no2, .int .i64 to2, .int .i64 index2, .int .i64 total2, .int .i64 stamp2, .int .i64 value2, .slice ad7 n2 cap7] 27)) := ⟨_, Lib.hid rfl⟩
      rw [← hW11.out]
      have hX := Hed.one_box w10 W11 _ _ hW11.out
      have HB11 := Lib.hid (HB10.out.trans (hX.1.mono HB10.out.size))
      have he := HZ7.out W11 _ ad7 cap7 hX.2
      have CE := Lib.hid (Buf.end_any g2 (0, []) W11 (HR10.out.kept hX.1))
      rw [if_pos rfl] at CE
      have CS11 := Lib.hid (CS.out W11 ad7 cap7 HB11.out (HO10.out.rd.1.below hX.1))
      obtain ⟨e0, e1, e2, e3, e4, e5, e6, e7, e8, e9, e10, e11⟩ := he
      obtain ⟨c0, c1, c2, c3, c4, c5, c6, c7, c8, c9, c10, c11⟩ := HC.out W11 HB11.out
      clear hX hW11 HR10 HO10
      go_wp2_with fail
      refine (CE.out).mono ?_; rintro e w' ⟨rfl, rfl⟩
      go_wp2_with fail
      refine (CS11.out).mono ?_; rintro e w12 ⟨rfl, hB12⟩
      have HB12 := Lib.hid hB12
      clear hB12
      go_wp2_with fail
      refine (CW.out _ HB12.out).mono ?_; rintro e w13 ⟨rfl, hB13⟩
      have HB13 := Lib.hid hB13
      clear hB13
      go_wp2_with fail
      go_ret
      exact ⟨rfl, HB3.out.trans (HB13.out.mono HB3.out.size)⟩

set_option maxRecDepth 100000 in
theorem lifted (os : Os) (started : os.Started) (H : Type) (enc : TypeId × Value → H) :
    ReturnsInHanded {} Try.checked os 5 .any (Rows.chunkPutsSpec.pre6 enc Try.prog Try.f5 Rows.chunkPutsRow.domain false) (Rows.chunkPutsSpec.post enc Try.prog Try.f5 false true false false) := by
  refine returnsInHanded_of_change (C := Try.checked) own started (by kernel_rfl) Try.func5
    (ChangeSpec.witness6 (enc := enc) (C := Try.checked) false ⟨#[], #[.agg #[.int .i64 0, .int .i64 0, .int .i64 0, .int .u32 0, .int .i64 0, .int .i64 0, .int .i64 0, .int .i64 0, .int .i64 0, .int .i64 0, .int .i64 0, .slice none 0 0]], []⟩ 8 (by kernel_rfl) (by kernel_rfl) (by kernel_rfl) (by kernel_rfl)) ?_
  intro W base args ds gs before hval0 hW hcnd _
  have hval : ∀ (j : Nat) t v, Try.f5.params[j]? = some t → args[j]? = some v → Value.okWide Try.prog W .any base t v := hval0
  have hW' := hW
  obtain ⟨p, q, hA0, hV, rfl, hfz, hnd⟩ := hW
  have hA : DataW.TrodAll enc Try.prog W 0 (fun _ => true) true Try.f5.params.toList args.toList ds p := hA0
  rw [Try.params5] at hA hval
  obtain ⟨v0, vs0, d0, ds0, p0, q0, hargs, rfl, rfl, h0, r0⟩ := trodAll_cons hA
  obtain ⟨rfl, rfl, rfl⟩ := trodAll_nil r0
  obtain rfl : args = #[v0] := by cases args; simp_all
  obtain ⟨rfl, rfl⟩ := trodVars_none hV
  have k0 := h0
  have lt0 : ∀ x ∈ p0, x.block < W.heap.size := by obtain ⟨m, hm⟩ := k0; exact DataW.trod_lt m _ _ _ hm
  obtain ⟨a0, rfl, w0⟩ := Hed.open_pk (hval 0 27 v0 rfl rfl) h0
  clear hA0 hval0
  refine (walk a0 W w0).mono fun e W' ⟨he, bel⟩ => ?_
  subst he
  exact ⟨_, rfl, _, _, _, [], _, [], hW', trodAll_mk1 (shut_bool Try.underlying4 _), (trodAll_cons_mk (Below.trod laidOut (by kernel_rfl) (of_decide_eq_true (by kernel_rfl)) k0 bel lt0) trodAll_mk0), rfl, bel.frame _, fun h => by cases h⟩

theorem over : Rows.chunkPutsRow.holds Try.pinned (OpenSpec.ofChange Rows.chunkPutsSpec) :=
  OpenClaim.holds_of_wide 5 Try.f5 rfl rfl rfl rfl rfl rfl rfl ⟨rfl, rfl, rfl, rfl, rfl⟩ rfl rfl rfl rfl rfl (by kernel_rfl) Try.func5 (by kernel_rfl)
    (of_decide_eq_true (by kernel_rfl)) (by unfold Func.isWrapper; first | (rw [if_pos (by decide +kernel)]; kernel_rfl) | (rw [if_neg (by decide +kernel)]; exact ⟨rfl, rfl⟩))
    (fun os started H enc _ => lifted os started H enc)

theorem proved : Rows.ChunkPutsSaid := over
#print axioms proved
end Go.Proofs.Ytidfdlpdacbkoaa.lawChunkPuts
