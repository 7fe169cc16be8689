/- Get (layer 13), at any reader. -/
import Derived.Test.YtidfdlpdacbkoaaChuG
namespace Go.Proofs.Ytidfdlpdacbkoaa.Chu
open Go.ChangeShapes Go.WideShapes Go.ChangeAt Go.RowKit Go.Deep
open Go.Proofs.Ytidfdlpdacbkoaa.Byt Go.Proofs.Ytidfdlpdacbkoaa.Key Go.Proofs.Ytidfdlpdacbkoaa.Buf Go.Proofs.Ytidfdlpdacbkoaa.Hed Go.Proofs.Ytidfdlpdacbkoaa.Dat Go.Proofs.Ytidfdlpdacbkoaa.BufM Go.Proofs.Ytidfdlpdacbkoaa.Pkt
set_option linter.unusedVariables false
set_option linter.unusedSimpArgs false
/-- What Get leaves. -/
def CGot (w : World) (g : Nat) (P : Pk) (R : Int × St) (en : Ending) (w' : World) : Prop :=
  Hid (RStep w w' g) ∧ (R.1 ≠ 0 → en = .returned (.tuple #[pval zero, .int .i64 R.1])) ∧ (R.1 = 0 → ∃ ad cap, en = .returned (.tuple #[pval (memP P ad cap), .int .i64 0]) ∧ Hid (OwnB w' (w.heap.size + 2) (.slice ad P.body.length cap) P.body) ∧ Hid (RR w' g R.2))
set_option maxRecDepth 100000 in
set_option maxHeartbeats 2000000 in
theorem cget_any (p : Pk) (g : Nat) (s : St) (w : World) (h : RR w g s) :
    Calls Try.prog 20 #[.pointer (some ⟨g, 0, none⟩), pval p] w (CGot w g (chF p s) (cfR s)) := by
  obtain ⟨W1, hW1⟩ : ∃ W1, Hid (W1 = (w.alloc (.cells p.cells 27)).alloc (.cells (Pk.cells zero) 27)) := ⟨_, Lib.hid rfl⟩
  have H1 := Lib.hid (G2.start h _ _ hW1.out)
  have hs1 : W1.heap.size = w.heap.size + 2 := by rw [hW1.out]; simp
  have HF : Hid (Calls Try.prog 36 #[.pointer (some ⟨g, 0, none⟩), pval p] W1 fun e w' => ∃ p', e = .returned (.tuple #[pval p', .int .i64 (cfR s).1]) ∧ Hid ((cfR s).1 = 0 → ∃ ad cap, p' = memP (chF p s) ad cap ∧ OwnB w' (w.heap.size + 2) (.slice ad (chF p s).body.length cap) (chF p s).body) ∧ Hid (G2 w g p.cells (Pk.cells zero) (cfR s).2 w')) := Lib.hid ((cfill_any p g s W1 H1.out.rr).mono fun e w' hp => by
    obtain ⟨p', rfl, h1, h2, h3⟩ := hp
    refine ⟨p', rfl, Lib.hid fun h0 => ?_, Lib.hid (H1.out.go h2.out h3.out)⟩
    obtain ⟨ad, cap, e1, e2⟩ := h1.out h0
    exact ⟨ad, cap, e1, Own.mono e2 (by omega)⟩)
  have HA : Hid (∀ (W : World) cs ds s', G2 w g cs ds s' W → W.cell? ⟨w.heap.size, 0, none⟩ = cs[0]?) := Lib.hid (fun W cs ds s' hg => hg.box.cell 0)
  have HBad : Hid (∀ W cs ds, (cfR s).1 ≠ 0 → G2 w g cs ds (cfR s).2 W → CGot w g (chF p s) (cfR s) (.returned (.tuple #[pval zero, .int .i64 (cfR s).1])) W) := Lib.hid (fun W cs ds h0 hg => ⟨Lib.hid hg.step, fun _ => rfl, fun h1 => absurd h1 h0⟩)
  have HGood : Hid (∀ W cs ds ad cap, (cfR s).1 = 0 → OwnB W (w.heap.size + 2) (.slice ad (chF p s).body.length cap) (chF p s).body → G2 w g cs ds (cfR s).2 W → CGot w g (chF p s) (cfR s) (.returned (.tuple #[pval (memP (chF p s) ad cap), .int .i64 0])) W) := Lib.hid (fun W cs ds ad cap h0 ho hg => ⟨Lib.hid hg.step, fun h1 => absurd h0 h1, fun _ => ⟨ad, cap, rfl, Lib.hid ho, Lib.hid hg.rr⟩⟩)
  generalize chF p s = P at *
  generalize cfR s = R at *
  obtain ⟨er, s2⟩ := R
  simp only at HF HBad HGood
  generalize CGot w g P (er, s2) = Fin at *
  obtain ⟨kind, ⟨t, f, q⟩, hops, no, to, index, total, stamp, value, ad, cap, body⟩ := p
  have H1c := Lib.hid H1.out
  unfold Pk.cells zero at hW1 H1c
  unfold pval Pk.cells zero at HBad
  unfold pval Pk.cells zero at HF
  unfold pval Pk.cells
  simp only [List.length_nil] at hW1 HBad HF H1c ⊢
  obtain ⟨n, hn⟩ : ∃ n, body.length = n := ⟨_, rfl⟩
  simp only [hn] at hW1 HF H1c ⊢
  clear hn hs1 h H1 HA
  obtain ⟨⟨c0, c1, c2, c3, c4, c5, c6, c7, c8, c9, c10, c11⟩, f0, f1, f2, f3, f4, f5, f6, f7, f8, f9, f10, f11⟩ := g2_all12 H1c.out
  clear H1c f0 f1 f2 f3 f4 f5 f6 f7 f8 f9 f10 f11
  by_cases he : er = 0
  case neg =>
    have hne : (er != 0) = true := by simpa using he
    have HBad := Lib.hid (fun W cs ds hg => HBad.out W cs ds he hg)
    clear he HGood
    go_enter Try.func20, Try.ntmps20
    go_upto_region 1 with fail
    rw [← hW1.out]
    clear hW1
    go_wp2_with fail
    refine (HF.out).mono ?_; rintro e w2 ⟨p', rfl, -, H2⟩
    clear c0 c1 c2 c3 c4 c5 c6 c7 c8 c9 c10 c11 HF
    obtain ⟨kind2, ⟨t2, f2, q2⟩, hops2, no2, to2, index2, total2, stamp2, value2, ad2, cap2, body2⟩ := p'
    obtain ⟨n2, hn2⟩ : ∃ n2, body2.length = n2 := ⟨_, rfl⟩
    simp only [hn2]
    clear hn2
    have b1 := Lib.hid H2.out.box
    have H3 := Lib.hid (g2_brow H2.out #[.int .i64 kind2, .int .i64 t2, .int .i64 f2, .int .u32 q2, .int .i64 hops2, .int .i64 no2, .int .i64 to2, .int .i64 index2, .int .i64 total2, .int .i64 stamp2, .int .i64 value2, .slice ad2 n2 cap2] rfl)
    have O := Lib.hid (row_one kind2 t2 f2 q2 hops2 no2 to2 index2 total2 stamp2 value2 ad2 n2 cap2)
    clear H2
    go_upto_region 2 with (refine wpList_store_row rfl 27 _ _ rfl _ #[.int .i64 kind2, .int .i64 t2, .int .i64 f2, .int .u32 q2, .int .i64 hops2, .int .i64 no2, .int .i64 to2, .int .i64 index2, .int .i64 total2, .int .i64 stamp2, .int .i64 value2, .slice ad2 n2 cap2] rfl rfl _ _ b1.out infoPk rfl O.out ?_)
    generalize w2.setRow w.heap.size #[.int .i64 kind2, .int .i64 t2, .int .i64 f2, .int .u32 q2, .int .i64 hops2, .int .i64 no2, .int .i64 to2, .int .i64 index2, .int .i64 total2, .int .i64 stamp2, .int .i64 value2, .slice ad2 n2 cap2] = w3 at *
    have b2 := Lib.hid H3.out.res
    have H4 := Lib.hid (H3.out.row #[.int .i64 0, .int .i64 0, .int .i64 0, .int .u32 0, .int .i64 0, .int .i64 0, .int .i64 0, .int .i64 0, .int .i64 0, .int .i64 0, .int .i64 0, .slice none 0 0] rfl)
    have b4 := Lib.hid H4.out.res
    have hF := Lib.hid (HBad.out _ _ _ H4.out)
    have HO := Lib.hid zeroP_one
    unfold zero Pk.cells at HO
    simp only [List.length_nil] at HO
    clear b1 O H3 H4 HBad
    go_wp2_with (refine wpList_store_row rfl 27 _ _ rfl _ #[.int .i64 0, .int .i64 0, .int .i64 0, .int .u32 0, .int .i64 0, .int .i64 0, .int .i64 0, .int .i64 0, .int .i64 0, .int .i64 0, .int .i64 0, .slice none 0 0] rfl rfl _ _ b2.out infoPk rfl HO.out ?_)
    exact bodyPost_ret (results_pk2 rfl _ _ (w.heap.size + 1) _ (.int .i64 er) rfl rfl b4.out rfl) rfl hF.out
  case pos =>
    subst he
    clear HBad
    go_enter Try.func20, Try.ntmps20
    go_upto_region 1 with fail
    rw [← hW1.out]
    clear hW1
    go_wp2_with fail
    refine (HF.out).mono ?_; rintro e w2 ⟨p', rfl, hp', H2⟩
    obtain ⟨ad2, cap2, rfl, ho⟩ := hp'.out (by simp)
    have HO2 := Lib.hid ho
    clear c0 c1 c2 c3 c4 c5 c6 c7 c8 c9 c10 c11 HF hp' ho
    obtain ⟨kind2, ⟨t2, f2, q2⟩, hops2, no2, to2, index2, total2, stamp2, value2, adx, capx, body2⟩ := P
    unfold memP pval Pk.cells at HGood
    unfold memP
    simp only at HGood HO2 ⊢
    obtain ⟨n2, hn2⟩ : ∃ n2, body2.length = n2 := ⟨_, rfl⟩
    simp only [hn2] at HGood HO2 ⊢
    clear hn2
    have b1 := Lib.hid H2.out.box
    have H3 := Lib.hid (g2_brow H2.out #[.int .i64 kind2, .int .i64 t2, .int .i64 f2, .int .u32 q2, .int .i64 hops2, .int .i64 no2, .int .i64 to2, .int .i64 index2, .int .i64 total2, .int .i64 stamp2, .int .i64 value2, .slice ad2 n2 cap2] rfl)
    have O := Lib.hid (row_one kind2 t2 f2 q2 hops2 no2 to2 index2 total2 stamp2 value2 ad2 n2 cap2)
    have HO3 := Lib.hid (own_box (V := w2.setRow w.heap.size #[.int .i64 kind2, .int .i64 t2, .int .i64 f2, .int .u32 q2, .int .i64 hops2, .int .i64 no2, .int .i64 to2, .int .i64 index2, .int .i64 total2, .int .i64 stamp2, .int .i64 value2, .slice ad2 n2 cap2]) HO2.out (by simp) (fun k hk => setRow_other _ _ _ _ (by omega)))
    clear H2 HO2
    go_upto_region 2 with (refine wpList_store_row rfl 27 _ _ rfl _ #[.int .i64 kind2, .int .i64 t2, .int .i64 f2, .int .u32 q2, .int .i64 hops2, .int .i64 no2, .int .i64 to2, .int .i64 index2, .int .i64 total2, .int .i64 stamp2, .int .i64 value2, .slice ad2 n2 cap2] rfl rfl _ _ b1.out infoPk rfl O.out ?_)
    generalize w2.setRow w.heap.size #[.int .i64 kind2, .int .i64 t2, .int .i64 f2, .int .u32 q2, .int .i64 hops2, .int .i64 no2, .int .i64 to2, .int .i64 index2, .int .i64 total2, .int .i64 stamp2, .int .i64 value2, .slice ad2 n2 cap2] = w3 at *
    have b3 := Lib.hid H3.out.box
    have b2 := Lib.hid H3.out.res
    have H4 := Lib.hid (H3.out.row #[.int .i64 kind2, .int .i64 t2, .int .i64 f2, .int .u32 q2, .int .i64 hops2, .int .i64 no2, .int .i64 to2, .int .i64 index2, .int .i64 total2, .int .i64 stamp2, .int .i64 value2, .slice ad2 n2 cap2] rfl)
    have b4 := Lib.hid H4.out.res
    have HO4 := Lib.hid (own_box (V := w3.setRow (w.heap.size + 1) #[.int .i64 kind2, .int .i64 t2, .int .i64 f2, .int .u32 q2, .int .i64 hops2, .int .i64 no2, .int .i64 to2, .int .i64 index2, .int .i64 total2, .int .i64 stamp2, .int .i64 value2, .slice ad2 n2 cap2]) HO3.out (by simp) (fun k hk => setRow_other _ _ _ _ (by omega)))
    have hF := Lib.hid (HGood.out _ _ _ ad2 cap2 (by simp) HO4.out H4.out)
    clear b1 H3 H4 HGood HO3 HO4
    go_wp2_with (first
      | (refine wpList_load_row rfl 27 _ rfl _ rfl _ #[.int .i64 kind2, .int .i64 t2, .int .i64 f2, .int .u32 q2, .int .i64 hops2, .int .i64 no2, .int .i64 to2, .int .i64 index2, .int .i64 total2, .int .i64 stamp2, .int .i64 value2, .slice ad2 n2 cap2] _ _ b3.out Try.underlying27 rfl infoPk ?_)
      | (refine wpList_store_row rfl 27 _ _ rfl _ #[.int .i64 kind2, .int .i64 t2, .int .i64 f2, .int .u32 q2, .int .i64 hops2, .int .i64 no2, .int .i64 to2, .int .i64 index2, .int .i64 total2, .int .i64 stamp2, .int .i64 value2, .slice ad2 n2 cap2] rfl rfl _ _ b2.out infoPk rfl O.out ?_))
    exact bodyPost_ret (results_pk2 rfl _ _ (w.heap.size + 1) _ (.int .i64 0) rfl rfl b4.out rfl) rfl hF.out
end Go.Proofs.Ytidfdlpdacbkoaa.Chu
