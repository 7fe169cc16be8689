/- ChuT ChuN ChuU ChuS, laid into one. -/
import Derived.Test.YtanfnhgaooafeaaGreatDoorChuG
import Derived.Test.YtanfnhgaooafeaaGreatDoorChuR
import Derived.Test.YtanfnhgaooafeaaGreatDoorChuX
import Derived.Test.YtanfnhgaooafeaaGreatDoorHedY
import Derived.Test.YtanfnhgaooafeaaGreatDoorDatZ
import Derived.Test.YtanfnhgaooafeaaGreatDoorBufX
import Derived.Deep.RegionHeldLaw
/-! ChuT -/
namespace Go.Proofs.YtanfnhgaooafeaaGreatDoor.Chu
open Go.ChangeShapes Go.WideShapes Go.ChangeAt Go.RowKit Go.Deep
open Go.Proofs.YtanfnhgaooafeaaGreatDoor.Byt Go.Proofs.YtanfnhgaooafeaaGreatDoor.Key Go.Proofs.YtanfnhgaooafeaaGreatDoor.Buf Go.Proofs.YtanfnhgaooafeaaGreatDoor.Hed Go.Proofs.YtanfnhgaooafeaaGreatDoor.Dat Go.Proofs.YtanfnhgaooafeaaGreatDoor.BufM Go.Proofs.YtanfnhgaooafeaaGreatDoor.Pkt
set_option linter.unusedVariables false
set_option linter.unusedSimpArgs false
/-- What Get leaves. -/
def CGot (w : World) (g : Nat) (P : Pk) (R : Int × St) (en : Ending) (w' : World) : Prop :=
  Hid (RStep w w' g) ∧ (R.1 ≠ 0 → en = .returned (.tuple #[pval zero, .int .i64 R.1])) ∧ (R.1 = 0 → ∃ ad cap, en = .returned (.tuple #[pval (memP P ad cap), .int .i64 0]) ∧ Hid (OwnB w' (w.heap.size + 2) (.slice ad P.body.length cap) P.body) ∧ Hid (RR w' g R.2))
set_option maxRecDepth 100000 in
set_option maxHeartbeats 2000000 in
theorem cget_any (p : Pk) (g : Nat) (s : St) (w : World) (h : RR w g s) :
    Calls Tryz.prog 42 #[.pointer (some ⟨g, 0, none⟩), pval p] w (CGot w g (chF p s) (cfR s)) := by
  obtain ⟨W1, hW1⟩ : ∃ W1, Hid (W1 = (w.alloc (.cells p.cells 27)).alloc (.cells (Pk.cells zero) 27)) := ⟨_, Lib.hid rfl⟩
  have H1 := Lib.hid (G2.start h _ _ hW1.out)
  have hs1 : W1.heap.size = w.heap.size + 2 := by rw [hW1.out]; simp
  have HF : Hid (Calls Tryz.prog 79 #[.pointer (some ⟨g, 0, none⟩), pval p] W1 fun e w' => ∃ p', e = .returned (.tuple #[pval p', .int .i64 (cfR s).1]) ∧ Hid ((cfR s).1 = 0 → ∃ ad cap, p' = memP (chF p s) ad cap ∧ OwnB w' (w.heap.size + 2) (.slice ad (chF p s).body.length cap) (chF p s).body) ∧ Hid (G2 w g p.cells (Pk.cells zero) (cfR s).2 w')) := Lib.hid ((cfill_any p g s W1 H1.out.rr).mono fun e w' hp => by
    obtain ⟨p', rfl, h1, h2, h3⟩ := hp
    refine ⟨p', rfl, Lib.hid fun h0 => ?_, Lib.hid (H1.out.go h2.out h3.out)⟩
    obtain ⟨ad, cap, e1, e2⟩ := h1.out h0
    exact ⟨ad, cap, e1, Own.mono e2 (by omega)⟩)
  have HA : Hid (∀ (W : World) cs ds s', G2 w g cs ds s' W → W.cell? ⟨w.heap.size, 0, none⟩ = cs[0]?) := Lib.hid (fun W cs ds s' hg => hg.box.cell 0)
  have HBad : Hid (∀ W cs ds, (cfR s).1 ≠ 0 → G2 w g cs ds (cfR s).2 W → CGot w g (chF p s) (cfR s) (.returned (.tuple #[pval zero, .int .i64 (cfR s).1])) W) := Lib.hid (fun W cs ds h0 hg => ⟨Lib.hid hg.step, fun _ => rfl, fun h1 => absurd h1 h0⟩)
  have HGood : Hid (∀ W cs ds ad cap, (cfR s).1 = 0 → OwnB W (w.heap.size + 2) (.slice ad (chF p s).body.length cap) (chF p s).body → G2 w g cs ds (cfR s).2 W → CGot w g (chF p s) (cfR s) (.returned (.tuple #[pval (memP (chF p s) ad cap), .int .i64 0])) W) := Lib.hid (fun W cs ds ad cap h0 ho hg => ⟨Lib.hid hg.step, fun h1 => absurd h0 h1, fun _ => ⟨ad, cap, rfl, Lib.hid ho, Lib.hid hg.rr⟩⟩)
  generalize chF p s = P at *
  generalize cfR s = R at *
  obtain ⟨er, s2⟩ := R
  simp only at HF HBad HGood
  generalize CGot w g P (er, s2) = Fin at *
  obtain ⟨kind, ⟨t, f, q⟩, hops, no, to, index, total, stamp, value, ad, cap, body⟩ := p
  have H1c := Lib.hid H1.out
  unfold Pk.cells zero at hW1 H1c
  unfold pval Pk.cells zero at HBad
  unfold pval Pk.cells zero at HF
  unfold pval Pk.cells
  simp only [List.length_nil] at hW1 HBad HF H1c ⊢
  obtain ⟨n, hn⟩ : ∃ n, body.length = n := ⟨_, rfl⟩
  simp only [hn] at hW1 HF H1c ⊢
  clear hn hs1 h H1 HA
  obtain ⟨⟨c0, c1, c2, c3, c4, c5, c6, c7, c8, c9, c10, c11⟩, f0, f1, f2, f3, f4, f5, f6, f7, f8, f9, f10, f11⟩ := g2_all12 H1c.out
  clear H1c f0 f1 f2 f3 f4 f5 f6 f7 f8 f9 f10 f11
  by_cases he : er = 0
  case neg =>
    have hne : (er != 0) = true := by simpa using he
    have HBad := Lib.hid (fun W cs ds hg => HBad.out W cs ds he hg)
    clear he HGood
    go_enter Tryz.func42, Tryz.ntmps42
    go_upto_region 1 with fail
    rw [← hW1.out]
    clear hW1
    go_wp2_with fail
    refine (HF.out).mono ?_; rintro e w2 ⟨p', rfl, -, H2⟩
    clear c0 c1 c2 c3 c4 c5 c6 c7 c8 c9 c10 c11 HF
    obtain ⟨kind2, ⟨t2, f2, q2⟩, hops2, no2, to2, index2, total2, stamp2, value2, ad2, cap2, body2⟩ := p'
    obtain ⟨n2, hn2⟩ : ∃ n2, body2.length = n2 := ⟨_, rfl⟩
    simp only [hn2]
    clear hn2
    have b1 := Lib.hid H2.out.box
    have H3 := Lib.hid (g2_brow H2.out #[.int .i64 kind2, .int .i64 t2, .int .i64 f2, .int .u32 q2, .int .i64 hops2, .int .i64 no2, .int .i64 to2, .int .i64 index2, .int .i64 total2, .int .i64 stamp2, .int .i64 value2, .slice ad2 n2 cap2] rfl)
    have O := Lib.hid (row_one kind2 t2 f2 q2 hops2 no2 to2 index2 total2 stamp2 value2 ad2 n2 cap2)
    clear H2
    go_upto_region 2 with (refine wpList_store_row rfl 27 _ _ rfl _ #[.int .i64 kind2, .int .i64 t2, .int .i64 f2, .int .u32 q2, .int .i64 hops2, .int .i64 no2, .int .i64 to2, .int .i64 index2, .int .i64 total2, .int .i64 stamp2, .int .i64 value2, .slice ad2 n2 cap2] rfl rfl _ _ b1.out infoPk rfl O.out ?_)
    generalize w2.setRow w.heap.size #[.int .i64 kind2, .int .i64 t2, .int .i64 f2, .int .u32 q2, .int .i64 hops2, .int .i64 no2, .int .i64 to2, .int .i64 index2, .int .i64 total2, .int .i64 stamp2, .int .i64 value2, .slice ad2 n2 cap2] = w3 at *
    have b2 := Lib.hid H3.out.res
    have H4 := Lib.hid (H3.out.row #[.int .i64 0, .int .i64 0, .int .i64 0, .int .u32 0, .int .i64 0, .int .i64 0, .int .i64 0, .int .i64 0, .int .i64 0, .int .i64 0, .int .i64 0, .slice none 0 0] rfl)
    have b4 := Lib.hid H4.out.res
    have hF := Lib.hid (HBad.out _ _ _ H4.out)
    have HO := Lib.hid zeroP_one
    unfold zero Pk.cells at HO
    simp only [List.length_nil] at HO
    clear b1 O H3 H4 HBad
    go_wp2_with (refine wpList_store_row rfl 27 _ _ rfl _ #[.int .i64 0, .int .i64 0, .int .i64 0, .int .u32 0, .int .i64 0, .int .i64 0, .int .i64 0, .int .i64 0, .int .i64 0, .int .i64 0, .int .i64 0, .slice none 0 0] rfl rfl _ _ b2.out infoPk rfl HO.out ?_)
    exact bodyPost_ret (results_pk2 rfl _ _ (w.heap.size + 1) _ (.int .i64 er) rfl rfl b4.out rfl) rfl hF.out
  case pos =>
    subst he
    clear HBad
    go_enter Tryz.func42, Tryz.ntmps42
    go_upto_region 1 with fail
    rw [← hW1.out]
    clear hW1
    go_wp2_with fail
    refine (HF.out).mono ?_; rintro e w2 ⟨p', rfl, hp', H2⟩
    obtain ⟨ad2, cap2, rfl, ho⟩ := hp'.out (by simp)
    have HO2 := Lib.hid ho
    clear c0 c1 c2 c3 c4 c5 c6 c7 c8 c9 c10 c11 HF hp' ho
    obtain ⟨kind2, ⟨t2, f2, q2⟩, hops2, no2, to2, index2, total2, stamp2, value2, adx, capx, body2⟩ := P
    unfold memP pval Pk.cells at HGood
    unfold memP
    simp only at HGood HO2 ⊢
    obtain ⟨n2, hn2⟩ : ∃ n2, body2.length = n2 := ⟨_, rfl⟩
    simp only [hn2] at HGood HO2 ⊢
    clear hn2
    have b1 := Lib.hid H2.out.box
    have H3 := Lib.hid (g2_brow H2.out #[.int .i64 kind2, .int .i64 t2, .int .i64 f2, .int .u32 q2, .int .i64 hops2, .int .i64 no2, .int .i64 to2, .int .i64 index2, .int .i64 total2, .int .i64 stamp2, .int .i64 value2, .slice ad2 n2 cap2] rfl)
    have O := Lib.hid (row_one kind2 t2 f2 q2 hops2 no2 to2 index2 total2 stamp2 value2 ad2 n2 cap2)
    have HO3 := Lib.hid (own_box (V := w2.setRow w.heap.size #[.int .i64 kind2, .int .i64 t2, .int .i64 f2, .int .u32 q2, .int .i64 hops2, .int .i64 no2, .int .i64 to2, .int .i64 index2, .int .i64 total2, .int .i64 stamp2, .int .i64 value2, .slice ad2 n2 cap2]) HO2.out (by simp) (fun k hk => setRow_other _ _ _ _ (by omega)))
    clear H2 HO2
    go_upto_region 2 with (refine wpList_store_row rfl 27 _ _ rfl _ #[.int .i64 kind2, .int .i64 t2, .int .i64 f2, .int .u32 q2, .int .i64 hops2, .int .i64 no2, .int .i64 to2, .int .i64 index2, .int .i64 total2, .int .i64 stamp2, .int .i64 value2, .slice ad2 n2 cap2] rfl rfl _ _ b1.out infoPk rfl O.out ?_)
    generalize w2.setRow w.heap.size #[.int .i64 kind2, .int .i64 t2, .int .i64 f2, .int .u32 q2, .int .i64 hops2, .int .i64 no2, .int .i64 to2, .int .i64 index2, .int .i64 total2, .int .i64 stamp2, .int .i64 value2, .slice ad2 n2 cap2] = w3 at *
    have b3 := Lib.hid H3.out.box
    have b2 := Lib.hid H3.out.res
    have H4 := Lib.hid (H3.out.row #[.int .i64 kind2, .int .i64 t2, .int .i64 f2, .int .u32 q2, .int .i64 hops2, .int .i64 no2, .int .i64 to2, .int .i64 index2, .int .i64 total2, .int .i64 stamp2, .int .i64 value2, .slice ad2 n2 cap2] rfl)
    have b4 := Lib.hid H4.out.res
    have HO4 := Lib.hid (own_box (V := w3.setRow (w.heap.size + 1) #[.int .i64 kind2, .int .i64 t2, .int .i64 f2, .int .u32 q2, .int .i64 hops2, .int .i64 no2, .int .i64 to2, .int .i64 index2, .int .i64 total2, .int .i64 stamp2, .int .i64 value2, .slice ad2 n2 cap2]) HO3.out (by simp) (fun k hk => setRow_other _ _ _ _ (by omega)))
    have hF := Lib.hid (HGood.out _ _ _ ad2 cap2 (by simp) HO4.out H4.out)
    clear b1 H3 H4 HGood HO3 HO4
    go_wp2_with (first
      | (refine wpList_load_row rfl 27 _ rfl _ rfl _ #[.int .i64 kind2, .int .i64 t2, .int .i64 f2, .int .u32 q2, .int .i64 hops2, .int .i64 no2, .int .i64 to2, .int .i64 index2, .int .i64 total2, .int .i64 stamp2, .int .i64 value2, .slice ad2 n2 cap2] _ _ b3.out Tryz.underlying27 rfl infoPk ?_)
      | (refine wpList_store_row rfl 27 _ _ rfl _ #[.int .i64 kind2, .int .i64 t2, .int .i64 f2, .int .u32 q2, .int .i64 hops2, .int .i64 no2, .int .i64 to2, .int .i64 index2, .int .i64 total2, .int .i64 stamp2, .int .i64 value2, .slice ad2 n2 cap2] rfl rfl _ _ b2.out infoPk rfl O.out ?_))
    exact bodyPost_ret (results_pk2 rfl _ _ (w.heap.size + 1) _ (.int .i64 0) rfl rfl b4.out rfl) rfl hF.out
end Go.Proofs.YtanfnhgaooafeaaGreatDoor.Chu
/-! ChuN -/
namespace Go.Proofs.YtanfnhgaooafeaaGreatDoor.Chu
open Go.ChangeShapes Go.WideShapes Go.ChangeAt Go.RowKit Go.Deep
open Go.Proofs.YtanfnhgaooafeaaGreatDoor.Byt Go.Proofs.YtanfnhgaooafeaaGreatDoor.Key Go.Proofs.YtanfnhgaooafeaaGreatDoor.Buf Go.Proofs.YtanfnhgaooafeaaGreatDoor.Hed Go.Proofs.YtanfnhgaooafeaaGreatDoor.Dat Go.Proofs.YtanfnhgaooafeaaGreatDoor.BufM Go.Proofs.YtanfnhgaooafeaaGreatDoor.Pkt
set_option linter.unusedVariables false
set_option linter.unusedSimpArgs false
theorem noOk_sg {x : Nat} (hx : x < 18446744073709551616) : noOk (sg x) = decide (¬ 1152921504606846976 < x) := by
  rw [Bool.eq_iff_iff, noOk_iff, decide_eq_true_iff]
  unfold sg
  rw [IntKind.wrap_i64]
  omega
theorem ndOk_byte (b : UInt8) : ndOk (b.toNat : Int) = decide (¬ 63 < b.toNat) := by
  rw [Bool.eq_iff_iff, ndOk_iff, decide_eq_true_iff]
  omega
theorem plOk_byte (a b : UInt8) : plOk (a.toNat : Int) (b.toNat : Int) = decide (¬ b.toNat ≤ a.toNat) := by
  have := b.toNat_lt
  rw [Bool.eq_iff_iff, plOk_iff, decide_eq_true_iff]
  omega
theorem fixS_three : fixS (3, []) 1 = (3, []) := by unfold fixS; simp only [getF1_nil]; rfl
theorem bytS_at (l : List UInt8) : bytS (0, l) 64 = if (getB l 64).2.2 = 0 then (0, (getB l 64).2.1) else ((((getB l 64).2.2 : Nat) : Int), []) := by
  unfold bytS upd
  simp only [if_true]
theorem fnd_bad {b : Bool} (h : b = false) (l : List UInt8) (wr : Int) : fnd (0, l) b wr = wr := by rw [h]; rfl
theorem fnd_good {b : Bool} (h : b = true) (l : List UInt8) (wr : Int) : fnd (0, l) b wr = 0 := by rw [h]; rfl
/-- Behind the number. -/
theorem cf2_d (r : List UInt8) : (cf2 (getF r 1).1 (fixS (0, r) 1)).1 = ((dE2 r : Nat) : Int) ∧ (dE2 r = 0 → (cf2 (getF r 1).1 (fixS (0, r) 1)).2 = (0, (getB (r.drop 3) 64).2.1) ∧ (getF r 1).1 = (r.getD 0 0).toNat ∧ (getF (fixS (0, r) 1).2 1).1 = (r.getD 1 0).toNat ∧ (getF (fixS (fixS (0, r) 1) 1).2 1).1 = (r.getD 2 0).toNat ∧ (fixS (fixS (fixS (0, r) 1) 1) 1).2 = r.drop 3) := by
  match r with
  | [] =>
    rw [fixS_nil]
    unfold cf2 dE2
    rw [fnd_err (by decide), if_neg (by decide), if_pos rfl]
    exact ⟨rfl, fun h => by cases h⟩
  | b0 :: r1 =>
    rw [fixS_cons, getF1_cons]
    unfold cf2
    by_cases h0 : 63 < b0.toNat
    · rw [fnd_bad (by rw [ndOk_byte]; simpa using h0), if_neg (by decide)]
      have : dE2 (b0 :: r1) = 8 := by unfold dE2; rw [if_neg (by simp), if_pos (by simpa using h0)]
      rw [this]
      exact ⟨rfl, fun h => by cases h⟩
    · rw [fnd_good (by rw [ndOk_byte]; simpa using h0), if_pos rfl]
      match r1 with
      | [] =>
        simp only [fixS_nil, fixS_three]
        unfold cf3
        rw [fnd_err (by decide), if_neg (by decide)]
        have : dE2 [b0] = 3 := by unfold dE2; rw [if_neg (by simp), if_neg (by simpa using h0), if_pos (by simp)]
        rw [this]
        exact ⟨rfl, fun h => by cases h⟩
      | b1 :: r2 =>
        simp only [fixS_cons, getF1_cons]
        match r2 with
        | [] =>
          simp only [fixS_nil]
          unfold cf3
          rw [fnd_err (by decide), if_neg (by decide)]
          have : dE2 [b0, b1] = 3 := by unfold dE2; rw [if_neg (by simp), if_neg (by simpa using h0), if_pos (by simp)]
          rw [this]
          exact ⟨rfl, fun h => by cases h⟩
        | b2 :: r3 =>
          simp only [fixS_cons, getF1_cons]
          have hd : dE2 (b0 :: b1 :: b2 :: r3) = dE3 (b0 :: b1 :: b2 :: r3) := by unfold dE2; rw [if_neg (by simp), if_neg (by simpa using h0), if_neg (by simp only [List.length_cons]; omega)]
          rw [hd]
          unfold cf3 dE3
          by_cases h12 : b2.toNat ≤ b1.toNat
          · rw [fnd_bad (by rw [plOk_byte]; simpa using h12), if_neg (by decide), if_pos (by simpa using h12)]
            exact ⟨rfl, fun h => by cases h⟩
          · rw [fnd_good (by rw [plOk_byte]; simpa using h12), if_pos rfl, if_neg (by simpa using h12), bytS_at]
            simp only [List.drop_succ_cons, List.drop_zero]
            by_cases he : (getB r3 64).2.2 = 0
            · rw [if_pos he, he]
              exact ⟨rfl, fun _ => by simp⟩
            · rw [if_neg he]
              exact ⟨rfl, fun h => absurd h he⟩
/-- All of it. -/
theorem cf_d (p : Pk) (l : List UInt8) : (cfR (0, l)).1 = ((dE l : Nat) : Int) ∧ (dE l = 0 → (cfR (0, l)).2 = (0, dR l) ∧ chF p (0, l) = dP p l) := by
  have hlt := getN_lt l
  unfold cfR cf1
  by_cases h1 : (getN l).2.2 = 0
  · rw [numS_ok h1]
    by_cases hx : 1152921504606846976 < (getN l).1
    · have hd : dE l = 2 := by unfold dE; rw [if_neg (by omega), if_pos hx]
      simp only []
      rw [hd, fnd_bad (by rw [noOk_sg hlt]; simpa using hx), if_neg (by decide)]
      exact ⟨rfl, fun h => by cases h⟩
    · have hd : dE l = dE2 (getN l).2.1 := by unfold dE; rw [if_neg (by omega), if_neg hx]
      simp only []
      rw [hd, fnd_good (by rw [noOk_sg hlt]; simpa using hx), if_pos rfl]
      obtain ⟨q1, q2⟩ := cf2_d (getN l).2.1
      refine ⟨q1, fun h => ?_⟩
      obtain ⟨g1, g2, g3, g4, g5⟩ := q2 h
      refine ⟨g1, ?_⟩
      unfold chF dP
      rw [numS_ok h1]
      simp only [g2, g3, g4, g5]
  · rw [numS_bad h1]
    have hd : dE l = (getN l).2.2 := by unfold dE; rw [if_pos h1]
    simp only []
    rw [hd, fnd_err (by omega), if_neg (by omega)]
    exact ⟨rfl, fun h => absurd h h1⟩
/-- A chunk's bytes behind its head. -/
def chuB (p : Pk) : List UInt8 := sev (un p.no) ++ [kb p.to, kb p.index, kb p.total] ++ (sev p.body.length ++ p.body)
theorem chuB_len (p : Pk) (hb : p.body.length ≤ 80) : (chuB p).length ≤ 103 := by
  have h1 := sev_len10 (un p.no) (un_lt _)
  have h2 := sev_len10 p.body.length (by omega)
  unfold chuB
  simp only [List.length_append, List.length_cons, List.length_nil]
  omega
theorem cwB {m : Nat} {l : List UInt8} (b : List UInt8) (h : l.length + b.length ≤ m) : wByte m (0, l) b = (0, l ++ b) := wByte_fits b rfl (by simp only; omega)
/-- All of it fits. -/
theorem chu_fits (m : Nat) (p : Pk) (h : (chuB p).length ≤ m) : chuS m (0, []) p = (0, chuB p) := by
  unfold chuB at h ⊢
  simp only [List.length_append, List.length_cons, List.length_nil] at h
  unfold chuS wBytes wNum
  rw [cwB (l := []) _ (by simp only [List.length_nil]; omega), List.nil_append,
    cwB _ (by simp only [List.length_cons, List.length_nil]; omega),
    cwB _ (by simp only [List.length_append, List.length_cons, List.length_nil]; omega),
    cwB _ (by simp only [List.length_append, List.length_cons, List.length_nil]; omega)]
  simp only [List.append_assoc]
/-- A packet's head alone. -/
def headC (p : Pk) : Pk := ⟨6, p.key, p.hops, 0, 0, 0, 0, 0, 0, none, 0, []⟩
theorem kb_small {x : Int} (h0 : 0 ≤ x) (h1 : x < 256) : ((kb x).toNat : Int) = x := by
  rw [kb_val, IntKind.wrap_u8]
  omega
/-- A good chunk's head alone, the rest got again: the chunk. -/
theorem chu_got (p : Pk) (h : chuG p = true) :
    dE (chuB p) = 0 ∧ dR (chuB p) = [] ∧ ∀ ad cap, eqP p (memP (dP (headC p) (chuB p)) ad cap) = true := by
  obtain ⟨hk, -, hn, ht, hpl, hb, hs, hv⟩ := (chuG_iff p).1 h
  have hno : sg (un p.no) = p.no := sg_un p.no (by omega)
  have g := getN_sev (un p.no) (un_lt _) ([kb p.to, kb p.index, kb p.total] ++ (sev p.body.length ++ p.body))
  rw [← List.append_assoc] at g
  have hx : ¬ 1152921504606846976 < un p.no := by unfold un; omega
  have gb : getB (sev p.body.length ++ p.body) 64 = (p.body, [], 0) := by
    have hg : getN (sev p.body.length ++ p.body) = (p.body.length, p.body, 0) := getN_sev p.body.length (by omega) p.body
    unfold getB
    rw [hg]
    have h1 : ¬ ((64 : Int) < 0 ∨ (64 : Int) < (p.body.length : Int)) := by omega
    simp [h1]
    omega
  have t1 := kb_small ht.1 (by omega)
  have t2 := kb_small hpl.2.2.1 (by omega)
  have t3 := kb_small (x := p.total) (by omega) (by omega)
  have e1 : dE (chuB p) = 0 := by
    unfold dE chuB
    rw [g, if_neg (by simp), if_neg hx]
    simp only [List.cons_append, List.nil_append]
    unfold dE2
    rw [if_neg (by simp), if_neg (by simp only [List.getD_cons_zero]; omega), if_neg (by simp only [List.length_cons]; omega)]
    unfold dE3
    rw [if_neg (by simp only [List.getD_cons_succ, List.getD_cons_zero]; omega)]
    simp only [List.drop_succ_cons, List.drop_zero, gb]
  refine ⟨e1, ?_, fun ad cap => (eqP_iff _ _).2 ?_⟩
  · unfold dR chuB
    rw [g]
    simp only [List.cons_append, List.nil_append, List.drop_succ_cons, List.drop_zero, gb]
  · unfold dP memP headC chuB
    rw [g]
    simp only [List.cons_append, List.nil_append, List.drop_succ_cons, List.drop_zero, gb, List.getD_cons_succ, List.getD_cons_zero]
    exact ⟨hk, trivial, trivial, hno.symm, t1.symm, t2.symm, t3.symm, hs, hv, trivial⟩
end Go.Proofs.YtanfnhgaooafeaaGreatDoor.Chu
/-! ChuU -/
namespace Go.Proofs.YtanfnhgaooafeaaGreatDoor.Chu
open Go.ChangeShapes Go.WideShapes Go.ChangeAt Go.RowKit Go.Deep
open Go.Proofs.YtanfnhgaooafeaaGreatDoor.Byt Go.Proofs.YtanfnhgaooafeaaGreatDoor.Key Go.Proofs.YtanfnhgaooafeaaGreatDoor.Buf Go.Proofs.YtanfnhgaooafeaaGreatDoor.Hed Go.Proofs.YtanfnhgaooafeaaGreatDoor.Dat Go.Proofs.YtanfnhgaooafeaaGreatDoor.BufM Go.Proofs.YtanfnhgaooafeaaGreatDoor.Pkt
set_option linter.unusedVariables false
set_option linter.unusedSimpArgs false
/-- Get where something is wrong. -/
theorem ucget_bad (p : Pk) (g : Nat) (l : List UInt8) (w : World) (h : RR w g (0, l)) (he : dE l ≠ 0) :
    Calls Tryz.prog 42 #[.pointer (some ⟨g, 0, none⟩), pval p] w fun e w' => e = .returned (.tuple #[pval zero, .int .i64 ((dE l : Nat) : Int)]) ∧ RStep w w' g := by
  obtain ⟨q1, -⟩ := cf_d p l
  refine (cget_any p g (0, l) w h).mono fun e w' hq => ?_
  obtain ⟨h1, h2, -⟩ := hq
  have := h2 (by rw [q1]; omega)
  rw [q1] at this
  exact ⟨this, h1.out⟩
/-- Get where nothing is wrong. -/
theorem ucget_ok (p : Pk) (g : Nat) (l : List UInt8) (w : World) (h : RR w g (0, l)) (he : dE l = 0) :
    Calls Tryz.prog 42 #[.pointer (some ⟨g, 0, none⟩), pval p] w fun e w' => ∃ ad cap, e = .returned (.tuple #[pval (memP (dP p l) ad cap), .int .i64 0]) ∧ Hid (OwnB w' (w.heap.size + 2) (.slice ad (dP p l).body.length cap) (dP p l).body) ∧ Hid (RR w' g (0, dR l)) ∧ Hid (RStep w w' g) := by
  obtain ⟨q1, q2⟩ := cf_d p l
  obtain ⟨q3, q4⟩ := q2 he
  refine (cget_any p g (0, l) w h).mono fun e w' hq => ?_
  obtain ⟨h1, -, h3⟩ := hq
  obtain ⟨ad, cap, e1, e2, e3⟩ := h3 (by rw [q1, he]; rfl)
  rw [q4] at e1 e2
  rw [q3] at e3
  exact ⟨ad, cap, e1, e2, e3, h1⟩
end Go.Proofs.YtanfnhgaooafeaaGreatDoor.Chu
/-! ChuS -/
namespace Go.Proofs.YtanfnhgaooafeaaGreatDoor.Chu
open Go.ChangeShapes Go.WideShapes Go.ChangeAt Go.RowKit Go.Deep
open Go.Proofs.YtanfnhgaooafeaaGreatDoor.Byt Go.Proofs.YtanfnhgaooafeaaGreatDoor.Key Go.Proofs.YtanfnhgaooafeaaGreatDoor.Buf Go.Proofs.YtanfnhgaooafeaaGreatDoor.Hed Go.Proofs.YtanfnhgaooafeaaGreatDoor.Dat Go.Proofs.YtanfnhgaooafeaaGreatDoor.BufM Go.Proofs.YtanfnhgaooafeaaGreatDoor.Pkt
set_option linter.unusedVariables false
set_option linter.unusedSimpArgs false
set_option maxRecDepth 100000 in
set_option maxHeartbeats 2000000 in
theorem rcbytes_any (p : Pk) (w : World) (hm : p.body.length ≤ 900000) (hr : RdB w p.ad p.body) (hnil : p.ad = none → p.cap = 0) :
    Calls Tryz.prog 29 #[pval p] w (Gives (chuB p) w) := by
  obtain ⟨wb, hwb⟩ : ∃ wb, Hid (wb = w.alloc (.cells p.cells 27)) := ⟨_, Lib.hid rfl⟩
  have HB0 := Lib.hid (one_box w wb _ _ hwb.out).1
  have HC := Lib.hid (pk_cells w wb p hwb.out)
  have CA : Hid (∀ W, Below wb.heap.size wb W → Calls Tryz.prog 59 #[.int .u64 (IntKind.u64.wrap p.no)] W fun e w' => ∃ ad cap, e = .returned (.slice ad (sev (un p.no)).length cap) ∧ Hid (OwnB w' wb.heap.size (.slice ad (sev (un p.no)).length cap) (sev (un p.no))) ∧ Below wb.heap.size wb w' ∧ Hid (Below W.heap.size W w')) := Lib.hid (fun W hW => by
    rw [← un_val]
    refine (rNum_any (un p.no) (un_lt _) W).mono fun e w' hq => ?_
    obtain ⟨ad, cap, rfl, ho, hB⟩ := hq
    exact ⟨ad, cap, rfl, Lib.hid (Own.mono ho hW.size), hW.trans (hB.mono hW.size), Lib.hid hB⟩)
  have CY : Hid (∀ W, Below wb.heap.size wb W → Calls Tryz.prog 61 #[.slice p.ad p.body.length p.cap] W fun e w' => ∃ ad cap, e = .returned (.slice ad (sev p.body.length ++ p.body).length cap) ∧ Hid (OwnB w' wb.heap.size (.slice ad (sev p.body.length ++ p.body).length cap) (sev p.body.length ++ p.body)) ∧ Hid (Below W.heap.size W w')) := Lib.hid (fun W hW => (rBytes_any p.ad p.body.length p.cap p.body W rfl (by omega) (hr.below (HB0.out.trans (hW.mono HB0.out.size))) hnil).mono fun e w' hq => by
    obtain ⟨ad, cap, rfl, ho, hB⟩ := hq
    exact ⟨ad, cap, rfl, Lib.hid (Own.mono ho hW.size), Lib.hid hB⟩)
  have HL := Lib.hid (sev_len10 (un p.no) (un_lt _))
  have HLb : Hid ((sev p.body.length ++ p.body).length ≤ 900010) := Lib.hid (by
    have := sev_len10 p.body.length (by omega)
    rw [List.length_append]; omega)
  have HT : Hid (∀ W : World, RdB (W.alloc (.cells #[.int .u8 (IntKind.u8.wrap p.to), .int .u8 (IntKind.u8.wrap p.index), .int .u8 (IntKind.u8.wrap p.total)] 5)) (some ⟨W.heap.size, 0, none⟩) [kb p.to, kb p.index, kb p.total]) := Lib.hid (fun W => rd_three W p.to p.index p.total)
  have hth := Lib.hid (show [kb p.to, kb p.index, kb p.total].length = 3 from rfl)
  have hs := HB0.out.size
  have HF : Hid (∀ l ad cap W, Hid (l = (sev (un p.no) ++ [kb p.to, kb p.index, kb p.total]) ++ (sev p.body.length ++ p.body)) → OwnB W wb.heap.size (.slice ad l.length cap) l → Below wb.heap.size wb W → Gives (chuB p) w (.returned (.slice ad l.length cap)) W) := Lib.hid (fun l ad cap W e h hB => by
    have e2 := e.out
    subst e2
    exact ⟨ad, cap, rfl, Own.mono h hs, HB0.out.trans (hB.mono hs)⟩)
  clear hs
  generalize Gives (chuB p) w = Fin at *
  generalize sev (un p.no) = ls at *
  generalize sev p.body.length ++ p.body = lb at *
  generalize [kb p.to, kb p.index, kb p.total] = th at *
  obtain ⟨l7, hl7⟩ : ∃ l7, Hid (ls ++ th = l7) := ⟨_, Lib.hid rfl⟩
  have HL7 : Hid (l7.length ≤ 13) := Lib.hid (by rw [← hl7.out, List.length_append, hth.out]; have := HL.out; omega)
  rw [hl7.out] at HF
  obtain ⟨kind, ⟨t, f, q⟩, hops, no, to, index, total, stamp, value, ad, cap, body⟩ := p
  unfold Pk.cells at hwb
  unfold pval Pk.cells
  simp only at CA CY HT hwb HC ⊢
  obtain ⟨n, hnn⟩ : ∃ n, body.length = n := ⟨_, rfl⟩
  simp only [hnn] at CY hwb HC ⊢
  have HAl : Hid (∀ W, Below wb.heap.size wb W → Below wb.heap.size wb (W.alloc (.cells #[.int .u8 (IntKind.u8.wrap to), .int .u8 (IntKind.u8.wrap index), .int .u8 (IntKind.u8.wrap total)] 5))) := Lib.hid (fun W h => h.alloc h.size _)
  have HAr : Hid (∀ W : World, Below W.heap.size W (W.alloc (.cells #[.int .u8 (IntKind.u8.wrap to), .int .u8 (IntKind.u8.wrap index), .int .u8 (IntKind.u8.wrap total)] 5))) := Lib.hid (fun W => (Below.refl _ _).alloc (Nat.le_refl _) _)
  have HH : Hid (∀ W, Below wb.heap.size wb W → W.cell? ⟨w.heap.size, 5, none⟩ = some (.int .i64 no) ∧ W.cell? ⟨w.heap.size, 6, none⟩ = some (.int .i64 to) ∧ W.cell? ⟨w.heap.size, 7, none⟩ = some (.int .i64 index) ∧ W.cell? ⟨w.heap.size, 8, none⟩ = some (.int .i64 total)) := Lib.hid (fun W hW => ⟨(HC.out W hW).2.2.2.2.2.1, (HC.out W hW).2.2.2.2.2.2.1, (HC.out W hW).2.2.2.2.2.2.2.1, (HC.out W hW).2.2.2.2.2.2.2.2.1⟩)
  clear hnn hr hnil hm
  go_enter Tryz.func29, Tryz.ntmps29
  go_upto_region 1 with fail
  rw [← hwb.out]
  obtain ⟨c0, c1, c2, c3, c4, c5, c6, c7, c8, c9, c10, c11⟩ := HC.out wb (Below.refl _ _)
  have hB0 := Below.refl wb.heap.size wb
  refine wp_region_noPanic ?_
  refine wp_region_held_drew (S := (fun W => W.cell? ⟨w.heap.size, 5, none⟩ = some (.int .i64 no) ∧ W.cell? ⟨w.heap.size, 6, none⟩ = some (.int .i64 to) ∧ W.cell? ⟨w.heap.size, 7, none⟩ = some (.int .i64 index) ∧ W.cell? ⟨w.heap.size, 8, none⟩ = some (.int .i64 total))) (by kernel_rfl) ?_ (fun hHeld => ?_)
  · exact HH.out _ hB0.drew
  refine wpAnyH_take (i := 0) (v := ?_) rfl (by kernel_rfl) (by kernel_rfl) (by kernel_rfl) (fun _ _ _ h => h) (Or.inl ⟨by kernel_rfl, ?_⟩) (by assumption) ?_
  rotate_left 1
  focus (intro w hSw; clear hSw; go_simp; try with_reducible rfl)
  refine wpAnyH_take (i := 1) (v := ?_) rfl (by kernel_rfl) (by kernel_rfl) (by kernel_rfl) (fun _ _ _ h => h) (Or.inl ⟨by kernel_rfl, ?_⟩) (by assumption) ?_
  rotate_left 1
  focus (intro w hSw; obtain ⟨hc5, hc6, hc7, hc8⟩ := hSw; go_simp; try with_reducible rfl)
  refine wpAnyH_take (i := 2) (v := ?_) rfl (by kernel_rfl) (by kernel_rfl) (by kernel_rfl) (fun _ _ _ h => h) (Or.inl ⟨by kernel_rfl, ?_⟩) (by assumption) ?_
  rotate_left 1
  focus (intro w hSw; clear hSw; go_simp; try with_reducible rfl)
  refine wpAnyH_take (i := 4) (v := ?_) rfl (by kernel_rfl) (by kernel_rfl) (by kernel_rfl) (fun _ _ _ h => h) (Or.inl ⟨by kernel_rfl, ?_⟩) (by assumption) ?_
  rotate_left 1
  focus (intro w hSw; clear hSw; go_simp; try with_reducible rfl)
  refine wpAnyH_take (i := 5) (v := ?_) rfl (by kernel_rfl) (by kernel_rfl) (by kernel_rfl) (fun _ _ _ h => h) (Or.inl ⟨by kernel_rfl, ?_⟩) (by assumption) ?_
  rotate_left 1
  focus (intro w hSw; obtain ⟨hc5, hc6, hc7, hc8⟩ := hSw; go_simp; try with_reducible rfl)
  refine wpAnyH_take (i := 6) (v := ?_) rfl (by kernel_rfl) (by kernel_rfl) (by kernel_rfl) (fun _ _ _ h => h) (Or.inl ⟨by kernel_rfl, ?_⟩) (by assumption) ?_
  rotate_left 1
  focus (intro w hSw; clear hSw; go_simp; try with_reducible rfl)
  refine wpAnyH_take (i := 7) (v := ?_) rfl (by kernel_rfl) (by kernel_rfl) (by kernel_rfl) (fun _ _ _ h => h) (Or.inl ⟨by kernel_rfl, ?_⟩) (by assumption) ?_
  rotate_left 1
  focus (intro w hSw; clear hSw; go_simp; try with_reducible rfl)
  refine wpAnyH_take (i := 8) (v := ?_) rfl (by kernel_rfl) (by kernel_rfl) (by kernel_rfl) (fun _ _ _ h => h) (Or.inl ⟨by kernel_rfl, ?_⟩) (by assumption) ?_
  rotate_left 1
  focus (intro w hSw; obtain ⟨hc5, hc6, hc7, hc8⟩ := hSw; go_simp; try with_reducible rfl)
  refine wpAnyH_take (i := 9) (v := ?_) rfl (by kernel_rfl) (by kernel_rfl) (by kernel_rfl) (fun _ _ _ h => h) (Or.inl ⟨by kernel_rfl, ?_⟩) (by assumption) ?_
  rotate_left 1
  focus (intro w hSw; clear hSw; go_simp; try with_reducible rfl)
  refine wpAnyH_take (i := 10) (v := ?_) rfl (by kernel_rfl) (by kernel_rfl) (by kernel_rfl) (fun _ _ _ h => h) (Or.inl ⟨by kernel_rfl, ?_⟩) (by assumption) ?_
  rotate_left 1
  focus (intro w hSw; clear hSw; go_simp; try with_reducible rfl)
  refine wpAnyH_take (i := 11) (v := ?_) rfl (by kernel_rfl) (by kernel_rfl) (by kernel_rfl) (fun _ _ _ h => h) (Or.inl ⟨by kernel_rfl, ?_⟩) (by assumption) ?_
  rotate_left 1
  focus (intro w hSw; obtain ⟨hc5, hc6, hc7, hc8⟩ := hSw; go_simp; try with_reducible rfl)
  refine wpAnyH_take (i := 12) (v := ?_) rfl (by kernel_rfl) (by kernel_rfl) (by kernel_rfl) (fun _ _ _ h => h) (Or.inl ⟨by kernel_rfl, ?_⟩) (by assumption) ?_
  rotate_left 1
  focus (intro w hSw; clear hSw; go_simp; try with_reducible rfl)
  refine wpAnyH_ready (rs := [3, 13]) (by kernel_rfl) (by simp) ?_
  refine AllReadyH.cons rfl (fun K hK => ?_) ?_
  · go_simp
    go_wp2_with (go_at_call 59; (with_reducible refine (CA.out _ ?_).mono ?_); (focus (first | assumption | exact Below.drew (by assumption))); rintro e w5 ⟨ad5, cap5, rfl, HO5, hB5, HB5⟩)
    refine hK.out _ _ ?_ (fun hHeld => ?_)
    · exact HH.out _ hB5
    clear hK K
    refine wpAnyH_ready (rs := [13]) (by kernel_rfl) (by simp) ?_
    refine AllReadyH.cons rfl (fun K hK => ?_) ?_
    · go_simp
      have hB13 := HAl.out _ hB5
      have HT3 := Lib.hid (HT.out w5)
      refine hK.out _ _ ?_ (fun hHeld => ?_)
      · exact HH.out _ hB13
      clear hK K
      refine wpAnyH_ready (rs := [14]) (by kernel_rfl) (by simp) ?_
      refine AllReadyH.cons rfl (fun K hK => ?_) ?_
      · refine Dat.step_app2 rfl _ _ rfl wb.heap.size _ ls ?_ (HO5.out.below (HAr.out w5)) _ 3 3 th ?_ hth.out.symm HT3.out (fun e => by cases e) (by have := HL.out; omega) hB13.size ?_
        · simp [Act.eval, Act.put]
          try rfl
        · simp [Act.eval, Act.put]
        intro ad7 cap7 w7 ho7 hb7
        rw [hl7.out] at ho7
        rw [hl7.out]
        have HO7 := Lib.hid ho7
        have hB7 := hB13.trans hb7
        clear ho7 hb7
        refine hK.out _ _ ?_ (fun hHeld => ?_)
        · exact HH.out _ hB7
        clear hK K
        refine wpAnyH_ready (rs := [15]) (by kernel_rfl) (by simp) ?_
        refine AllReadyH.cons rfl (fun K hK => ?_) ?_
        · go_simp
          refine hK.out _ _ ?_ (fun hHeld => ?_)
          · exact HH.out _ hB7
          clear hK K
          refine wpAnyH_done (by kernel_rfl) ?_ _
          refine NoPanic.normal ?_
          have HB7 := Lib.hid hB7
          clear hHeld hB7 hB0 hB5 hB13 HO5 HB5 HT3 CA HH HAl HAr HT c0 c1 c2 c3 c4 c5 c6 c7 c8 c9 c10 c11
          obtain ⟨c0, c1, c2, c3, c4, c5, c6, c7, c8, c9, c10, c11⟩ := HC.out w7 HB7.out
          have CY7 := Lib.hid (CY.out w7 HB7.out)
          clear CY HC
          go_wp2_with fail
          refine (CY7.out).mono ?_; rintro e w8 ⟨ad8, cap8, rfl, HO8, HB8⟩
          have HOx := Lib.hid (HO7.out.below HB8.out)
          have HRx := Lib.hid HO8.out.rd.1
          have HNx := Lib.hid HO8.out.pos.2.2.1
          have HBx := Lib.hid (HB7.out.trans (HB8.out.mono HB7.out.size))
          have HSx := Lib.hid HBx.out.size
          clear CY7 HO7 HB8 HO8 HB7 c0 c1 c2 c3 c4 c5 c6 c7 c8 c9 c10 c11
          go_wp2_with (at_builtin; refine app_step rfl _ _ rfl wb.heap.size ad7 _ cap7 l7 rfl HOx.out ad8 _ cap8 lb rfl rfl HRx.out HNx.out (by have := HL7.out; have := HLb.out; omega) HSx.out ?_; intro l9 ad9 cap9 w9 hl9 ho9 hb9 _)
          have hF := Lib.hid (HF.out l9 ad9 cap9 w9 hl9 ho9 (HBx.out.trans hb9))
          clear ho9 hb9 HOx HRx HNx
          go_wp2_with fail
          first
            | exact hF.out
            | (go_ret; exact hF.out)
        exact AllReadyH.nil
      exact AllReadyH.nil
    exact AllReadyH.nil
  refine AllReadyH.cons rfl (fun K hK => ?_) ?_
  · go_simp
    have hB13 := HAl.out _ hB0.drew
    have HT3 := Lib.hid (HT.out wb.drew)
    refine hK.out _ _ ?_ (fun hHeld => ?_)
    · exact HH.out _ hB13
    clear hK K
    refine wpAnyH_ready (rs := [3]) (by kernel_rfl) (by simp) ?_
    refine AllReadyH.cons rfl (fun K hK => ?_) ?_
    · go_simp
      go_wp2_with (go_at_call 59; (with_reducible refine (CA.out _ ?_).mono ?_); (focus (first | assumption | exact Below.drew (by assumption))); rintro e w5 ⟨ad5, cap5, rfl, HO5, hB5, HB5⟩)
      refine hK.out _ _ ?_ (fun hHeld => ?_)
      · exact HH.out _ hB5
      clear hK K
      refine wpAnyH_ready (rs := [14]) (by kernel_rfl) (by simp) ?_
      refine AllReadyH.cons rfl (fun K hK => ?_) ?_
      · refine Dat.step_app2 rfl _ _ rfl wb.heap.size _ ls ?_ HO5.out _ 3 3 th ?_ hth.out.symm (HT3.out.below HB5.out) (fun e => by cases e) (by have := HL.out; omega) hB5.size ?_
        · simp [Act.eval, Act.put]
          try rfl
        · simp [Act.eval, Act.put]
        intro ad7 cap7 w7 ho7 hb7
        rw [hl7.out] at ho7
        rw [hl7.out]
        have HO7 := Lib.hid ho7
        have hB7 := hB5.trans hb7
        clear ho7 hb7
        refine hK.out _ _ ?_ (fun hHeld => ?_)
        · exact HH.out _ hB7
        clear hK K
        refine wpAnyH_ready (rs := [15]) (by kernel_rfl) (by simp) ?_
        refine AllReadyH.cons rfl (fun K hK => ?_) ?_
        · go_simp
          refine hK.out _ _ ?_ (fun hHeld => ?_)
          · exact HH.out _ hB7
          clear hK K
          refine wpAnyH_done (by kernel_rfl) ?_ _
          refine NoPanic.normal ?_
          have HB7 := Lib.hid hB7
          clear hHeld hB7 hB0 hB5 hB13 HO5 HB5 HT3 CA HH HAl HAr HT c0 c1 c2 c3 c4 c5 c6 c7 c8 c9 c10 c11
          obtain ⟨c0, c1, c2, c3, c4, c5, c6, c7, c8, c9, c10, c11⟩ := HC.out w7 HB7.out
          have CY7 := Lib.hid (CY.out w7 HB7.out)
          clear CY HC
          go_wp2_with fail
          refine (CY7.out).mono ?_; rintro e w8 ⟨ad8, cap8, rfl, HO8, HB8⟩
          have HOx := Lib.hid (HO7.out.below HB8.out)
          have HRx := Lib.hid HO8.out.rd.1
          have HNx := Lib.hid HO8.out.pos.2.2.1
          have HBx := Lib.hid (HB7.out.trans (HB8.out.mono HB7.out.size))
          have HSx := Lib.hid HBx.out.size
          clear CY7 HO7 HB8 HO8 HB7 c0 c1 c2 c3 c4 c5 c6 c7 c8 c9 c10 c11
          go_wp2_with (at_builtin; refine app_step rfl _ _ rfl wb.heap.size ad7 _ cap7 l7 rfl HOx.out ad8 _ cap8 lb rfl rfl HRx.out HNx.out (by have := HL7.out; have := HLb.out; omega) HSx.out ?_; intro l9 ad9 cap9 w9 hl9 ho9 hb9 _)
          have hF := Lib.hid (HF.out l9 ad9 cap9 w9 hl9 ho9 (HBx.out.trans hb9))
          clear ho9 hb9 HOx HRx HNx
          go_wp2_with fail
          first
            | exact hF.out
            | (go_ret; exact hF.out)
        exact AllReadyH.nil
      exact AllReadyH.nil
    exact AllReadyH.nil
  exact AllReadyH.nil
end Go.Proofs.YtanfnhgaooafeaaGreatDoor.Chu
