/- Contracts of package graph (layer 16): a graph without the links of some nodes. -/
import Derived.Test.YtlfkeonopdhoeaaGrfF
namespace Go.Proofs.Ytlfkeonopdhoeaa.Grf
open Go.ChangeShapes Go.WideShapes Go.ChangeAt Go.RowKit
set_option linter.unusedVariables false
theorem gwithout_nil (S : Int) (w : World) : Calls Try.prog 16 #[.pointer none, .int .u64 S] w fun e w' => e = .returned (.pointer none) ∧ w = w' := by
  go_enter Try.func16, Try.ntmps16
  go_wp2_with fail
  go_ret
  exact ⟨rfl, rfl⟩
def WPost (n : Nat) (M : List Pr) (w : World) (e : Ending) (w' : World) : Prop :=
  ∃ g b, e = .returned (.pointer (some ⟨g, 0, none⟩)) ∧ GR w' g b n M ∧ w.heap.size ≤ g ∧ w.heap.size ≤ b ∧ Below w.heap.size w w'
theorem has_bit {S : Nat} (hS : S < 18446744073709551616) {z : Int} (h0 : 0 ≤ z) : Nodes.hasN S z = S.testBit z.toNat := by
  obtain ⟨j, rfl⟩ := Int.eq_ofNat_of_zero_le h0
  rw [Nodes.has_nat S j hS, Int.toNat_natCast]
set_option maxHeartbeats 4000000 in
theorem gwithout_any (g b n : Nat) (L : List Pr) (S : Nat) (hS : S < 18446744073709551616) (w : World) (h : GR w g b n L) :
    Calls Try.prog 16 #[.pointer (some ⟨g, 0, none⟩), .int .u64 (S : Int)] w (WPost n (woL n S L) w) := by
  have hn := h.le
  have c0 := h.c0
  have CE := Lib.hid (empty_any n hn w)
  have HG := Lib.hid h
  have HZ := Lib.hid (show (linksL n L).filter (keep S) = woL n S L from rfl)
  have HOK := Lib.hid (show Ok n (linksL n L) from allU_ok _ _)
  have HLEN := Lib.hid (show (linksL n L).length ≤ 4096 from allU_len64 _ hn)
  have CLK := Lib.hid (fun W (hB : Below w.heap.size w W) => links_any g b n L W (h.below hB))
  have HS := Lib.hid (fun z (h0 : 0 ≤ z) W => Nodes.has_any S hS z W)
  clear h
  rw [← HZ.out]
  generalize linksL n L = zs at *
  go_enter Try.func16, Try.ntmps16
  go_wp2_with fail
  refine (CE.out).mono ?_; rintro e w1 ⟨g2, b2, rfl, hG, hg, hb, hB⟩
  have HGE := Lib.hid hG
  have HB1 := Lib.hid hB
  have CLL := Lib.hid (CLK.out w1 hB)
  have hg := Lib.hid hg
  have hb := Lib.hid hb
  clear hG hB c0 CE CLK
  go_wp2_with fail
  refine (CLL.out).mono ?_; rintro e w2 ⟨ad, cap, rfl, hown, hB⟩
  have HO := Lib.hid hown
  have HGE2 := Lib.hid (HGE.out.below hB)
  have HF : Hid (∀ k, FG g2 b2 k → k < w1.heap.size) := Lib.hid (fun k hk => by
    have l1 := HGE.out.blk.lt
    have l2 := HGE.out.map.lt
    rcases hk with rfl | rfl <;> omega)
  have HB2 := Lib.hid (HB1.out.trans (hB.mono HB1.out.size))
  clear hown hB CLL
  have hlen := HLEN.out
  obtain ⟨len, hl⟩ : ∃ len, Hid (zs.length = len) := ⟨_, Lib.hid rfl⟩
  rw [hl.out] at hlen
  rw [hl.out]
  go_wp2_with fail
  go_loopw [18] (fun i wr => ∃ k : Nat, k ≤ len ∧ i = .int .i64 k ∧ Hid (GR wr g2 b2 n ((zs.take k).filter (keep S))) ∧ Hid (Rw.Stay (FG g2 b2) w2 wr)) (fun i _ => len - (intOf i).toNat)
  case atStart => exact ⟨0, Nat.zero_le _, rfl, HGE2, Lib.hid (Rw.Stay.refl _ _)⟩
  case round =>
    obtain ⟨k, hk, rfl, HGk, HSt⟩ := hrel
    by_cases hlt : k < len
    · have hk' : k < zs.length := by rw [hl.out]; exact hlt
      obtain ⟨bz, off, rfl, hbz, c0, c1⟩ := rd_at ((HO.out.stay HSt.out HF.out).rd.1) (i := k) hk'
      have HTS := Lib.hid (filt_hit (zs := zs) (f := keep S) (k := k) hk')
      have HTM := Lib.hid (filt_miss (zs := zs) (f := keep S) (k := k) hk')
      have HRG := Lib.hid (HOK.out.1 _ (getD_memG hk'))
      have HWR : Hid (keep S (zs.getD k (0, 0)) = true → Grf.wr n ((zs.take k).filter (keep S)) (zs.getD k (0, 0)).1 (zs.getD k (0, 0)).2 = 0) := Lib.hid (fun hkp => by
        have h1 := ok_filter (keep S) (ok_take HOK.out (k + 1))
        rw [HTS.out hkp] at h1
        exact ok_wr h1)
      have hfl := filt_len (zs := zs) (f := keep S) k
      generalize zs.getD k (0, 0) = p at *
      obtain ⟨x, y⟩ := p
      simp only at c0 c1 HTS HTM HRG HWR
      obtain ⟨a1, a2, a3, a4, a5⟩ := HRG.out
      obtain ⟨W2, hW2⟩ : ∃ W2, Hid (W2 = wr.alloc (.cells #[.int .i64 x, .int .i64 y] 35)) := ⟨_, Lib.hid rfl⟩
      have HB2' : Hid (Below wr.heap.size wr W2) := Lib.hid (by rw [hW2.out]; exact (Below.refl _ _).alloc (Nat.le_refl _) _)
      have HC2 : Hid (∀ W, Below W2.heap.size W2 W → W.cell? ⟨wr.heap.size, 0, none⟩ = some (.int .i64 x) ∧ W.cell? ⟨wr.heap.size, 1, none⟩ = some (.int .i64 y)) := Lib.hid (by rw [hW2.out]; exact fun W h => two_cells wr W x y _ h)
      have HG2 := Lib.hid (HGk.out.below HB2'.out)
      have HSt2 := Lib.hid (HSt.out.snoc (Rw.Stay.of_below (F := FG g2 b2) HB2'.out) (fun _ _ e => e))
      have C1 := Lib.hid (HS.out x a1)
      have C2 := Lib.hid (HS.out y a3)
      rw [has_bit hS a1] at C1
      rw [has_bit hS a3] at C2
      have HKP := Lib.hid (show keep S (x, y) = (!S.testBit x.toNat && !S.testBit y.toNat) from rfl)
      have CL : Hid (keep S (x, y) = true → Calls Try.prog 29 #[.pointer (some ⟨g2, 0, none⟩), .int .i64 x, .int .i64 y] W2
          fun e w' => e = .returned (.tuple #[]) ∧ Hid (GR w' g2 b2 n ((zs.take (k + 1)).filter (keep S))) ∧ Hid (Rw.Stay (FG g2 b2) w2 w')) := Lib.hid (fun hkp => by
        have hz := wr_zero.1 (HWR.out hkp)
        obtain ⟨_, _, _, _, _, a6⟩ := hz
        obtain ⟨x', rfl⟩ := Int.eq_ofNat_of_zero_le a1
        obtain ⟨y', rfl⟩ := Int.eq_ofNat_of_zero_le a3
        have hlt' : ((zs.take k).filter (keep S)).length < maxLen := by unfold maxLen; omega
        refine (link_any g2 b2 n x' y' _ (by omega) (by omega) (by omega) a6 hlt' W2 HG2.out).mono ?_
        rintro e w' ⟨he, h1, h2⟩
        exact ⟨he, Lib.hid (by rw [HTS.out hkp]; exact h1), Lib.hid (HSt2.out.snoc h2 (fun _ _ e => e))⟩)
      clear HRG HWR a1 a2 a3 a4 a5 hfl HTS hk'
      generalize S.testBit x.toNat = sx at *
      generalize S.testBit y.toNat = sy at *
      cases sx with
      | true =>
        have HX := Lib.hid (HTM.out (by rw [HKP.out]; rfl))
        clear HTM HKP CL
        go_upto_region 7 with fail
        rw [← hW2.out]
        obtain ⟨d0, d1⟩ := HC2.out W2 (Below.refl _ _)
        clear c0 c1
        go_wp2_with fail
        refine (C1.out _).mono ?_; rintro e w' ⟨rfl, rfl⟩
        go_wp2_with fail
        go_roundw
        case rel => exact ⟨k + 1, by omega, by go_num, by rw [HX.out]; exact HG2, HSt2⟩
        case measure => simp [intOf]; omega
      | false =>
        cases sy with
        | true =>
          have HX := Lib.hid (HTM.out (by rw [HKP.out]; rfl))
          clear HTM HKP CL
          go_upto_region 7 with fail
          rw [← hW2.out]
          obtain ⟨d0, d1⟩ := HC2.out W2 (Below.refl _ _)
          clear c0 c1
          go_wp2_with fail
          refine (C1.out _).mono ?_; rintro e w' ⟨rfl, rfl⟩
          go_wp2_with fail
          refine (C2.out _).mono ?_; rintro e w' ⟨rfl, rfl⟩
          go_wp2_with fail
          go_roundw
          case rel => exact ⟨k + 1, by omega, by go_num, by rw [HX.out]; exact HG2, HSt2⟩
          case measure => simp [intOf]; omega
        | false =>
          have CLL := Lib.hid (CL.out (by rw [HKP.out]; rfl))
          clear HTM HKP CL
          go_upto_region 7 with fail
          rw [← hW2.out]
          obtain ⟨d0, d1⟩ := HC2.out W2 (Below.refl _ _)
          clear c0 c1
          go_wp2_with fail
          refine (C1.out _).mono ?_; rintro e w' ⟨rfl, rfl⟩
          go_wp2_with fail
          refine (C2.out _).mono ?_; rintro e w' ⟨rfl, rfl⟩
          go_wp2_with fail
          refine (CLL.out).mono ?_; rintro e w4 ⟨rfl, HG4, HS4⟩
          clear CLL d0 d1
          go_wp2_with fail
          go_roundw
          case rel => exact ⟨k + 1, by omega, by go_num, HG4, HS4⟩
          case measure => simp [intOf]; omega
    · obtain rfl : k = len := by omega
      have HP : Hid (WPost n (zs.filter (keep S)) w (.returned (.pointer (some ⟨g2, 0, none⟩))) wr) := Lib.hid (by
        have hG := HGk.out
        rw [List.take_of_length_le (by rw [hl.out]; exact Nat.le_refl _)] at hG
        refine ⟨g2, b2, rfl, hG, hg.out, hb.out, HB2.out.trans (HSt.out.below (fun j hj => ?_) HB2.out.size)⟩
        rcases hj with rfl | rfl
        · exact hg.out
        · exact hb.out)
      go_wp2_with fail
      go_ret
      exact HP.out
end Go.Proofs.Ytlfkeonopdhoeaa.Grf
