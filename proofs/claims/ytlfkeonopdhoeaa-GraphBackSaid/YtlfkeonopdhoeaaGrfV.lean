/- Contracts of the statements' own helpers (layer 16): are two lists of links the same; is a graph the document's; the chapter's example. -/
import Derived.Test.YtlfkeonopdhoeaaGrfG
import Derived.Test.YtlfkeonopdhoeaaGrfS
import Derived.BigRegion
import Derived.Deep.RegionHeldLaw
import Derived.Deep.Cut
namespace Go.Proofs.Ytlfkeonopdhoeaa.Grf
open Go.ChangeShapes Go.WideShapes Go.ChangeAt Go.RowKit
set_option linter.unusedVariables false
set_option linter.unusedSimpArgs false
@[go_sem] theorem eq2 (a b : Int) (w : World) : (Op.equalIn 10000 35 (.agg #[.int .i64 a, .int .i64 b]) (.agg #[.int .i64 a, .int .i64 b])).run Try.prog w = .ok true w := by
  obtain ⟨i, hi⟩ := Option.isSome_iff_exists.1 (show (Try.prog.info? 3).isSome = true from by kernel_rfl)
  rw [run_equalIn_array w 9999 _ _ Try.underlying35 hi]
  rw [show List.range 2 = [0,1] from rfl, show Try.prog.cellsOf 3 = 1 from by kernel_rfl]
  simp [Op.eqItems, part, go_sem]
set_option maxHeartbeats 4000000 in
theorem same_links (a1 a2 : Option Addr) (len c1 c2 : Nat) (L : List Pr) (w : World) (hlen : L.length = len) (hm : len < 9223372036854775807) (h1 : RdG w a1 L) (h2 : RdG w a2 L) :
    Calls Try.prog 21 #[.slice a1 len c1, .slice a2 len c2] w fun e w' => e = .returned (.bool true) ∧ Below w.heap.size w w' := by
  have HL := Lib.hid hlen
  have H1 := Lib.hid h1
  have H2 := Lib.hid h2
  clear hlen h1 h2
  go_enter Try.func21, Try.ntmps21
  go_wp2_with fail
  go_loopw [13] (fun i wr => ∃ k : Nat, k ≤ len ∧ i = .int .i64 k ∧ Hid (Below w.heap.size w wr)) (fun i _ => len - (intOf i).toNat)
  case atStart => exact ⟨0, Nat.zero_le _, rfl, Lib.hid (Below.refl _ _)⟩
  case round =>
    obtain ⟨k, hk, rfl, hB⟩ := hrel
    by_cases hlt : k < len
    · obtain ⟨b1, o1, rfl, hb1, d0, d1⟩ := rd_at (H1.out.below hB.out) (i := k) (by rw [HL.out]; exact hlt)
      obtain ⟨b2, o2, rfl, hb2, e0, e1⟩ := rd_at (H2.out.below hB.out) (i := k) (by rw [HL.out]; exact hlt)
      generalize L.getD k (0, 0) = p at *
      obtain ⟨x, y⟩ := p
      simp only at d0 d1 e0 e1
      clear hb1 hb2
      go_upto_region 6 with fail
      go_region
      go_wp2_with fail
      go_roundw
      case rel => exact ⟨k + 1, by omega, by go_num, Lib.hid (hB.out.trans (Below.refl _ _).drew)⟩
      case measure => simp [intOf]; omega
    · obtain rfl : k = len := by omega
      go_wp2_with fail
      go_ret
      exact ⟨rfl, hB.out⟩
set_option maxHeartbeats 4000000 in
theorem same_any (g b n : Nat) (L1 L2 : List Pr) (ad : Option Addr) (len cap : Nat) (w : World) (hG : GR w g b n L1) (hk : lk L1 = lk L2) (hok : Ok n L2) (hlen : L2.length = len) (hm : len < 9223372036854775807) (hr : RdG w ad L2) :
    Calls Try.prog 12 #[.pointer (some ⟨g, 0, none⟩), gval (n : Int) (.slice ad len cap)] w fun e w' => e = .returned (.bool true) ∧ Below w.heap.size w w' := by
  obtain ⟨w0, hw0⟩ : ∃ w0, Hid (w0 = w.alloc (.cells #[.int .i64 (n : Int), .slice ad len cap] 29)) := ⟨_, Lib.hid rfl⟩
  obtain ⟨hB0, hs0, hb0⟩ := gbox w w0 n _ hw0.out
  have hn := hG.le
  have HB := Lib.hid hB0
  have HBX : Hid (∀ W, Below w0.heap.size w0 W → W.cell? ⟨w.heap.size, 0, none⟩ = some (.int .i64 (n : Int)) ∧ W.cell? ⟨w.heap.size, 1, none⟩ = some (.slice ad len cap)) := Lib.hid (fun W hB => And.intro ((hb0.below hB).cell 0) ((hb0.below hB).cell 1))
  have CN := Lib.hid (fun W (hB : Below w0.heap.size w0 W) => n_any g b n L1 W ((hG.below hB0).below hB))
  have CL := Lib.hid (fun W (hB : Below w0.heap.size w0 W) => links_any g b n L1 W ((hG.below hB0).below hB))
  have CR := Lib.hid (fun W (hB : Below w0.heap.size w0 W) => rlinks_any n hn ad len cap L2 W hlen hm ((hr.below hB0).below hB))
  rw [← links_congr hk] at CR
  have HM : (linksL n L1).length ≤ 4096 := allU_len64 _ hn
  generalize linksL n L1 = M at *
  have CS := Lib.hid (fun a1 a2 c1 c2 W h1 h2 => same_links a1 a2 M.length c1 c2 M W rfl (by omega) h1 h2)
  have CA := Lib.hid (fun z W (hB : Below w0.heap.size w0 W) => near_any g b n L1 z W ((hG.below hB0).below hB))
  have CB := Lib.hid (fun z W (hB : Below w0.heap.size w0 W) => rnear_any n hn ad len cap L2 z W hlen hm ((hr.below hB0).below hB))
  have HNL := Lib.hid (fun z => nearL_len n L2 z)
  have HOF : Hid (∀ z, Nodes.ofL (nearL n L2 z) = nearP L1 z) := Lib.hid (fun z => (of_nearL hok hn z).trans (near_congr hk.symm z))
  clear hG hk hok hlen hr hs0 hb0 hB0
  unfold gval at *
  go_enter Try.func12, Try.ntmps12
  go_upto_region 1 with fail
  rw [← hw0.out]
  have cc := HBX.out w0 (Below.refl _ _)
  go_region_held_law (fun W => Below w0.heap.size w0 W ∧ W.cell? ⟨w.heap.size, 0, none⟩ = some (.int .i64 (n : Int)) ∧ W.cell? ⟨w.heap.size, 1, none⟩ = some (.slice ad len cap))
    ((refine ⟨?_, HBX.out _ ?_⟩ <;> (first | assumption | exact (Below.refl _ _).drew | exact (‹Below w0.heap.size w0 _ ∧ _›).1)))
    (first
      | (go_at_call 26; (with_reducible refine (CN.out _ ?_).mono ?_); (focus (first | exact (Below.refl _ _).drew | exact (‹Below w0.heap.size w0 _ ∧ _›).1)); rintro e W ⟨rfl, rfl⟩)
      | (go_at_call 24; (with_reducible refine (CL.out _ ?_).mono ?_); (focus (first | exact (Below.refl _ _).drew | exact (‹Below w0.heap.size w0 _ ∧ _›).1)); rintro e W1 ⟨ad1, cap1, rfl, hown1, hB1⟩; have hB01 := (‹Below w0.heap.size w0 _ ∧ _›).1.trans (hB1.mono (‹Below w0.heap.size w0 _ ∧ _›).1.size); have hR1 := Lib.hid hown1.rd.1; clear hown1)
      | (go_at_call 31; (with_reducible refine (CR.out _ ?_).mono ?_); (focus (exact hB01)); rintro e W2 ⟨ad2, cap2, rfl, hown2, hB2⟩; have hB02 := hB01.trans (hB2.mono hB01.size); have hR2 := Lib.hid hown2.rd.1; have hR12 := Lib.hid (hR1.out.below hB2); clear hown2)
      | (go_at_call 21; (with_reducible refine (CS.out _ _ _ _ _ ?_ ?_).mono ?_); (focus (exact hR12.out)); (focus (exact hR2.out)); rintro e W3 ⟨rfl, hB3⟩; have hB03 := hB02.trans (hB3.mono hB02.size)))
  have HBF := Lib.hid hB03
  clear CN CL CR CS hR1 hR2 hR12 hB01 hB02 hB03 cc hB1 hB2 hB3
  have cc := HBX.out W3 HBF.out
  go_wp2_with fail
  go_loopw [5] (fun i wr => ∃ z : Int, -1 ≤ z ∧ z ≤ (n : Int) + 1 ∧ i = .int .i64 z ∧ Hid (Below w0.heap.size w0 wr)) (fun i _ => ((n : Int) + 1 - intOf i).toNat)
  case atStart => exact ⟨-1, by omega, by omega, rfl, HBF⟩
  case round =>
    clear cc
    obtain ⟨z, hz1, hz2, rfl, hB⟩ := hrel
    obtain ⟨c0, c1⟩ := HBX.out _ hB.out
    by_cases hlt : z ≤ (n : Int)
    · have h65 : z < 65 := by omega
      have HV := Lib.hid (HOF.out z)
      have CAz := Lib.hid (CA.out z)
      have CBz := Lib.hid (CB.out z)
      have hnl := HNL.out z
      have hBB := hB.out
      clear CA CB HNL HOF HBF
      generalize nearL n L2 z = ms at *
      have CO := Lib.hid (fun a c W h => Nodes.rof_any a ms.length c ms W rfl (by omega) h)
      rw [HV.out] at CO
      generalize nearP L1 z = v at *
      go_upto_region 6 with fail
      go_region_held_law (fun W => Below w0.heap.size w0 W ∧ W.cell? ⟨w.heap.size, 0, none⟩ = some (.int .i64 (n : Int)) ∧ W.cell? ⟨w.heap.size, 1, none⟩ = some (.slice ad len cap))
        ((refine ⟨?_, HBX.out _ ?_⟩ <;> (first | assumption | exact hBB.drew | exact (‹Below w0.heap.size w0 _ ∧ _›).1)))
        (first
          | (go_at_call 25; (with_reducible refine (CAz.out _ ?_).mono ?_); (focus (first | exact hBB.drew | exact (‹Below w0.heap.size w0 _ ∧ _›).1)); rintro e W ⟨rfl, rfl⟩)
          | (go_at_call 33; (with_reducible refine (CBz.out _ ?_).mono ?_); (focus (first | exact hBB.drew | exact (‹Below w0.heap.size w0 _ ∧ _›).1)); rintro e W2 ⟨ad2, cap2, rfl, hown2, hB2⟩; have hB02 := (‹Below w0.heap.size w0 _ ∧ _›).1.trans (hB2.mono (‹Below w0.heap.size w0 _ ∧ _›).1.size); have hR2 := Lib.hid hown2.rd.1; clear hown2)
          | (go_at_call 32; (with_reducible refine (CO.out _ _ _ ?_).mono ?_); (focus (exact hR2.out)); rintro e W3 ⟨rfl, rfl⟩))
      have HBR := Lib.hid hB02
      clear hB02 hB2 hR2 CAz CBz CO
      go_wp2_with fail
      go_roundw
      case rel => exact ⟨z + 1, by omega, by omega, by go_num, HBR⟩
      case measure => simp [intOf]; omega
    · have hd : decide (z ≤ (n : Int)) = false := decide_eq_false hlt
      have HF := Lib.hid (HB.out.trans (hB.out.mono HB.out.size))
      clear hlt
      go_wp2_with fail
      go_ret
      exact ⟨rfl, HF.out⟩
def ex : List Pr := [(0, 1), (2, 1)]
theorem ex_er : erF 3 [] ex = 0 := by decide +kernel
theorem ex_links : linksL 3 ex = [(0, 1), (1, 2)] := by decide +kernel
theorem ex_near : nearP ex 1 = 5 := by decide +kernel
set_option maxHeartbeats 4000000 in
theorem works16_any (w : World) : Calls Try.prog 13 #[] w fun e w' => e = .returned (.bool true) ∧ Below w.heap.size w w' := by
  obtain ⟨w0, hw0⟩ : ∃ w0, Hid (w0 = w.alloc (.cells #[.int .i64 0, .int .i64 1, .int .i64 2, .int .i64 1] 35)) := ⟨_, Lib.hid rfl⟩
  have hR : RdG w0 (some ⟨w.heap.size, 0, none⟩) ex := by
    rw [hw0.out]
    have h : OwnG (w.alloc (.cells (ex.flatMap enc).toArray 35)) w.heap.size (.slice (some ⟨w.heap.size, 0, none⟩) ex.length ex.length) ex := Rw.OwnS.lit w ex enc_len (by unfold maxLen ex; simp)
    exact h.rd.1
  have HB0 : Hid (Below w.heap.size w w0) := Lib.hid (by rw [hw0.out]; exact (Below.refl _ _).alloc (Nat.le_refl _) _)
  have CN := Lib.hid (new_in 3 (by omega) (by omega) (some ⟨w.heap.size, 0, none⟩) 2 2 ex rfl (by omega) (by
    intro p hp
    simp only [ex, List.mem_cons, List.not_mem_nil, or_false] at hp
    unfold inI
    rcases hp with rfl | rfl <;> simp) w0 hR)
  clear hR
  go_enter Try.func13, Try.ntmps13
  go_upto_region 1 with fail
  go_wp2_with (go_at_call 10; rw [← hw0.out]; refine (CN.out).mono ?_; rintro e w1 ⟨hy, -, hB1⟩; obtain ⟨g, b, rfl, hG, -, -⟩ := hy ex_er; have HG := Lib.hid hG; have HB1 := Lib.hid (HB0.out.trans (hB1.mono HB0.out.size)); clear hy hB1 hG)
  have CL := links_any g b 3 ex w1 HG.out
  rw [ex_links] at CL
  refine (CL).mono ?_; rintro e w2 ⟨ad, cap, rfl, hown, hB2⟩
  obtain ⟨b1, o1, had, -, d0, d1⟩ := rd_at hown.rd.1 (i := 0) (by simp)
  obtain ⟨b2, o2, had2, -, d2, d3⟩ := rd_at hown.rd.1 (i := 1) (by simp)
  subst had
  simp only [Option.some.injEq, Addr.mk.injEq, and_true] at had2
  obtain ⟨rfl, rfl⟩ := had2
  simp at d0 d1 d2 d3
  have CN2 := Lib.hid (n_any g b 3 ex w2 (HG.out.below hB2))
  have CA2 := Lib.hid (near_any g b 3 ex 1 w2 (HG.out.below hB2))
  rw [ex_near] at CA2
  have HF := Lib.hid (HB1.out.trans (hB2.mono HB1.out.size))
  clear CL hown hB2 HG HB1 CN
  go_wp2_with fail
  refine (CN2.out).mono ?_; rintro e w' ⟨rfl, rfl⟩
  go_wp2_with fail
  refine (CA2.out).mono ?_; rintro e w' ⟨rfl, rfl⟩
  go_wp2_with fail
  go_ret
  exact ⟨rfl, HF.out⟩
end Go.Proofs.Ytlfkeonopdhoeaa.Grf
