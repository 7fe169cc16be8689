/- The chapter's example (layer 13). -/
import Derived.Test.YtidfdlpdacbkoaaChuB
import Derived.Test.YtidfdlpdacbkoaaChuN
import Derived.Test.YtidfdlpdacbkoaaChuP
import Derived.Lib.SmallJoins
namespace Go.Proofs.Ytidfdlpdacbkoaa.Chu
open Go.ChangeShapes Go.WideShapes Go.ChangeAt Go.RowKit Go.Deep
open Go.Proofs.Ytidfdlpdacbkoaa.Byt Go.Proofs.Ytidfdlpdacbkoaa.Key Go.Proofs.Ytidfdlpdacbkoaa.Buf Go.Proofs.Ytidfdlpdacbkoaa.Hed Go.Proofs.Ytidfdlpdacbkoaa.Dat Go.Proofs.Ytidfdlpdacbkoaa.BufM Go.Proofs.Ytidfdlpdacbkoaa.Pkt
set_option linter.unusedVariables false
set_option linter.unusedSimpArgs false
abbrev ab : List UInt8 := [97, 98]
abbrev exC (ad : Option Addr) (cap : Nat) : Pk := chuP (9, 1, 0) 2 3 0 1 ad cap ab
theorem exc_good (ad : Option Addr) (cap : Nat) : chuG (exC ad cap) = true := by
  refine (chuG_iff _).2 ⟨rfl, ?_, ⟨by simp [exC, chuP], by simp [exC, chuP]⟩, ⟨by simp [exC, chuP], by simp [exC, chuP]⟩, ⟨by simp [exC, chuP], by simp [exC, chuP], by simp [exC, chuP], by simp [exC, chuP]⟩, by simp [exC, chuP], rfl, rfl⟩
  rw [gd_flood rfl]
  show (okHops 1 && goodK (9, 1, 0)) = true
  decide
theorem exc_mate (ad : Option Addr) (cap : Nat) : mateB (exC ad cap) (exC ad cap) = true := by
  unfold mateB
  rw [exc_good]
  simp
theorem exc_bytes (ad : Option Addr) (cap : Nat) : chuB (exC ad cap) = [2, 3, 0, 1, 2, 97, 98] := by
  unfold chuB
  rw [show (exC ad cap).body = ab from rfl, show un (exC ad cap).no = 2 from rfl, sev_small (by omega), show ab.length = 2 from rfl, sev_small (by omega)]
  rfl
theorem exc_put (ad : Option Addr) (cap : Nat) : chuS (9 : Int).toNat (0, []) (exC ad cap) = (0, [2, 3, 0, 1, 2, 97, 98]) := by
  rw [chu_fits _ _ (by rw [exc_bytes]; decide), exc_bytes]
set_option maxRecDepth 100000 in
set_option maxHeartbeats 2000000 in
theorem cworks_any (w : World) :
    Calls Try.prog 13 #[] w fun e w' => e = .returned (.bool true) ∧ Below w.heap.size w w' := by
  obtain ⟨W1, hW1⟩ : ∃ W1, Hid (W1 = w.alloc (.cells #[.int .u8 97, .int .u8 98] 5 (2, 3))) := ⟨_, Lib.hid rfl⟩
  have HB1 : Hid (Below w.heap.size w W1) := Lib.hid (by rw [hW1.out]; exact (Below.refl _ _).alloc (Nat.le_refl _) _)
  have hcv := Joins.run_convert_bytes_const_at w 25 5 #[.int .u8 97, .int .u8 98] 2 2 w.heap.size rfl Try.underlying25 Try.underlying5
  have CN : Hid (Calls Try.prog 8 #[.agg #[.int .i64 9, .int .i64 1, .int .u32 0], .int .i64 2, .int .i64 3, .int .i64 0, .int .i64 1, .slice (some ⟨w.heap.size, 0, none⟩) 2 2] W1 fun e w' => ∃ ad cap, e = .returned (pval (exC ad cap)) ∧ Hid (OwnB w' w.heap.size (.slice ad 2 cap) ab) ∧ Hid (Below w.heap.size w w')) := Lib.hid ((cnew_any (9, 1, 0) 2 3 0 1 (some ⟨w.heap.size, 0, none⟩) 2 ab W1 (by simp) (by simp) (.inr ⟨w.heap.size, 0, rfl, by
    intro i h
    rw [hW1.out, World.cell?_alloc_mark]
    match i, h with
    | 0, _ => rfl
    | 1, _ => rfl
    | n + 2, h => exfalso; simp only [List.length_cons, List.length_nil] at h; omega⟩) (fun e => by cases e)).mono fun e w' hh => by
    obtain ⟨ad, cap, rfl, ho, hB⟩ := hh
    exact ⟨ad, cap, rfl, Lib.hid (Own.mono ho (by have := HB1.out.size; omega)), Lib.hid (HB1.out.trans (hB.mono HB1.out.size))⟩)
  have CW := Lib.hid (fun W => Buf.new_any 9 (by omega) W)
  have CP : Hid (∀ W g ad cap, OwnB W w.heap.size (.slice ad 2 cap) ab → (∀ b, Value.ownBlock (.slice ad 2 cap) = some b → b < g) → WR W g g (9 : Int).toNat (0, []) none → Calls Try.prog 16 #[.pointer (some ⟨g, 0, none⟩), pval (exC ad cap)] W (WPost W g g (9 : Int).toNat none (0, [2, 3, 0, 1, 2, 97, 98]))) := Lib.hid (fun W g ad cap ho hb h => by
    have := cput_any (exC ad cap) g g (9 : Int).toNat (0, []) none W h (by simp [exC, chuP]) ho.rd.1 ho.pos.2.2.1 (fun _ b o e => ⟨by have := hb b (by simp only [exC, chuP] at e; rw [e]; rfl); omega, by simp⟩)
    rwa [exc_put] at this)
  have CD : Hid (∀ W g row, WR W g g (9 : Int).toNat (0, [2, 3, 0, 1, 2, 97, 98]) row → Calls Try.prog 17 #[.pointer (some ⟨g, 0, none⟩)] W (fun e w2 => ∃ ad cap, e = .returned (.tuple #[.slice ad 7 cap, .int .i64 0]) ∧ Hid (OwnB w2 W.heap.size (.slice ad 7 cap) [2, 3, 0, 1, 2, 97, 98]) ∧ Hid (Below W.heap.size W w2))) := Lib.hid (fun W g row h => (done_any g g (9 : Int).toNat _ row W h (by simp)).mono fun e w2 hx => by
    obtain ⟨v, rfl, ho, hB⟩ := hx
    simp only [if_true] at ho
    obtain ⟨ad, cap, rfl, _⟩ := Own.shape ho
    exact ⟨ad, cap, rfl, Lib.hid ho, Lib.hid hB⟩)
  have CG : Hid (∀ W ad cap, Calls Try.prog 11 #[pval (exC ad cap)] W fun e w' => e = .returned (.bool true) ∧ Below W.heap.size W w') := Lib.hid (fun W ad cap => by
    have := cgood_any (exC ad cap) W
    rwa [exc_good] at this)
  have CM : Hid (∀ W ad cap, Calls Try.prog 14 #[pval (exC ad cap), pval (exC ad cap)] W fun e w' => e = .returned (.bool true) ∧ Below W.heap.size W w') := Lib.hid (fun W ad cap => by
    have := mate_any (exC ad cap) (exC ad cap) W
    rwa [exc_mate] at this)
  unfold exC chuP pval Pk.cells at CN CP CG CM
  simp only at CN CP CG CM
  have HZ : Hid (∀ (W : World) (b : Nat) ad cap, Blk W b 27 #[.int .i64 6, .int .i64 9, .int .i64 1, .int .u32 0, .int .i64 1, .int .i64 2, .int .i64 3, .int .i64 0, .int .i64 1, .int .i64 0, .int .i64 0, .slice ad 2 cap] → _ ∧ _) := Lib.hid (fun W b ad cap h => blk_cells (p := exC ad cap) h)
  unfold exC chuP at HZ
  simp only at HZ
  simp only [show ab.length = 2 from rfl] at CN CP CG CM HZ
  go_enter Try.func13, Try.ntmps13
  go_wp2_with fail
  rw [← hW1.out]
  refine (CN.out).mono ?_; rintro e w2 ⟨ad, cap, rfl, HO2, HB2⟩
  go_upto_region 2 with fail
  obtain ⟨W3, hW3⟩ : ∃ W3, Hid (W3 = w2.alloc (.cells #[.int .i64 6, .int .i64 9, .int .i64 1, .int .u32 0, .int .i64 1, .int .i64 2, .int .i64 3, .int .i64 0, .int .i64 1, .int .i64 0, .int .i64 0, .slice ad 2 cap] 27)) := ⟨_, Lib.hid rfl⟩
  rw [← hW3.out]
  have hX := one_box w2 W3 _ _ hW3.out
  have HB3 := Lib.hid (HB2.out.trans (hX.1.mono HB2.out.size))
  have HP3 := Lib.hid hX.2
  have HO3 := Lib.hid (HO2.out.below hX.1)
  clear CN hW1 HB1 hX hW3 HO2 HB2
  go_wp2_with fail
  refine (CW.out _).mono ?_; rintro e w4 ⟨rfl, hr4, hB4, hs4⟩
  have CP4 := Lib.hid (CP.out w4 W3.heap.size ad cap (HO3.out.below hB4) (fun b e => (own_at HO3.out e).2) hr4)
  have HB4 := Lib.hid (HB3.out.trans (hB4.mono HB3.out.size))
  have HP4 := Lib.hid (HP3.out.below hB4)
  have hz := HZ.out _ _ _ _ HP4.out
  have HF := Lib.hid HB3.out.size
  have HL := Lib.hid HP3.out.lt
  clear CW CP hr4 hB4 hs4 HB3 HP3 HO3
  obtain ⟨c0, c1, c2, c3, c4, c5, c6, c7, c8, c9, c10, c11⟩ := hz
  go_wp2_with fail
  refine (CP4.out).mono ?_; rintro e w5 ⟨rfl, row5, hr5, hst5⟩
  have HB5 := Lib.hid (HB4.out.trans (hst5.below.mono HF.out))
  have HP5 : Hid (Blk w5 w2.heap.size 27 #[.int .i64 6, .int .i64 9, .int .i64 1, .int .u32 0, .int .i64 1, .int .i64 2, .int .i64 3, .int .i64 0, .int .i64 1, .int .i64 0, .int .i64 0, .slice ad 2 cap]) := Lib.hid ((hst5.below.block _ HL.out).trans HP4.out)
  have CD5 := Lib.hid (CD.out _ _ _ hr5)
  clear hr5 hst5 CP4 c0 c1 c2 c3 c4 c5 c6 c7 c8 c9 c10 c11 HB4 HP4
  go_wp2_with fail
  refine (CD5.out).mono ?_; rintro e w6 ⟨ad6, cap6, rfl, HO6, HB6⟩
  have HB7 := Lib.hid (HB5.out.trans (HB6.out.mono HB5.out.size))
  have HP7 := Lib.hid (HP5.out.below HB6.out)
  have hR : (convert 25 9 (.slice ad6 7 cap6)).run Try.prog w6 = .ok (.string ⟨#[2, 3, 0, 1, 2, 97, 98]⟩) w6 := HO6.out.str (Below.refl _ _)
  have hz := HZ.out _ _ _ _ HP7.out
  obtain ⟨c0, c1, c2, c3, c4, c5, c6, c7, c8, c9, c10, c11⟩ := hz
  clear HB5 HP5 CD CD5 HB6 HO6
  go_wp2_with fail
  refine (CG.out _ ad cap).mono ?_; rintro e w8 ⟨rfl, hB8⟩
  have HB8 := Lib.hid (HB7.out.trans (hB8.mono HB7.out.size))
  have HP8 := Lib.hid (HP7.out.below hB8)
  clear c0 c1 c2 c3 c4 c5 c6 c7 c8 c9 c10 c11 hB8 HP7 HB7 hR CG
  obtain ⟨c0, c1, c2, c3, c4, c5, c6, c7, c8, c9, c10, c11⟩ := HZ.out _ _ _ _ HP8.out
  go_wp2_with fail
  refine (CM.out _ ad cap).mono ?_; rintro e w9 ⟨rfl, hB9⟩
  have HB9 := Lib.hid (HB8.out.trans (hB9.mono HB8.out.size))
  clear hB9
  go_wp2_with fail
  go_ret
  exact ⟨rfl, HB9.out⟩
end Go.Proofs.Ytidfdlpdacbkoaa.Chu
