/- The chapter's example (layer 10). -/
import Derived.Test.YtjifdbhgoakjpaaDatF
import Derived.Test.YtjifdbhgoakjpaaDatH
import Derived.Lib.SmallJoins
namespace Go.Proofs.Ytjifdbhgoakjpaa.Dat
open Go.ChangeShapes Go.WideShapes Go.ChangeAt Go.RowKit Go.Deep
open Go.Proofs.Ytjifdbhgoakjpaa.Byt Go.Proofs.Ytjifdbhgoakjpaa.Key Go.Proofs.Ytjifdbhgoakjpaa.Buf Go.Proofs.Ytjifdbhgoakjpaa.Hed Go.Proofs.Ytjifdbhgoakjpaa.BufM
set_option linter.unusedVariables false
set_option linter.unusedSimpArgs false
abbrev hi : List UInt8 := [104, 105]
abbrev exP (ad : Option Addr) (cap : Nat) : Pk := mk4 (5, 1, 2) 1 ad cap hi
theorem ex_good (ad : Option Addr) (cap : Nat) : datG (exP ad cap) = true := by
  have h := eqP_self (exP ad cap)
  unfold datG
  rw [show mk4 (exP ad cap).key (exP ad cap).hops (exP ad cap).ad (exP ad cap).cap (exP ad cap).body = exP ad cap from rfl, h]
  have : gd (exP ad cap) = true := by
    rw [gd_flood rfl]
    show (okHops 1 && goodK (5, 1, 2)) = true
    decide
  rw [this]
  simp [exP, mk4]
theorem ex_put : wBytes (9 : Int).toNat (0, []) hi = (0, [2, 104, 105]) := by
  unfold wBytes wNum
  rw [show sev hi.length = [2] from by rw [show hi.length = 2 from rfl, sev_small (by omega)]; rfl]
  decide
set_option maxRecDepth 100000 in
set_option maxHeartbeats 2000000 in
theorem dworks_any (w : World) :
    Calls Try.prog 13 #[] w fun e w' => e = .returned (.bool true) ∧ Below w.heap.size w w' := by
  obtain ⟨W1, hW1⟩ : ∃ W1, Hid (W1 = w.alloc (.cells #[.int .u8 104, .int .u8 105] 5 (2, 3))) := ⟨_, Lib.hid rfl⟩
  have HB1 : Hid (Below w.heap.size w W1) := Lib.hid (by rw [hW1.out]; exact (Below.refl _ _).alloc (Nat.le_refl _) _)
  have hcv := Joins.run_convert_bytes_const_at w 25 5 #[.int .u8 104, .int .u8 105] 2 2 w.heap.size rfl Try.underlying25 Try.underlying5
  have CN : Hid (Calls Try.prog 9 #[.agg #[.int .i64 5, .int .i64 1, .int .u32 2], .slice (some ⟨w.heap.size, 0, none⟩) 2 2] W1 fun e w' => ∃ ad cap, e = .returned (pval (exP ad cap)) ∧ Hid (OwnB w' w.heap.size (.slice ad 2 cap) hi) ∧ Hid (Below w.heap.size w w')) := Lib.hid ((dnew_any (5, 1, 2) (some ⟨w.heap.size, 0, none⟩) 2 hi W1 (by simp) (by simp) (by omega) (.inr ⟨w.heap.size, 0, rfl, by
    intro i h
    rw [hW1.out, World.cell?_alloc_mark]
    match i, h with
    | 0, _ => rfl
    | 1, _ => rfl
    | n + 2, h => exfalso; simp only [List.length_cons, List.length_nil] at h; omega⟩)).mono fun e w' hh => by
    obtain ⟨ad, cap, rfl, ho, hB⟩ := hh
    exact ⟨ad, cap, rfl, Lib.hid (Own.mono ho (by have := HB1.out.size; omega)), Lib.hid (HB1.out.trans (hB.mono HB1.out.size))⟩)
  have CW := Lib.hid (fun W => Buf.new_any 9 (by omega) W)
  have CP : Hid (∀ W g ad cap, OwnB W w.heap.size (.slice ad 2 cap) hi → (∀ b, Value.ownBlock (.slice ad 2 cap) = some b → b < g) → WR W g g (9 : Int).toNat (0, []) none → Calls Try.prog 16 #[.pointer (some ⟨g, 0, none⟩), pval (exP ad cap)] W (WPost W g g (9 : Int).toNat none (0, [2, 104, 105]))) := Lib.hid (fun W g ad cap ho hb h => by
    have := dput_any (exP ad cap) g g (9 : Int).toNat (0, []) none W h (by simp [exP, mk4]) ho.rd.1 ho.pos.2.2.1 (fun _ b o e => ⟨by have := hb b (by simp only [exP, mk4] at e; rw [e]; rfl); omega, by simp⟩)
    rwa [show (exP ad cap).body = hi from rfl, ex_put] at this)
  have CD : Hid (∀ W g row, WR W g g (9 : Int).toNat (0, [2, 104, 105]) row → Calls Try.prog 17 #[.pointer (some ⟨g, 0, none⟩)] W (fun e w2 => ∃ ad cap, e = .returned (.tuple #[.slice ad 3 cap, .int .i64 0]) ∧ Hid (OwnB w2 W.heap.size (.slice ad 3 cap) [2, 104, 105]) ∧ Hid (Below W.heap.size W w2))) := Lib.hid (fun W g row h => (done_any g g (9 : Int).toNat _ row W h (by simp)).mono fun e w2 hx => by
    obtain ⟨v, rfl, ho, hB⟩ := hx
    simp only [if_true] at ho
    obtain ⟨ad, cap, rfl, _⟩ := Own.shape ho
    exact ⟨ad, cap, rfl, Lib.hid ho, Lib.hid hB⟩)
  have CE : Hid (∀ W ad cap, OwnB W w.heap.size (.slice ad 2 cap) hi → Calls Try.prog 24 #[pval (exP ad cap), .int .i64 10] W fun e w' => ∃ ad2 cap2, e = .returned (.tuple #[.agg #[.int .i64 15, .int .i64 5, .int .i64 1, .int .u32 2, .slice ad2 2 cap2], .int .i64 0]) ∧ Hid (OwnB w' W.heap.size (.slice ad2 2 cap2) hi) ∧ Hid (Below W.heap.size W w')) := Lib.hid (fun W ad cap ho => (entry_yes (exP ad cap) 10 W ho.rd.1 ho.pos.1 (by simp [exP, mk4]) (by have := ho.pos.2.1; unfold maxLen at this; simpa [exP, mk4] using this) (ex_good ad cap) (by omega) (by simp [exP, mk4])).mono fun e w' hx => by
    obtain ⟨ad2, cap2, rfl, ho2, hB⟩ := hx
    exact ⟨ad2, cap2, rfl, Lib.hid (Own.mono ho2 (by omega)), Lib.hid hB⟩)
  have CG : Hid (∀ W ad cap, OwnB W w.heap.size (.slice ad 2 cap) hi → Calls Try.prog 11 #[pval (exP ad cap)] W fun e w' => e = .returned (.bool true) ∧ Below W.heap.size W w') := Lib.hid (fun W ad cap ho => by
    have := dgood_any (exP ad cap) W ho.rd.1
    rwa [ex_good] at this)
  unfold exP mk4 pval Pk.cells at CN CP CE CG
  simp only at CN CP CE CG
  have HZ : Hid (∀ (W : World) (b : Nat) ad cap, Blk W b 27 #[.int .i64 4, .int .i64 5, .int .i64 1, .int .u32 2, .int .i64 1, .int .i64 0, .int .i64 0, .int .i64 0, .int .i64 0, .int .i64 0, .int .i64 0, .slice ad 2 cap] → _ ∧ _) := Lib.hid (fun W b ad cap h => blk_cells (p := exP ad cap) h)
  unfold exP mk4 at HZ
  simp only at HZ
  simp only [show hi.length = 2 from rfl] at CN CP CE CG HZ
  go_enter Try.func13, Try.ntmps13
  go_wp2_with fail
  rw [← hW1.out]
  refine (CN.out).mono ?_; rintro e w2 ⟨ad, cap, rfl, HO2, HB2⟩
  go_upto_region 2 with fail
  obtain ⟨W3, hW3⟩ : ∃ W3, Hid (W3 = w2.alloc (.cells #[.int .i64 4, .int .i64 5, .int .i64 1, .int .u32 2, .int .i64 1, .int .i64 0, .int .i64 0, .int .i64 0, .int .i64 0, .int .i64 0, .int .i64 0, .slice ad 2 cap] 27)) := ⟨_, Lib.hid rfl⟩
  rw [← hW3.out]
  have hX := one_box w2 W3 _ _ hW3.out
  have HB3 := Lib.hid (HB2.out.trans (hX.1.mono HB2.out.size))
  have HP3 := Lib.hid hX.2
  have HO3 := Lib.hid (HO2.out.below hX.1)
  clear CN hW1 HB1 hX hW3 HO2 HB2
  go_wp2_with fail
  refine (CW.out _).mono ?_; rintro e w4 ⟨rfl, hr4, hB4, hs4⟩
  have CP4 := Lib.hid (CP.out w4 W3.heap.size ad cap (HO3.out.below hB4) (fun b e => (own_at HO3.out e).2) hr4)
  have HB4 := Lib.hid (HB3.out.trans (hB4.mono HB3.out.size))
  have HP4 := Lib.hid (HP3.out.below hB4)
  have HO4 := Lib.hid (HO3.out.below hB4)
  have hz := HZ.out _ _ _ _ HP4.out
  have HF := Lib.hid HB3.out.size
  have HL := Lib.hid (And.intro HP3.out.lt (fun b e => (own_at HO3.out (k := b) e).2))
  clear CW CP hr4 hB4 hs4 HB3 HP3 HO3
  obtain ⟨c0, c1, c2, c3, c4, c5, c6, c7, c8, c9, c10, c11⟩ := hz
  go_wp2_with fail
  refine (CP4.out).mono ?_; rintro e w5 ⟨rfl, row5, hr5, hst5⟩
  have HB5 := Lib.hid (HB4.out.trans (hst5.below.mono HF.out))
  have HP5 : Hid (Blk w5 w2.heap.size 27 #[.int .i64 4, .int .i64 5, .int .i64 1, .int .u32 2, .int .i64 1, .int .i64 0, .int .i64 0, .int .i64 0, .int .i64 0, .int .i64 0, .int .i64 0, .slice ad 2 cap]) := Lib.hid ((hst5.below.block _ HL.out.1).trans HP4.out)
  have HO5 : Hid (OwnB w5 w.heap.size (.slice ad 2 cap) hi) := Lib.hid (own_kept HO4.out (by have := hst5.below.size; omega) (fun k e => hst5.below.block k (HL.out.2 k e)))
  have CD5 := Lib.hid (CD.out _ _ _ hr5)
  clear hr5 hst5 CP4 c0 c1 c2 c3 c4 c5 c6 c7 c8 c9 c10 c11 HB4 HP4 HO4
  go_wp2_with fail
  refine (CD5.out).mono ?_; rintro e w6 ⟨ad6, cap6, rfl, HO6, HB6⟩
  have HB7 := Lib.hid (HB5.out.trans (HB6.out.mono HB5.out.size))
  have HP7 := Lib.hid (HP5.out.below HB6.out)
  have HO7 := Lib.hid (HO5.out.below HB6.out)
  have CE7 := Lib.hid (CE.out w6 ad cap HO7.out)
  have hz := HZ.out _ _ _ _ HP7.out
  obtain ⟨c0, c1, c2, c3, c4, c5, c6, c7, c8, c9, c10, c11⟩ := hz
  clear HB5 HP5 HO5 CD CD5 CE HB6
  go_wp2_with fail
  refine (CE7.out).mono ?_; rintro e w8 ⟨ad8, cap8, rfl, HO8, HB8⟩
  clear c0 c1 c2 c3 c4 c5 c6 c7 c8 c9 c10 c11 CE7
  go_upto_region 6 with fail
  obtain ⟨W9, hW9⟩ : ∃ W9, Hid (W9 = w8.alloc (.cells #[.int .i64 15, .int .i64 5, .int .i64 1, .int .u32 2, .slice ad8 2 cap8] 51)) := ⟨_, Lib.hid rfl⟩
  rw [← hW9.out]
  have hX := one_box w8 W9 _ _ hW9.out
  have hB79 := HB8.out.trans (hX.1.mono HB8.out.size)
  have e0 := hX.2.cell 0
  have e4 := hX.2.cell 4
  simp only [List.getElem?_toArray, List.getElem?_cons_succ, List.getElem?_cons_zero] at e0 e4
  have s6 := HO6.out.str hB79
  have s8 := HO8.out.str hX.1
  have HB9 := Lib.hid (HB7.out.trans (hB79.mono HB7.out.size))
  have hz := HZ.out _ _ _ _ (HP7.out.below hB79)
  have CG9 := Lib.hid (CG.out W9 ad cap (HO7.out.below hB79))
  obtain ⟨c0, c1, c2, c3, c4, c5, c6, c7, c8, c9, c10, c11⟩ := hz
  clear hX hB79 HO6 HO7 HO8 HB8 CG HZ HP7 hW9
  unfold strB at s6 s8
  go_wp2_with fail
  refine (CG9.out).mono ?_; rintro e w10 ⟨rfl, hB10⟩
  have HB10 := Lib.hid (HB9.out.trans (hB10.mono HB9.out.size))
  clear hB10
  go_wp2_with fail
  go_ret
  exact ⟨rfl, HB10.out⟩
end Go.Proofs.Ytjifdbhgoakjpaa.Dat
