/- Contracts of package key (layer 6): Sort. -/
import Derived.Test.YtpfnjippdjhfgaaDoorKeyG
namespace Go.Proofs.YtpfnjippdjhfgaaDoor.Key
open Go.ChangeShapes Go.WideShapes Go.ChangeAt Go.RowKit
set_option linter.unusedVariables false
set_option maxRecDepth 100000 in
theorem sort_any (ad : Option Addr) (len cap : Nat) (l : List Ky) (w : World) (hlen : l.length = len) (hm : len ≤ 1000000) (hr : RdK w ad l) (hok : ∀ y ∈ l, ok y) :
    Calls Tryd.prog 19 #[.slice ad len cap] w (PostK (sortK l) w) := by
  obtain ⟨i0, hi, hz0, hz1, hz2⟩ := info_parts infoKey
  have HL := Lib.hid hlen
  have HR := Lib.hid hr
  have HO := Lib.hid hok
  have CS : Hid (Calls Tryd.prog 30 #[] w fun e w' => ∃ bv b, e = .returned (.func (.func 38) #[] #[.pointer (some ⟨bv, 0, none⟩)]) ∧ Seen w' bv b [] ∧ w.heap.size ≤ bv ∧ w.heap.size ≤ b ∧ Below w.heap.size w w') := Lib.hid (seeing_any w)
  have CC : Hid (∀ x bv b l W, ok x → l.length < 9223372036854775807 → Seen W bv b l → Calls Tryd.prog 38 #[kval x, .pointer (some ⟨bv, 0, none⟩)] W fun e w' => e = .returned (.bool (inK l x)) ∧ Seen w' bv b (l ++ [x]) ∧ W.grownBy w' (some b)) := Lib.hid (fun x bv b l W h1 h2 h3 => seen_any x h1 bv b l h2 W h3)
  clear hlen hr hok
  go_enter Tryd.func19, Tryd.ntmps19
  go_wp2_with fail
  refine (CS.out).mono ?_; rintro e w2 ⟨bv, b, rfl, hS, hbv, hb, hB2⟩
  have HS2 := Lib.hid hS
  have hbl2 : bv < w2.heap.size ∧ b < w2.heap.size := ⟨hS.2.2.1, by obtain ⟨-, -, -, g, h, -⟩ := hS; exact h.lt⟩
  have HB2 := Lib.hid hB2
  have hsz2 := hB2.size
  clear hS hB2
  go_wp2_with fail
  go_loopw [4, 10] (fun v i wr => ∃ (k : Nat) (out : List Ky), k ≤ len ∧ i = .int .i64 k ∧ OwnK wr w2.heap.size v out ∧ out.length ≤ k ∧ Hid (Seen wr bv b (l.take k)) ∧ Hid (Below w.heap.size w wr) ∧ Hid (out ++ uniK (l.take k) (l.drop k) = uniK [] l) ∧ w2.heap.size ≤ wr.heap.size) (fun _ i _ => len - (intOf i).toNat)
  case atStart => exact ⟨0, [], Nat.zero_le _, rfl, Rw.OwnS.nil _ _, Nat.le_refl _, HS2, HB2, Lib.hid (by rw [List.take_zero, List.drop_zero]; rfl), Nat.le_refl _⟩
  case round =>
    obtain ⟨k, out, hk, rfl, hown, hol, hS, hB, hT, hsz⟩ := hrel
    by_cases hlt : k < len
    · obtain ⟨b3, off, rfl, hbw, hc⟩ := HR.out.at_ (i := k) (by rw [HL.out]; exact hlt)
      have HOx := Lib.hid (HO.out (l.getD k default) (by simp [List.getD, show k < l.length by rw [HL.out]; exact hlt]))
      have HTS := Lib.hid (take_succ' (l := l) (k := k) (by rw [HL.out]; exact hlt))
      have HD := Lib.hid (drop_cons (l := l) (k := k) (by rw [HL.out]; exact hlt))
      have hc' := hc.below hB.out hbw
      have HLT : Hid ((l.take k).length < 9223372036854775807) := Lib.hid (by rw [List.length_take, HL.out]; omega)
      clear hc
      generalize l.getD k default = y at *
      obtain ⟨a, b', c⟩ := y
      obtain ⟨c0, c1, c2⟩ := at3 hc'
      have CX : Hid (Calls Tryd.prog 38 #[.agg #[.int .i64 a, .int .i64 b', .int .u32 c], .pointer (some ⟨bv, 0, none⟩)] (wr.alloc (.cells #[.int .i64 a, .int .i64 b', .int .u32 c] 24)) fun e w' => e = .returned (.bool (inK (l.take k) (a, b', c))) ∧ Hid (Seen w' bv b (l.take (k + 1))) ∧ (wr.alloc (.cells #[.int .i64 a, .int .i64 b', .int .u32 c] 24)).grownBy w' (some b)) :=
        Lib.hid ((CC.out (a, b', c) bv b (l.take k) _ HOx.out HLT.out (hS.out.below (box_below wr _))).mono fun e w' h => ⟨h.1, Lib.hid (by rw [HTS.out]; exact h.2.1), h.2.2⟩)
      have hbl : b < wr.heap.size := by omega
      have HG : Hid (∀ W, (wr.alloc (.cells #[.int .i64 a, .int .i64 b', .int .u32 c] 24)).grownBy W (some b) → (Below w.heap.size w W ∧ OwnK W w2.heap.size u4 out ∧ w2.heap.size ≤ W.heap.size) ∧ W.cell? ⟨wr.heap.size, 0, none⟩ = some (.int .i64 a) ∧ W.cell? ⟨wr.heap.size, 1, none⟩ = some (.int .i64 b') ∧ W.cell? ⟨wr.heap.size, 2, none⟩ = some (.int .u32 c)) := Lib.hid (fun W hW => by
        have h1 : Below w.heap.size w (wr.alloc (.cells #[.int .i64 a, .int .i64 b', .int .u32 c] 24)) := hB.out.trans ((box_below wr _).mono hB.out.size)
        have hs := hW.size
        rw [World.size_alloc] at hs
        refine ⟨⟨h1.trans (grown_below hW h1.size (fun k hk => by cases hk; exact hb)), (hown.alloc _).kept hW (.inr fun e => ?_), by omega⟩, ?_⟩
        · have := (World.ownsRow.lt hown b e).1
          omega
        · have h2 := at3 (Rw.At.box (enc := enc) (e := 24) wr (a, b', c) #[.int .i64 a, .int .i64 b', .int .u32 c] rfl)
          simp only [Nat.zero_add] at h2
          exact ⟨hW.cell h2.1 (by simp; omega), hW.cell h2.2.1 (by simp; omega), hW.cell h2.2.2 (by simp; omega)⟩)
      have HNE : ∀ W, OwnK W w2.heap.size u4 out → some bv ≠ u4.ownBlock ∧ some b ≠ u4.ownBlock := fun W h => ⟨fun e => by have := (World.ownsRow.lt h bv e.symm).1; omega, fun e => by have := (World.ownsRow.lt h b e.symm).1; omega⟩
      have HNE := Lib.hid HNE
      have HCT := Lib.hid (fun W => cell_temp W (a, b', c))
      simp only at c0 c1 c2 HCT
      clear hc' hown
      cases hin : inK (l.take k) (a, b', c) with
      | true =>
        rw [hin] at CX
        have HPv : Hid (out ++ uniK (l.take (k + 1)) (l.drop (k + 1)) = uniK [] l) := Lib.hid (by
          have := hT.out
          rw [HD.out, uniK, hin, if_pos rfl] at this
          rw [HTS.out]; exact this)
        clear hin HTS HD hT hS
        go_wp2_with fail
        refine (CX.out).mono ?_; rintro e w7 ⟨rfl, hS7, hg⟩
        have HG7 := Lib.hid (HG.out w7 hg).1
        clear hg HG
        go_wp2_with fail
        go_roundw
        case rel => exact ⟨k + 1, out, by omega, by go_num, HG7.out.2.1, by omega, hS7, Lib.hid HG7.out.1, HPv, HG7.out.2.2⟩
        case measure => simp [intOf]; omega
      | false =>
        rw [hin] at CX
        have HPv : Hid (out ++ [(a, b', c)] ++ uniK (l.take (k + 1)) (l.drop (k + 1)) = uniK [] l) := Lib.hid (by
          have := hT.out
          rw [HD.out, uniK, hin] at this
          simp only [Bool.false_eq_true, if_false] at this
          rw [HTS.out, List.append_assoc]; exact this)
        clear hin HTS HD hT hS
        go_wp2_with fail
        refine (CX.out).mono ?_; rintro e w7 ⟨rfl, hS7, hg⟩
        obtain ⟨⟨hB7, hown7, hsz7⟩, k0, k1, k2⟩ := HG.out w7 hg
        have HB7 := Lib.hid hB7
        clear hg HG c0 c1 c2 hB7
        go_wp2_with (at_builtin; refine Own.wpList_append2 _ rfl _ _ 34 rfl w2.heap.size 24 i0 (.agg #[.int .i64 0, .int .i64 0, .int .u32 0]) 3 24 Tryd.underlying34 hi hz0 hz1 hz2 rfl (by decide) _ _ _ rfl (World.ownsRow.alloc hown7 _) ⟨World.heap _ |>.size, 0, none⟩ 1 1 (enc (a, b', c)) rfl rfl (HCT.out _) (enc_one _) (by unfold maxLen; omega) (by omega) (by simp; omega) ?_; intro v8 w8 hown8 hgrow8 _ _)
        obtain ⟨hown9, hB9, hsz9⟩ := out_step hown7 (Below.refl _ _) hsz7 hown8 hgrow8
        have HS9 : Hid (Seen w8 bv b (l.take (k + 1))) := Lib.hid ((hS7.out.below (box_below _ _)).kept hgrow8 (HNE.out _ hown7).1 (HNE.out _ hown7).2)
        have HB9 : Hid (Below w.heap.size w w8) := Lib.hid (HB7.out.trans (hB9.mono hsz2))
        go_roundw
        case rel => exact ⟨k + 1, out ++ [(a, b', c)], by omega, by go_num, hown9, by simp; omega, HS9, HB9, HPv, hsz9⟩
        case measure => simp [intOf]; omega
    · obtain rfl : k = len := by omega
      have HU : Hid (out = uniK [] l) := Lib.hid (by
        have := hT.out
        rw [List.drop_of_length_le (by rw [HL.out]; exact Nat.le_refl _)] at this
        simpa [uniK] using this)
      obtain ⟨ad2, cap2, rfl, -⟩ := Own.shape hown
      have CF := Lib.hid (sortfunc_any ad2 cap2 w2.heap.size out wr hown (by omega))
      have HBF : Hid (∀ W, wr.grownBy W (Value.slice ad2 out.length cap2).ownBlock → Below w.heap.size w W) := Lib.hid (fun W h => hB.out.trans (grown_below h hB.out.size (fun j e => by have := (World.ownsRow.lt hown j e).1; omega)))
      clear hown hS hT
      go_wp2_with fail
      refine (CF.out).mono ?_; rintro e w5 ⟨rfl, ts, hp, hs, ho, hg⟩
      have HTS : Hid (ts = sortK l) := Lib.hid (sorted_is (by rw [← HU.out]; exact hp) hs)
      have HLE : Hid (out.length = (sortK l).length) := Lib.hid (by rw [← HTS.out]; exact hp.length_eq.symm)
      have HPost : Hid (PostK (sortK l) w (.returned (.slice ad2 out.length cap2)) w5) := Lib.hid (by
        rw [HLE.out]
        refine ⟨ad2, cap2, rfl, ?_, HBF.out w5 hg⟩
        rw [HTS.out, HLE.out] at ho
        exact ho.mono hsz2)
      clear ho hs hp hg HBF
      go_wp2_with fail
      go_ret
      exact HPost.out
end Go.Proofs.YtpfnjippdjhfgaaDoor.Key
