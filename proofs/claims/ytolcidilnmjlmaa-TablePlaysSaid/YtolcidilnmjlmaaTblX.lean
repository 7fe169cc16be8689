/- The document's own answers for layer table (7): Drop. -/
import Derived.Test.YtolcidilnmjlmaaTblS
namespace Go.Proofs.Ytolcidilnmjlmaa.TblR
open Go.ChangeShapes Go.WideShapes Go.ChangeAt Go.RowKit
open Go.Proofs.Ytolcidilnmjlmaa.Key Go.Proofs.Ytolcidilnmjlmaa.Rw Go.Proofs.Ytolcidilnmjlmaa.Tbl
set_option linter.unusedVariables false
set_option linter.unusedSimpArgs false
theorem cell_tempR (w : World) (x : Row) : ∀ j u, (encW x)[j]? = some u → (w.alloc (.cells #[.int .i64 x.1.1, .int .i64 x.1.2.1, .int .u32 x.1.2.2, .int .i64 x.2] 63)).cell? ((⟨w.heap.size, 0, none⟩ : Addr).add j) = some u := fun j u hu => by
  have h := Rw.At.box (enc := encW) (e := 63) w x #[.int .i64 x.1.1, .int .i64 x.1.2.1, .int .u32 x.1.2.2, .int .i64 x.2] rfl j u hu
  rw [Addr.add_lit]
  exact h
theorem out_stepR {wr W w2 : World} {base : Nat} {v v' : Value} {l : List Row} {y : Row} {tmp : Obj} (hown : OwnR wr base v l) (hB : Below wr.heap.size wr W) (hb : base ≤ wr.heap.size)
    (h : w2.ownsRow base 63 4 v' (l.length + 1) (l.flatMap encW ++ encW y)) (hg : (W.alloc tmp).grownBy w2 v.ownBlock) :
    OwnR w2 base v' (l ++ [y]) ∧ Below base wr w2 ∧ base ≤ w2.heap.size :=
  ⟨Rw.OwnS.snoc encW_len h, (hB.mono hb).trans (Own.below_append (hown.below hB) (Nat.le_trans hb hB.size) hg), by
    have h1 := hg.size
    rw [World.size_alloc] at h1
    have := hB.size
    omega⟩
theorem take_rowR {d : List Row} {i : Nat} (h : i < d.length) : d.take (i + 1) = d.take i ++ [d.getD i default] := by
  rw [List.take_succ_eq_append_getElem h]; simp [List.getD, h]
/-- What stays of the first k rows. -/
def stayR (d : List Row) (e : Int) (k : Nat) : List Row := (d.take k).filter (fun r => !decide (r.1.1 ≤ e))
theorem stayR_len (d : List Row) (e : Int) (k : Nat) : (stayR d e k).length ≤ k := by
  unfold stayR
  have := List.length_filter_le (fun r : Row => !decide (r.1.1 ≤ e)) (d.take k)
  rw [List.length_take] at this
  omega
set_option maxRecDepth 100000 in
theorem rdrop_any (ad : Option Addr) (n cap : Nat) (most e : Int) (d : List Row) (w : World) (hn : d.length = n) (hm : n ≤ 1000000) (hr : RdR w ad d) :
    Calls Try.prog 28 #[tval ad n cap most, .int .i64 e] w (NewR (d.filter (fun r => !decide (r.1.1 ≤ e))) most w) := by
  obtain ⟨i0, hi0, hz0, hz1, hz2⟩ := info_parts infoRow
  obtain ⟨w0, hw0⟩ : ∃ w0, Hid (w0 = (w.alloc (.cells #[.slice ad n cap, .int .i64 most] 27)).alloc (.cells #[.slice none 0 0, .int .i64 0] 27)) := ⟨_, Lib.hid rfl⟩
  have hB0 : Below w.heap.size w w0 := by rw [hw0.out]; exact (box_below _ _).alloc (by simp) _
  have hsz : w0.heap.size = w.heap.size + 2 := by rw [hw0.out, World.size_alloc, World.size_alloc]
  have b0 : Blk w0 w.heap.size 27 #[.slice ad n cap, .int .i64 most] := by rw [hw0.out]; exact (Blk.new w _ _).alloc _
  have b1 : Blk w0 (w.heap.size + 1) 27 #[.slice none 0 0, .int .i64 0] := by
    rw [hw0.out]
    have := Blk.new (w.alloc (.cells #[.slice ad n cap, .int .i64 most] 27)) 27 #[.slice none 0 0, .int .i64 0]
    rw [World.size_alloc] at this
    exact this
  have HO : Hid (OwnR (w0.alloc (.cells #[] 63)) w0.heap.size (.slice (some ⟨w0.heap.size, 0, none⟩) 0 0) (stayR d e 0)) := Lib.hid (by
    have : stayR d e 0 = [] := by unfold stayR; simp
    rw [this]
    exact Rw.OwnS.lit w0 [] encW_len (by unfold maxLen; simp))
  have HB0' : Hid (Below w0.heap.size w0 (w0.alloc (.cells #[] 63))) := Lib.hid (box_below _ _)
  have HS : Hid (∀ W, Below w0.heap.size w0 W → RdR W ad d ∧ (W.cell? ⟨w.heap.size, 0, none⟩ = some (.slice ad n cap) ∧ W.cell? ⟨w.heap.size, 1, none⟩ = some (.int .i64 most)) ∧ (W.cell? ⟨w.heap.size + 1, 0, none⟩ = some (.slice none 0 0) ∧ W.cell? ⟨w.heap.size + 1, 1, none⟩ = some (.int .i64 0) ∧ W.frozen? ⟨w.heap.size + 1, 0, none⟩ = false ∧ W.frozen? ⟨w.heap.size + 1, 1, none⟩ = false)) := Lib.hid (fun W hB => by
    have q := b1.below hB
    exact ⟨hr.below (hB0.trans (hB.mono (by omega))), ⟨(b0.below hB).cell 0, (b0.below hB).cell 1⟩, q.cell 0, q.cell 1, q.free 0, q.free 1⟩)
  have HP : Hid (∀ ad' l cap' w2 W, OwnR w2 w0.heap.size (.slice ad' l.length cap') l → Below w0.heap.size w0 w2 → W = (w2.setCell ⟨w.heap.size + 1, 0, none⟩ (.slice ad' l.length cap')).setCell ⟨w.heap.size + 1, 1, none⟩ (.int .i64 most) → NewR l most w (.returned (.agg #[.slice ad' l.length cap', .int .i64 most])) W) := Lib.hid (fun ad' l cap' w2 W h2 hB hW => by
    have hBW : Below w.heap.size w W := by
      rw [hW]
      exact (((hB0.trans (hB.mono (by omega))).setCell (p := ⟨w.heap.size + 1, 0, none⟩) (by simp) _).setCell (p := ⟨w.heap.size + 1, 1, none⟩) (by simp) _)
    refine ⟨ad', cap', rfl, ?_, hBW⟩
    rw [hW]
    have hne := own_ne h2 (b1.below hB) (by decide)
    have k1 := World.ownsRow.kept h2 (setCell_grown w2 (w.heap.size + 1) 0 (.slice ad' l.length cap')) (.inr hne)
    have k2 := World.ownsRow.kept k1 (setCell_grown _ (w.heap.size + 1) 1 (.int .i64 most)) (.inr hne)
    exact Own.mono k2 (by omega))
  have HL := Lib.hid hn
  have HF : Hid (stayR d e n = d.filter (fun r => !decide (r.1.1 ≤ e))) := Lib.hid (by unfold stayR; rw [List.take_of_length_le (by omega)])
  have HN : Hid (∀ k, k < n → stayR d e (k + 1) = if (d.getD k default).1.1 ≤ e then stayR d e k else stayR d e k ++ [d.getD k default]) := Lib.hid (fun k hk => by
    unfold stayR
    rw [take_rowR (by omega), List.filter_append]
    by_cases h : (d.getD k default).1.1 ≤ e
    · rw [if_pos h, List.filter_cons_of_neg (by simpa using h)]; simp
    · rw [if_neg h, List.filter_cons_of_pos (by simpa using h)]; simp)
  rw [← HF.out]
  clear hr b0 b1 hB0 hn hsz HF
  unfold tval
  go_enter Try.func28, Try.ntmps28
  go_upto_region 1 with fail
  rw [← hw0.out]
  go_wp2_with fail
  go_loopw [5, 6] (fun v i wr => ∃ k : Nat, k ≤ n ∧ i = .int .i64 k ∧ OwnR wr w0.heap.size v (stayR d e k) ∧ Hid (Below w0.heap.size w0 wr)) (fun _ i _ => n - (intOf i).toNat)
  case atStart => exact ⟨0, Nat.zero_le _, rfl, HO.out, HB0'⟩
  case round =>
    obtain ⟨k, hk, rfl, hown, hB⟩ := hrel
    obtain ⟨hrd, ⟨c0, c1⟩, u0, u1, y0, y1⟩ := HS.out wr hB.out
    by_cases hlt : k < n
    · obtain ⟨b, off, rfl, hb, hc⟩ := hrd.at_ (i := k) (by rw [HL.out]; exact hlt)
      have HNk := Lib.hid (HN.out k hlt)
      have hsl := stayR_len d e k
      have hsb : w0.heap.size ≤ wr.heap.size := hB.out.size
      generalize d.getD k default = y at *
      obtain ⟨⟨p, q, s⟩, v⟩ := y
      obtain ⟨f0, f1, f2, f3⟩ := at4 hc
      have hCT := Lib.hid (fun W => cell_tempR W ((p, q, s), v))
      simp only at f0 f1 f2 f3 HNk hCT
      by_cases hle : p ≤ e
      · have HE : Hid (stayR d e (k + 1) = stayR d e k) := Lib.hid (by rw [HNk.out, if_pos hle])
        clear hc HNk hrd
        go_wp2_with fail
        go_roundw
        case rel => exact ⟨k + 1, by omega, by go_num, by rw [HE.out]; exact hown, hB⟩
        case measure => simp [intOf]; omega
      · have HE : Hid (stayR d e (k + 1) = stayR d e k ++ [((p, q, s), v)]) := Lib.hid (by rw [HNk.out, if_neg hle])
        clear hc HNk hrd
        go_wp2_with (at_builtin; refine Own.wpList_append2 _ rfl _ _ 25 rfl w0.heap.size 63 i0 (.agg #[.int .i64 0, .int .i64 0, .int .u32 0, .int .i64 0]) 4 32 Try.underlying25 hi0 hz0 hz1 hz2 rfl (by decide) _ _ _ rfl (World.ownsRow.alloc hown _) ⟨World.heap _ |>.size, 0, none⟩ 1 1 (encW ((p, q, s), v)) rfl rfl (hCT.out _) (encW_one _) (by unfold maxLen; omega) (by omega) (by simp; omega) ?_; intro v' w2 hown' hgrow _ _)
        obtain ⟨hown2, hB2, hsz2⟩ := out_stepR hown (Below.refl _ _) hsb hown' hgrow
        have HB2 : Hid (Below w0.heap.size w0 w2) := Lib.hid (hB.out.trans hB2)
        go_roundw
        case rel => exact ⟨k + 1, by omega, by go_num, by rw [HE.out]; exact hown2, HB2⟩
        case measure => simp [intOf]; omega
    · obtain rfl : k = n := by omega
      generalize stayR d e k = l at *
      obtain ⟨ad', cap', rfl, -⟩ := Own.shape hown
      clear hrd
      go_wp2_with fail
      obtain ⟨r0, r1⟩ := setC2 (u0 := .slice ad' l.length cap') (u1 := .int .i64 most) u0 u1
      refine bodyPost_ret (v := .agg #[.slice ad' l.length cap', .int .i64 most]) (by simp [results, Try.results28, go_sem, r0, r1]) rfl ?_
      exact HP.out ad' l cap' wr _ hown hB.out rfl
end Go.Proofs.Ytolcidilnmjlmaa.TblR
