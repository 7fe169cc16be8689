/- Who of both (layer 12). -/
import Derived.Test.YtepcbklokcfbfaaAttL
import Derived.Test.YtepcbklokcfbfaaAttB
import Derived.Test.YtepcbklokcfbfaaNodesD
namespace Go.Proofs.Ytepcbklokcfbfaa.Att
open Go.ChangeShapes Go.WideShapes Go.ChangeAt Go.RowKit Go.Deep
open Go.Proofs.Ytepcbklokcfbfaa.Byt Go.Proofs.Ytepcbklokcfbfaa.Key Go.Proofs.Ytepcbklokcfbfaa.Buf Go.Proofs.Ytepcbklokcfbfaa.Hed Go.Proofs.Ytepcbklokcfbfaa.Dat Go.Proofs.Ytepcbklokcfbfaa.BufM Go.Proofs.Ytepcbklokcfbfaa.Pkt
set_option linter.unusedVariables false
set_option linter.unusedSimpArgs false
theorem getD_memP {l : List Pk} {k : Nat} (hk : k < l.length) : l.getD k default ∈ l := by
  have : l.getD k default = l[k] := by simp [List.getD, hk]
  rw [this]; exact List.getElem_mem hk
theorem ret_u64 {a b : Int} (h : a = b) : Ending.returned (.int .u64 a) = .returned (.int .u64 b) := by rw [h]
set_option maxRecDepth 100000 in
set_option maxHeartbeats 4000000 in
theorem awho_any (no : Int) (ad : Option Addr) (len cap : Nat) (l : List Pk) (w : World) (hlen : l.length = len) (hm : len < 9223372036854775807) (hr : RdP w ad l) (hb : ∀ t ∈ l, RdB w t.ad t.body) :
    Calls Try.prog 24 #[.int .i64 no, .slice ad len cap] w fun e w' => e = .returned (.int .u64 (whoN no l)) ∧ Below w.heap.size w w' := by
  have HL := Lib.hid hlen
  have HR := Lib.hid hr
  have HB := Lib.hid hb
  clear hlen hr hb
  go_enter Try.func24, Try.ntmps24
  go_wp2_with fail
  go_loopw [5, 10] (fun s i wr => ∃ k q : Nat, k ≤ len ∧ i = .int .i64 k ∧ s = .int .u64 q ∧ Hid (q = whoN no (l.take k)) ∧ q < 18446744073709551616 ∧ Hid (Below w.heap.size w wr)) (fun _ i _ => len - (intOf i).toNat)
  case atStart => exact ⟨0, 0, Nat.zero_le _, rfl, rfl, Lib.hid rfl, by omega, Lib.hid (Below.refl _ _)⟩
  case round =>
    obtain ⟨k, q, hk, rfl, rfl, hq, q2, hB⟩ := hrel
    by_cases hlt : k < len
    · obtain ⟨b3, off, rfl, hbw, hc⟩ := HR.out.at_ (i := k) (by rw [HL.out]; exact hlt)
      have HTS := Lib.hid (take_succ' (l := l) (k := k) (by rw [HL.out]; exact hlt))
      have HRx := Lib.hid (HB.out _ (getD_memP (l := l) (k := k) (by rw [HL.out]; exact hlt)))
      have c := at12 (hc.below hB.out hbw)
      have HQ : Hid (∀ v, whoN no (l.take (k + 1)) = v → v = whoN no (l.take (k + 1))) := Lib.hid (fun v h => h.symm)
      obtain ⟨x, hx⟩ : ∃ x, l.getD k default = x := ⟨_, rfl⟩
      rw [hx] at HTS HRx c
      have HY : Hid (tst no x = true → whoN no (l.take (k + 1)) = q ||| Nodes.bitN x.key.2.1) := Lib.hid (fun h => by rw [HTS.out, who_yes h, hq.out])
      have HN : Hid (tst no x = false → whoN no (l.take (k + 1)) = q) := Lib.hid (fun h => by rw [HTS.out, who_no h, hq.out])
      have HF := Lib.hid (fun h : attG x = true => attG_from h)
      obtain ⟨W2, hW2⟩ : ∃ W2, Hid (W2 = wr.alloc (.cells x.cells 27)) := ⟨_, Lib.hid rfl⟩
      have hX := one_box wr W2 _ _ hW2.out
      have HB2 := Lib.hid (hB.out.trans (hX.1.mono hB.out.size))
      have HD2 := Lib.hid hX.2
      have CG : Hid (Calls Try.prog 11 #[pval x] W2 fun e w' => e = .returned (.bool (attG x)) ∧ Hid (Below w.heap.size w w') ∧ Hid (Blk w' wr.heap.size 27 x.cells)) := Lib.hid ((agood_any x W2 (HRx.out.below HB2.out)).mono fun e w' h => ⟨h.1, Lib.hid (HB2.out.trans (h.2.mono HB2.out.size)), Lib.hid (HD2.out.below h.2)⟩)
      have HC : Hid (∀ W b, Blk W b 27 x.cells → _) := Lib.hid (fun W b h => blk_cells h)
      clear hc hx HTS HRx HR hq hX HQ
      unfold tst at HY HN
      generalize attG x = gb at *
      obtain ⟨eb, heb⟩ : ∃ eb, (x.no == no) = eb := ⟨_, rfl⟩
      rw [heb] at HY HN
      obtain ⟨kind, ⟨t, f, s⟩, hops, no', to, index, total, stamp, value, ad', cap', body⟩ := x
      unfold Twelve at c
      unfold Pk.cells at hW2 HD2 CG HC
      unfold pval at CG
      unfold Pk.cells at CG
      simp only at c hW2 HD2 CG HC heb HY HN HF
      obtain ⟨n, hn⟩ : ∃ n, body.length = n := ⟨_, rfl⟩
      simp only [hn] at c hW2 HD2 CG HC
      clear hn
      obtain ⟨c0, c1, c2, c3, c4, c5, c6, c7, c8, c9, c10, c11⟩ := c
      go_upto_region 5 with fail
      rw [← hW2.out]
      clear c0 c1 c2 c3 c4 c5 c6 c7 c8 c9 c10 c11 hW2
      obtain ⟨c0, c1, c2, c3, c4, c5, c6, c7, c8, c9, c10, c11⟩ := HC.out _ _ HD2.out
      cases eb with
      | false =>
        have HQn := Lib.hid (HN.out (by simp))
        clear HN HY CG HC HD2 HF
        go_wp2_with fail
        go_roundw
        case rel => exact ⟨k + 1, q, by omega, by go_num, rfl, Lib.hid HQn.out.symm, q2, HB2⟩
        case measure => simp [intOf]; omega
      | true =>
        go_wp2_with fail
        refine (CG.out).mono ?_; rintro e w3 ⟨rfl, HB3, HD3⟩
        clear c0 c1 c2 c3 c4 c5 c6 c7 c8 c9 c10 c11 CG HB2 HD2
        cases gb with
        | false =>
          have HQn := Lib.hid (HN.out (by simp))
          clear HN HY HC HD3 HF
          go_wp2_with fail
          go_roundw
          case rel => exact ⟨k + 1, q, by omega, by go_num, rfl, Lib.hid HQn.out.symm, q2, HB3⟩
          case measure => simp [intOf]; omega
        | true =>
          have HQn := Lib.hid (HY.out (by simp))
          obtain ⟨hf0, hf1⟩ := HF.out (by simp)
          obtain ⟨z, rfl⟩ := Int.eq_ofNat_of_zero_le hf0
          have hz : z < 64 := by omega
          have hbz := Nodes.bitN_lt (z : Int)
          have HO := Lib.hid (u64_or_nat q (Nodes.bitN z) q2 hbz)
          have hs := Lib.hid (bit_shl z hz)
          clear HN HY HF hbz hf0 hf1
          obtain ⟨c0, c1, c2, c3, c4, c5, c6, c7, c8, c9, c10, c11⟩ := HC.out _ _ HD3.out
          clear HC HD3
          go_wp2_with fail
          go_roundw
          case rel => exact ⟨k + 1, q ||| Nodes.bitN z, by omega, by go_num, by rw [hs.out, HO.out], Lib.hid HQn.out.symm, Nodes.or_lt q2 (Nodes.bitN_lt z), HB3⟩
          case measure => simp [intOf]; omega
    · obtain rfl : k = len := by omega
      have hE : Hid ((q : Int) = whoN no l) := Lib.hid (by rw [hq.out, List.take_of_length_le (by rw [HL.out]; exact Nat.le_refl _)])
      clear hq
      go_wp2_with fail
      go_ret
      exact ⟨ret_u64 hE.out, hB.out⟩
/-- With one more node, of a slice laid for it. -/
theorem with1_any (S : Nat) (hS : S < 18446744073709551616) (f : Int) (W : World) :
    Calls Try.prog 37 #[.int .u64 S, .slice (some ⟨W.heap.size, 0, none⟩) 1 1] (W.alloc (.cells #[.int .i64 f] 3)) fun e w' => e = .returned (.int .u64 ((S ||| Nodes.bitN f : Nat) : Int)) ∧ Below W.heap.size W w' := by
  obtain ⟨W1, hW1⟩ : ∃ W1, W1 = W.alloc (.cells #[.int .i64 f] 3) := ⟨_, rfl⟩
  obtain ⟨hB, hX⟩ := one_box W W1 _ _ hW1
  rw [← hW1]
  refine (Nodes.rwith_any S hS (some ⟨W.heap.size, 0, none⟩) 1 1 [f] W1 rfl (by omega) (.inr ⟨_, 0, rfl, fun i hi => ?_⟩) (fun h => by cases h)).mono fun e w' h => ?_
  · have : i = 0 := by simp at hi; omega
    subst this
    exact hX.cell 0
  · obtain ⟨rfl, h2⟩ := h
    rw [with_one S hS f]
    exact ⟨rfl, hB.trans (h2.mono hB.size)⟩
set_option maxRecDepth 100000 in
set_option maxHeartbeats 4000000 in
theorem rwho_any (no : Int) (ad : Option Addr) (len cap : Nat) (l : List Pk) (w : World) (hlen : l.length = len) (hm : len < 9223372036854775807) (hr : RdP w ad l) (hb : ∀ t ∈ l, RdB w t.ad t.body) :
    Calls Try.prog 23 #[.int .i64 no, .slice ad len cap] w fun e w' => e = .returned (.int .u64 (whoN no l)) ∧ Below w.heap.size w w' := by
  have HL := Lib.hid hlen
  have HR := Lib.hid hr
  have HB := Lib.hid hb
  have CW : Hid (∀ W (q : Nat) f, q < 18446744073709551616 → Below w.heap.size w W → Calls Try.prog 37 #[.int .u64 q, .slice (some ⟨W.heap.size, 0, none⟩) 1 1] (W.alloc (.cells #[.int .i64 f] 3)) fun e w' => e = .returned (.int .u64 ((q ||| Nodes.bitN f : Nat) : Int)) ∧ Hid (Below w.heap.size w w')) := Lib.hid (fun W q f hq hB => (with1_any q hq f W).mono fun e w' h => ⟨h.1, Lib.hid (hB.trans (h.2.mono hB.size))⟩)
  clear hlen hr hb
  go_enter Try.func23, Try.ntmps23
  go_wp2_with fail
  go_loopw [5, 6] (fun s i wr => ∃ k q : Nat, k ≤ len ∧ i = .int .i64 k ∧ s = .int .u64 q ∧ Hid (q = whoN no (l.take k)) ∧ q < 18446744073709551616 ∧ Hid (Below w.heap.size w wr)) (fun _ i _ => len - (intOf i).toNat)
  case atStart => exact ⟨0, 0, Nat.zero_le _, rfl, rfl, Lib.hid rfl, by omega, Lib.hid (Below.refl _ _)⟩
  case round =>
    obtain ⟨k, q, hk, rfl, rfl, hq, q2, hB⟩ := hrel
    by_cases hlt : k < len
    · obtain ⟨b3, off, rfl, hbw, hc⟩ := HR.out.at_ (i := k) (by rw [HL.out]; exact hlt)
      have HTS := Lib.hid (take_succ' (l := l) (k := k) (by rw [HL.out]; exact hlt))
      have HRx := Lib.hid (HB.out _ (getD_memP (l := l) (k := k) (by rw [HL.out]; exact hlt)))
      obtain ⟨x, hx⟩ : ∃ x, l.getD k default = x := ⟨_, rfl⟩
      rw [hx] at HTS HRx hc
      have HC : Hid (∀ W, Below w.heap.size w W → Twelve W b3 (off + k * 12) x) := Lib.hid (fun W hW => at12 (hc.below hW hbw))
      have HY : Hid (tst no x = true → whoN no (l.take (k + 1)) = q ||| Nodes.bitN x.key.2.1) := Lib.hid (fun h => by rw [HTS.out, who_yes h, hq.out])
      have HN : Hid (tst no x = false → whoN no (l.take (k + 1)) = q) := Lib.hid (fun h => by rw [HTS.out, who_no h, hq.out])
      have CG : Hid (Calls Try.prog 12 #[pval x] wr fun e w' => e = .returned (.bool (attG x)) ∧ Hid (Below w.heap.size w w')) := Lib.hid ((ragood_any x wr (HRx.out.below hB.out)).mono fun e w' h => ⟨h.1, Lib.hid (hB.out.trans (h.2.mono hB.out.size))⟩)
      clear hc hx HTS HRx HR hq
      unfold tst at HY HN
      generalize attG x = gb at *
      obtain ⟨eb, heb⟩ : ∃ eb, (x.no == no) = eb := ⟨_, rfl⟩
      rw [heb] at HY HN
      obtain ⟨kind, ⟨t, f, s⟩, hops, no', to, index, total, stamp, value, ad', cap', body⟩ := x
      unfold Twelve at HC
      unfold pval at CG
      unfold Pk.cells at CG
      simp only at HC CG heb HY HN
      obtain ⟨n, hn⟩ : ∃ n, body.length = n := ⟨_, rfl⟩
      simp only [hn] at HC CG
      clear hn
      obtain ⟨c0, c1, c2, c3, c4, c5, c6, c7, c8, c9, c10, c11⟩ := HC.out _ hB.out
      go_wp2_with fail
      refine (CG.out).mono ?_; rintro e w3 ⟨rfl, HB3⟩
      clear c0 c1 c2 c3 c4 c5 c6 c7 c8 c9 c10 c11 CG hB
      obtain ⟨c0, c1, c2, c3, c4, c5, c6, c7, c8, c9, c10, c11⟩ := HC.out _ HB3.out
      cases gb with
      | false =>
        have HQn := Lib.hid (HN.out (by simp))
        clear HN HY HC
        go_wp2_with fail
        go_roundw
        case rel => exact ⟨k + 1, q, by omega, by go_num, rfl, Lib.hid HQn.out.symm, q2, HB3⟩
        case measure => simp [intOf]; omega
      | true =>
        cases eb with
        | false =>
          have HQn := Lib.hid (HN.out (by simp))
          clear HN HY HC
          go_wp2_with fail
          go_roundw
          case rel => exact ⟨k + 1, q, by omega, by go_num, rfl, Lib.hid HQn.out.symm, q2, HB3⟩
          case measure => simp [intOf]; omega
        | true =>
          have HQn := Lib.hid (HY.out (by simp))
          have CX := Lib.hid (CW.out w3 q f q2 HB3.out)
          clear HN HY HC
          go_wp2_with fail
          refine (CX.out).mono ?_; rintro e w4 ⟨rfl, HB4⟩
          go_wp2_with fail
          go_roundw
          case rel => exact ⟨k + 1, q ||| Nodes.bitN f, by omega, by go_num, rfl, Lib.hid HQn.out.symm, Nodes.or_lt q2 (Nodes.bitN_lt f), HB4⟩
          case measure => simp [intOf]; omega
    · obtain rfl : k = len := by omega
      have hE : Hid ((q : Int) = whoN no l) := Lib.hid (by rw [hq.out, List.take_of_length_le (by rw [HL.out]; exact Nat.le_refl _)])
      clear hq
      go_wp2_with fail
      go_ret
      exact ⟨ret_u64 hE.out, hB.out⟩
end Go.Proofs.Ytepcbklokcfbfaa.Att
