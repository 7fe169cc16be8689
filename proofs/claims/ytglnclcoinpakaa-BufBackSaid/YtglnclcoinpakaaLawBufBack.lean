/- Any items that were written are read as they were, and nothing is left. -/
import Derived.Test.YtglnclcoinpakaaRows
import Derived.WalkKit
import Derived.ProofKit
import Derived.OpenShut
import Derived.ShutString
import Derived.ChangeOld
import Derived.Below
import Derived.Test.YtglnclcoinpakaaBufP
import Derived.Deep.Cut
import Derived.RegionTactic
import Derived.Deep.RegionHeld3
import Derived.Deep.RegionHeldLaw
namespace Go.Proofs.Ytglnclcoinpakaa.lawBufBack
open Go.ChangeShapes Go.WideShapes Go.ChangeAt Go.RowKit
open Go.ChangeMaps (open_string shut_string)
set_option linter.unusedVariables false

theorem own : ownKnob Try.prog.godebug = none := by kernel_rfl
theorem laidOut : laidOutB Try.prog = true := by kernel_rfl

/-! The walk: the Go text returns true and writes nothing that was there. -/
set_option maxRecDepth 100000 in
set_option maxHeartbeats 1000000 in
theorem walk (a0 : Option Addr) (len0 cap0 : Nat) (z0 : List Buf.It) (w : World) (w0 : Buf.Items w w.heap.size a0 len0 cap0 z0) :
    Calls Try.prog 5 #[.slice a0 len0 cap0] w fun e w' => e = .returned (.bool true) ∧ Below w.heap.size w w' := by
  have HI0 := w0.nil
  have hlc := w0.le
  have hmx := w0.max
  obtain ⟨ts, HT⟩ : ∃ ts, Hid (ts = z0.take 30) := ⟨_, Lib.hid rfl⟩
  have hlen := w0.len_
  have HTL : Hid (∀ m, m = (min (len0 : Int) 30).toNat → ts.length = m) := Lib.hid (fun m hm => by rw [HT.out, List.length_take, hm]; omega)
  have HIT : Hid (∀ k, k < ts.length → ∃ b off, a0 = some ⟨b, off, none⟩ ∧ (ts.getD k default).x < 18446744073709551616 ∧ ∀ W, Below w.heap.size w W → Buf.ItAt W b (off + k * 4) (ts.getD k default) ∧ (ts.getD k default).ok W w.heap.size) := Lib.hid (fun k hk => by
    have hkl : k < 30 ∧ k < len0 := by rw [HT.out, List.length_take] at hk; omega
    have e : ts.getD k default = z0.getD k default := by rw [HT.out]; simp [List.getD, hkl.1]
    rw [e]
    have hmem : z0.getD k default ∈ z0 := by
      have : z0.getD k default = z0[k]'(by omega) := by simp [List.getD, show k < z0.length by omega]
      rw [this]; exact List.getElem_mem _
    have hok := w0.ok _ hmem
    rcases w0.at_ with h0 | ⟨b, off, e2, hb, hc⟩
    · omega
    · refine ⟨b, off, e2, hok.x, fun W hB => ⟨?_, hok.kept fun b hb => hB.block b hb⟩⟩
      obtain ⟨c0, c1, c2, c3⟩ := hc k hkl.2
      exact ⟨(hB.cell (p := ⟨b, _, none⟩) hb).trans c0, (hB.cell (p := ⟨b, _, none⟩) hb).trans c1, (hB.cell (p := ⟨b, _, none⟩) hb).trans c2, (hB.cell (p := ⟨b, _, none⟩) hb).trans c3⟩)
  have hc1 : (len0 : Int) ≤ (cap0 : Int) ∧ (len0 : Int) ≤ 9223372036854775807 := by omega
  obtain ⟨hc1, hc2⟩ := hc1
  clear w0 hlen HT HI0
  have C0 := Lib.hid (Buf.new_any 16384 (by omega) w)
  go_enter Try.func5, Try.ntmps5
  go_upto_region 1 with fail
  go_cut [0] from 14 (fun v wc => ∃ m : Nat, Hid (m = (min (len0 : Int) 30).toNat) ∧ v = .slice a0 m cap0 ∧ w = wc)
  case first =>
    go_wp2_with fail
    all_goals
      go_meet
      case rel => exact ⟨_, Lib.hid (by omega), rfl, rfl⟩
  case rest =>
    obtain ⟨m, hm, rfl, rfl⟩ := hcut
    have hml := HTL.out m hm.out
    have hm30 : m ≤ 30 ∧ (m : Int) ≤ 30 := by have := hm.out; omega
    obtain ⟨hm30, hm30'⟩ := hm30
    have HML := Lib.hid hml
    have CP : Hid (∀ k wr s row, k < m → Hid (Buf.WR wr w.heap.size w.heap.size 16384 s row) → Hid (Buf.Put (ts.take k) s) → Hid (Below w.heap.size w wr) → ∃ t b off, ts.getD k default = t ∧ a0 = some ⟨b, off, none⟩ ∧ Hid (Buf.ItAt wr b (off + k * 4) t) ∧
        Calls Try.prog 9 #[.pointer (some ⟨w.heap.size, 0, none⟩), .agg #[.int .u8 (t.k : Int), .int .u64 (t.x : Int), .int .i64 t.n, .slice t.ad t.b.length t.cap]] wr (fun e w' => e = .returned (.tuple #[]) ∧ ∃ s' row', Hid (Buf.WR w' w.heap.size w.heap.size 16384 s' row') ∧ Hid (Buf.Put (ts.take (k + 1)) s') ∧ Hid (Below w.heap.size w w'))) := Lib.hid (fun k wr s row hk hw hp hB => by
      obtain ⟨b, off, ea, hx, hat⟩ := HIT.out k (by omega)
      obtain ⟨h1, h2⟩ := hat wr hB.out
      refine ⟨ts.getD k default, b, off, rfl, ea, Lib.hid h1, ?_⟩
      have hlk : (ts.take k).length = k := by rw [List.length_take]; omega
      have hsl := hp.out.len
      refine (Buf.put_any w.heap.size w.heap.size 16384 w.heap.size s row _ wr hw.out h2 (Nat.le_refl _) (by omega)).mono fun e w' hh => ?_
      obtain ⟨he, row', k1, k2⟩ := hh
      refine ⟨he, _, row', Lib.hid k1, Lib.hid ?_, Lib.hid (hB.out.trans k2.below)⟩
      have : ts.take (k + 1) = ts.take k ++ [ts.getD k default] := by rw [List.take_succ_eq_append_getElem (by omega)]; simp [show k < ts.length by omega]
      rw [this]
      exact hp.out.step _ hx (by omega))
    clear hml hm HTL
    go_wp2_with fail
    refine (C0.out).mono ?_; rintro e w1 ⟨rfl, hw, hB, hs⟩
    have HW0 := Lib.hid hw
    have HB0 := Lib.hid hB
    clear hw hB hs C0
    go_wp2_with fail
    go_loopw [22] (fun iv wr => ∃ (k : Nat) (s : Int × List UInt8) (row : Option Nat), k ≤ m ∧ iv = .int .i64 (k : Int) ∧ Hid (Buf.WR wr w.heap.size w.heap.size 16384 s row) ∧ Hid (Buf.Put (ts.take k) s) ∧ Hid (Below w.heap.size w wr)) (fun iv _ => m - (intOf iv).toNat)
    case atStart => exact ⟨0, (0, []), none, Nat.zero_le _, rfl, HW0, Lib.hid (by rw [List.take_zero]; exact Buf.Put.nil), HB0⟩
    case round =>
      obtain ⟨k, s, row, hk, rfl, hw, hp, hB⟩ := hrel
      by_cases hlt : k < m
      · obtain ⟨t, b, off, htk, rfl, hat, CC⟩ := CP.out k wr s row hlt hw hp hB
        have CC := Lib.hid CC
        obtain ⟨c0, c1, c2, c3⟩ := hat.out
        have hki : (k : Int) < (m : Int) := by omega
        clear htk hat hw hp hB
        generalize t.ad = tad at *
        generalize t.b.length = tl at *
        go_wp2_with fail
        refine (CC.out).mono ?_; rintro e w3 ⟨rfl, s', row', hw', hp', hB'⟩
        go_wp2_with fail
        go_roundw
        case rel => exact ⟨k + 1, s', row', by omega, by go_num, hw', hp', hB'⟩
        case measure => simp [intOf]; omega
      · obtain rfl : k = m := by omega
        have hpt := hp.out
        rw [List.take_of_length_le (by have := HML.out; omega)] at hpt
        have hsl := hpt.len
        have CD := Lib.hid (Buf.done_any w.heap.size w.heap.size 16384 s row wr hw.out (by have := HML.out; omega))
        obtain ⟨e0, l⟩ := s
        rcases hpt.how with he | ⟨he, hl2, hall⟩
        · simp only at he
          subst he
          have CW : Hid (∀ W, Calls Try.prog 12 #[] W fun e w' => e = .returned (.bool true) ∧ Below W.heap.size W w') := Lib.hid (fun W => Buf.works_any W)
          clear hpt hsl hw hp CP
          go_wp2_with fail
          refine (CD.out).mono ?_; rintro e w5 ⟨v, rfl, ho, hB5⟩
          obtain ⟨cd, ccap, rfl, -⟩ := Own.shape ho
          have HB5 := Lib.hid (hB.out.trans (hB5.mono hB.out.size))
          clear ho hB5 hB CD
          go_wp2_with fail
          refine (CW.out _).mono ?_; rintro e w6 ⟨rfl, hB6⟩
          go_wp2_with fail
          first | exact ⟨rfl, HB5.out.trans (hB6.mono HB5.out.size)⟩ | (go_ret; exact ⟨rfl, HB5.out.trans (hB6.mono HB5.out.size)⟩)
        · simp only at he hl2 hsl
          subst he
          have HL := Lib.hid hl2
          have HALL := Lib.hid hall
          clear hpt hp CP hl2 hall
          go_wp2_with fail
          refine (CD.out).mono ?_; rintro e w5 ⟨v, rfl, ho, hB5⟩
          simp only [if_true] at ho
          obtain ⟨cd, ccap, rfl, -⟩ := Own.shape ho
          have hB5' := hB.out.trans (hB5.mono hB.out.size)
          have CR := Lib.hid (Buf.read_any cd l.length ccap l w5 rfl (by have := HML.out; omega) ho.rd.1 ho.pos.2.2.1)
          have HB5 := Lib.hid hB5'
          clear ho hB5 hB5' hB CD hw
          go_wp2_with fail
          refine (CR.out).mono ?_; rintro e w6 ⟨gr, rfl, hr, hB6, hge, hsz⟩
          have HR : Hid (Buf.RR w6 gr (0, (ts.drop 0).flatMap (fun t => t.text.1))) := Lib.hid (by rw [List.drop_zero, ← HL.out]; exact hr)
          have HB6 := Lib.hid (HB5.out.trans (hB6.mono HB5.out.size))
          have HGE : Hid (w.heap.size ≤ gr) := Lib.hid (Nat.le_trans HB5.out.size hge)
          clear hr hB6 hge hsz CR HB5
          have CQ : Hid (∀ j wr, j < k → Hid (Buf.RR wr gr (0, (ts.drop j).flatMap (fun t => t.text.1))) → Hid (Below gr w6 wr) → ∃ t b off, a0 = some ⟨b, off, none⟩ ∧ Hid (Buf.ItAt wr b (off + j * 4) t) ∧ t.x < 18446744073709551616 ∧ t.k < 256 ∧ t.b.length ≤ t.cap ∧ t.cap ≤ 9223372036854775807 ∧ t.text.2 = 0 ∧ -9223372036854775808 ≤ t.n ∧ t.n ≤ 9223372036854775807 ∧
              Hid (∀ W, Below wr.heap.size wr W → Calls Try.prog 14 #[.pointer (some ⟨gr, 0, none⟩), t.again.v] W (fun e w' => ∃ ad len cap, e = .returned (.tuple #[.int .u64 ((t.want.1 : Nat) : Int), .slice ad len cap]) ∧ (convert 25 9 (.slice ad len cap)).run Try.prog w' = .ok (.string (Byt.strB t.want.2)) w' ∧ Hid (Byt.RdB w' t.ad t.c) ∧ Hid (Buf.RR w' gr (0, (ts.drop (j + 1)).flatMap (fun t => t.text.1))) ∧ Hid (Below gr w6 w')))) := Lib.hid (fun j wr hj hr hB => by
            obtain ⟨b, off, ea, hx, hat⟩ := HIT.out j (by have := HML.out; omega)
            have hBw : Below w.heap.size w wr := HB6.out.trans (hB.out.mono HGE.out)
            obtain ⟨h1, h2⟩ := hat wr hBw
            have hjt : j < ts.length := by have := HML.out; omega
            have hd : ts.drop j = ts.getD j default :: ts.drop (j + 1) := by rw [List.drop_eq_getElem_cons hjt]; simp [hjt]
            have hm : ts.getD j default ∈ ts := by
              have : ts.getD j default = ts[j] := by simp [hjt]
              rw [this]; exact List.getElem_mem _
            have h0 := HALL.out _ hm
            refine ⟨ts.getD j default, b, off, ea, Lib.hid h1, hx, h2.k, h2.len.1, h2.len.2, h0, h2.n.1, h2.n.2, Lib.hid fun W hW => ?_⟩
            have hrW := hr.out.kept hW
            rw [hd, List.flatMap_cons] at hrW
            have hokW : (ts.getD j default).ok W w.heap.size := h2.kept fun b hb => hW.block b (Nat.lt_of_lt_of_le hb hBw.size)
            refine (Buf.again_read gr w.heap.size _ _ W hrW hokW h0).mono fun e w' hh => ?_
            obtain ⟨ad, len, cap, rfl, hc, hr2, hs⟩ := hh
            have hB2 := (hB.out.trans (hW.mono (by have := hr.out.lt; omega))).trans hs.below
            have hok2 : (ts.getD j default).ok w' w.heap.size := hokW.kept fun b hb => hs.below.block b (Nat.lt_of_lt_of_le hb HGE.out)
            exact ⟨ad, len, cap, rfl, hc, Lib.hid (hok2.rd.take 200), Lib.hid hr2, Lib.hid hB2⟩)
          clear HIT HALL HL hsl
          go_wp2_with fail
          go_loopw [48] (fun iv wr => ∃ (j : Nat), j ≤ k ∧ iv = .int .i64 (j : Int) ∧ Hid (Buf.RR wr gr (0, (ts.drop j).flatMap (fun t => t.text.1))) ∧ Hid (Below gr w6 wr)) (fun iv _ => k - (intOf iv).toNat)
          case atStart => exact ⟨0, Nat.zero_le _, rfl, HR, Lib.hid (Below.refl _ _)⟩
          case round =>
            obtain ⟨j, hj, rfl, hr, hB⟩ := hrel
            by_cases hjl : j < k
            · obtain ⟨t, b, off, rfl, hat, htx, htk, htc, htc2, ht0, htn1, htn2, CR⟩ := CQ.out j wr hjl hr hB
              obtain ⟨c0, c1, c2, c3⟩ := hat.out
              have hji : (j : Int) < (k : Int) := by omega
              obtain ⟨tk, tx, tn, tad, tcap, tb⟩ := t
              obtain ⟨q0, q1, q2, q3⟩ := Buf.kinds tk
              have q4 := Buf.kind4 tk
              simp only at htx htk htc htc2 htn1 htn2 c0 c1 c2 c3
              clear hat hr hB CQ HR
              by_cases h0 : tk % 5 = 0
              · have e1 : Buf.It.v (Buf.It.again ⟨tk, tx, tn, tad, tcap, tb⟩) = .agg #[.int .u8 (tk : Int), .int .u64 (tx : Int), .int .i64 tn, .slice tad tb.length tcap] := by unfold Buf.It.again; rw [if_neg (by simp only; omega)]; rfl
                have e2 : Buf.It.want ⟨tk, tx, tn, tad, tcap, tb⟩ = (tx % 256, []) := by unfold Buf.It.want; rw [if_pos h0]
                simp only [e1, e2] at CR
                rw [show ((tx % 256 : Nat) : Int) = (tx : Int) % 256 from by omega] at CR
                rw [decide_eq_true h0] at q0
                clear e1 e2 h0 q1 q2 q3 q4 ht0
                go_wp2_with fail
                refine (CR.out _ ((Below.refl _ _).alloc (Nat.le_refl _) _)).mono ?_; rintro e w9 ⟨ad9, len9, cap9, rfl, hc9, hrd9, hr9, hB9⟩
                have hc2 := Byt.run_str_any (w := w9) (ad := none) (cap := 0) (l := []) (.inl rfl) rfl
                simp only [List.length_nil] at hc2
                go_wp2_with fail
                go_roundw
                case rel => exact ⟨j + 1, by omega, by go_num, hr9, hB9⟩
                case measure => simp [intOf]; omega
              rw [decide_eq_false h0] at q0
              by_cases h1 : tk % 5 = 1
              · have e1 : Buf.It.v (Buf.It.again ⟨tk, tx, tn, tad, tcap, tb⟩) = .agg #[.int .u8 (tk : Int), .int .u64 (tx : Int), .int .i64 tn, .slice tad tb.length tcap] := by unfold Buf.It.again; rw [if_neg (by simp only; omega)]; rfl
                have e2 : Buf.It.want ⟨tk, tx, tn, tad, tcap, tb⟩ = (tx % 256 ^ tn.toNat, []) := by unfold Buf.It.want; rw [if_neg h0, if_pos h1]
                have hn8 : 1 ≤ tn ∧ tn ≤ 8 := by
                  unfold Buf.It.text at ht0
                  rw [if_neg h0, if_pos h1] at ht0
                  by_cases hh : tn < 1 ∨ 8 < tn
                  · simp only [hh, if_true] at ht0; cases ht0
                  · omega
                obtain ⟨hn1, hn8⟩ := hn8
                simp only [e1, e2] at CR
                rw [decide_eq_true h1] at q1
                clear e1 e2 h0 h1 q2 q3 q4 ht0
                by_cases hn : tn < 8
                · obtain ⟨n, rfl⟩ := Int.eq_ofNat_of_zero_le (show 0 ≤ tn by omega)
                  have hwr : IntKind.u64.wrap ((2 : Int) ^ (8 * n)) = ((256 ^ n : Nat) : Int) := Buf.wrap_256 n (by omega)
                  have hp1 : 1 ≤ 256 ^ n := Nat.pos_of_ne_zero (by simp)
                  rw [Int.toNat_natCast, show ((tx % 256 ^ n : Nat) : Int) = (tx : Int) % ((256 ^ n : Nat) : Int) from rfl] at CR
                  generalize 256 ^ n = p at *
                  have hpn : ((p : Nat) : Int) ≠ 0 := by omega
                  have hpz : (((p : Nat) : Int) == 0) = false := by simp; omega
                  go_wp2_with fail
                  refine (CR.out _ ((Below.refl _ _).alloc (Nat.le_refl _) _)).mono ?_; rintro e w9 ⟨ad9, len9, cap9, rfl, hc9, hrd9, hr9, hB9⟩
                  have hc2 := Byt.run_str_any (w := w9) (ad := none) (cap := 0) (l := []) (.inl rfl) rfl
                  simp only [List.length_nil] at hc2
                  go_wp2_with fail
                  go_roundw
                  case rel => exact ⟨j + 1, by omega, by go_num, hr9, hB9⟩
                  case measure => simp [intOf]; omega
                · obtain rfl : tn = 8 := by omega
                  rw [show tx % 256 ^ (8 : Int).toNat = tx from Nat.mod_eq_of_lt htx] at CR
                  go_wp2_with fail
                  refine (CR.out _ ((Below.refl _ _).alloc (Nat.le_refl _) _)).mono ?_; rintro e w9 ⟨ad9, len9, cap9, rfl, hc9, hrd9, hr9, hB9⟩
                  have hc2 := Byt.run_str_any (w := w9) (ad := none) (cap := 0) (l := []) (.inl rfl) rfl
                  simp only [List.length_nil] at hc2
                  go_wp2_with fail
                  go_roundw
                  case rel => exact ⟨j + 1, by omega, by go_num, hr9, hB9⟩
                  case measure => simp [intOf]; omega
              rw [decide_eq_false h1] at q1
              by_cases h2 : tk % 5 = 2
              · have e1 : Buf.It.v (Buf.It.again ⟨tk, tx, tn, tad, tcap, tb⟩) = .agg #[.int .u8 (tk : Int), .int .u64 (tx : Int), .int .i64 tn, .slice tad tb.length tcap] := by unfold Buf.It.again; rw [if_neg (by simp only; omega)]; rfl
                have e2 : Buf.It.want ⟨tk, tx, tn, tad, tcap, tb⟩ = (tx, []) := by unfold Buf.It.want; rw [if_neg h0, if_neg h1, if_pos h2]
                simp only [e1, e2] at CR
                have h3 : tk % 5 ≠ 3 := by omega
                have h4 : tk % 5 ≠ 4 := by omega
                rw [decide_eq_false h3] at q3
                rw [decide_eq_false h4] at q4
                clear e1 e2 h0 h1 h2 h3 h4 q2 ht0
                go_wp2_with fail
                refine (CR.out _ ((Below.refl _ _).alloc (Nat.le_refl _) _)).mono ?_; rintro e w9 ⟨ad9, len9, cap9, rfl, hc9, hrd9, hr9, hB9⟩
                have hc2 := Byt.run_str_any (w := w9) (ad := none) (cap := 0) (l := []) (.inl rfl) rfl
                simp only [List.length_nil] at hc2
                go_wp2_with fail
                go_roundw
                case rel => exact ⟨j + 1, by omega, by go_num, hr9, hB9⟩
                case measure => simp [intOf]; omega
              by_cases h3 : tk % 5 = 3
              · have e1 : Buf.It.v (Buf.It.again ⟨tk, tx, tn, tad, tcap, tb⟩) = .agg #[.int .u8 (tk : Int), .int .u64 (tx : Int), .int .i64 tn, .slice tad tb.length tcap] := by unfold Buf.It.again; rw [if_neg (by simp only; omega)]; rfl
                have e2 : Buf.It.want ⟨tk, tx, tn, tad, tcap, tb⟩ = (Units.zigN (wrap64 (tx : Int)), []) := by unfold Buf.It.want Buf.It.i; rw [if_neg h0, if_neg h1, if_neg h2, if_pos h3]
                simp only [e1, e2] at CR
                have hbd := Buf.It.i_bd ⟨tk, tx, tn, tad, tcap, tb⟩
                simp only [Buf.It.i] at hbd
                have CZ : Hid (∀ w2, Calls Try.prog 19 #[.int .i64 (wrap64 (tx : Int))] w2 fun e w' => e = .returned (.int .u64 ((Units.zigN (wrap64 (tx : Int)) : Nat) : Int)) ∧ w2 = w') := Lib.hid (fun w2 => Units.rzig_nat _ hbd.1 hbd.2 w2)
                rw [decide_eq_true h3] at q3
                clear e1 e2 h0 h1 h2 h3 q2 q4 ht0 hbd
                go_wp2_with fail
                refine (CZ.out _).mono ?_; rintro e w' ⟨rfl, rfl⟩
                go_wp2_with fail
                refine (CR.out _ ((Below.refl _ _).alloc (Nat.le_refl _) _)).mono ?_; rintro e w9 ⟨ad9, len9, cap9, rfl, hc9, hrd9, hr9, hB9⟩
                have hc2 := Byt.run_str_any (w := w9) (ad := none) (cap := 0) (l := []) (.inl rfl) rfl
                simp only [List.length_nil] at hc2
                go_wp2_with fail
                go_roundw
                case rel => exact ⟨j + 1, by omega, by go_num, hr9, hB9⟩
                case measure => simp [intOf]; omega
              rw [decide_eq_false h3] at q3
              have h4 : tk % 5 = 4 := by omega
              have e1 : Buf.It.v (Buf.It.again ⟨tk, tx, tn, tad, tcap, tb⟩) = .agg #[.int .u8 (tk : Int), .int .u64 (tx : Int), .int .i64 200, .slice tad tb.length tcap] := by unfold Buf.It.again; rw [if_pos h4]; rfl
              have e2 : Buf.It.want ⟨tk, tx, tn, tad, tcap, tb⟩ = (0, tb.take 200) := by unfold Buf.It.want Buf.It.c; rw [if_neg h0, if_neg h1, if_neg h2, if_neg h3]
              simp only [e1, e2, Buf.It.c] at CR
              rw [decide_eq_true h4] at q4
              clear e1 e2 h0 h1 h2 h3 h4 q2 ht0
              have htci : (tb.length : Int) ≤ (tcap : Int) ∧ (tb.length : Int) ≤ 9223372036854775807 := by omega
              obtain ⟨htci, htcj⟩ := htci
              have HTB : Hid (∀ w9 c, Byt.RdB w9 tad (tb.take 200) → c = (min (tb.length : Int) 200).toNat → (convert 25 9 (.slice tad c tcap)).run Try.prog w9 = .ok (.string (Byt.strB (tb.take 200))) w9) := Lib.hid (fun w9 c h hc => Byt.run_str_any h (by rw [List.length_take, hc]; omega))
              generalize tb.length = tl at *
              by_cases h200 : tl ≤ 200
              · have h200' : (tl : Int) ≤ 200 := by omega
                go_wp2_with fail
                go_region
                go_wp2_with fail
                refine (CR.out _ (((Below.refl _ _).alloc (Nat.le_refl _) _).drew)).mono ?_; rintro e w9 ⟨ad9, len9, cap9, rfl, hc9, hrd9, hr9, hB9⟩
                have hc2 := HTB.out w9 _ hrd9.out (show tl = _ by omega)
                go_wp2_with fail
                go_roundw
                case rel => exact ⟨j + 1, by omega, by go_num, hr9, hB9⟩
                case measure => simp [intOf]; omega
              · have h200' : (200 : Int) < (tl : Int) := by omega
                have h200c : (200 : Int) ≤ (tcap : Int) := by omega
                go_wp2_with fail
                go_region
                go_wp2_with fail
                refine (CR.out _ (((Below.refl _ _).alloc (Nat.le_refl _) _).drew)).mono ?_; rintro e w9 ⟨ad9, len9, cap9, rfl, hc9, hrd9, hr9, hB9⟩
                have hc2 := HTB.out w9 _ hrd9.out (show 200 = _ by omega)
                go_wp2_with fail
                go_roundw
                case rel => exact ⟨j + 1, by omega, by go_num, hr9, hB9⟩
                case measure => simp [intOf]; omega
            · obtain rfl : j = k := by omega
              have hr2 := hr.out
              rw [List.drop_of_length_le (by have := HML.out; omega), List.flatMap_nil] at hr2
              have CE := Lib.hid (Buf.end_any gr _ wr hr2)
              have CW := Lib.hid (Buf.works_any wr)
              have HB7 := Lib.hid (HB6.out.trans (hB.out.mono HGE.out))
              simp only [if_true] at CE
              clear hr hB hr2 CQ HR
              go_wp2_with fail
              refine (CE.out).mono ?_; rintro e w' ⟨rfl, rfl⟩
              go_wp2_with fail
              refine (CW.out).mono ?_; rintro e w8 ⟨rfl, hB8⟩
              go_wp2_with fail
              go_ret
              exact ⟨rfl, HB7.out.trans (hB8.mono HB7.out.size)⟩

set_option maxRecDepth 100000 in
theorem lifted (os : Os) (started : os.Started) (H : Type) (enc : TypeId × Value → H) :
    ReturnsInHanded {} Try.checked os 5 .any (Rows.bufBackSpec.pre6 enc Try.prog Try.f5 Rows.bufBackRow.domain false) (Rows.bufBackSpec.post enc Try.prog Try.f5 false true false false) := by
  refine returnsInHanded_of_change (C := Try.checked) own started (by kernel_rfl) Try.func5
    (ChangeSpec.witness6 (enc := enc) (C := Try.checked) false ⟨#[], #[.slice none 0 0], []⟩ 8 (by kernel_rfl) (by kernel_rfl) (by kernel_rfl) (by kernel_rfl)) ?_
  intro W base args ds gs before hval0 hW hcnd _
  have hval : ∀ (j : Nat) t v, Try.f5.params[j]? = some t → args[j]? = some v → Value.okWide Try.prog W .any base t v := hval0
  have hW' := hW
  obtain ⟨p, q, hA0, hV, rfl, hfz, hnd⟩ := hW
  have hA : DataW.TrodAll enc Try.prog W 0 (fun _ => true) true Try.f5.params.toList args.toList ds p := hA0
  rw [Try.params5] at hA hval
  obtain ⟨v0, vs0, d0, ds0, p0, q0, hargs, rfl, rfl, h0, r0⟩ := trodAll_cons hA
  obtain ⟨rfl, rfl, rfl⟩ := trodAll_nil r0
  obtain rfl : args = #[v0] := by cases args; simp_all
  obtain ⟨rfl, rfl⟩ := trodVars_none hV
  obtain ⟨a0, len0, cap0, rfl⟩ := okWide_slice Try.underlying22 (hval 0 22 v0 rfl rfl)
  have k0 := h0
  have lt0 : ∀ x ∈ p0, x.block < W.heap.size := by obtain ⟨m, hm⟩ := k0; exact DataW.trod_lt m _ _ _ hm
  obtain ⟨z0, w0⟩ : ∃ zs, Buf.Items W W.heap.size a0 len0 cap0 zs := by
    obtain ⟨fuel, hf⟩ := h0
    exact Buf.open_items rfl (by simpa [Value.cells] using hf)
  clear hA0 hval0
  refine (walk a0 len0 cap0 z0 W w0).mono fun e W' ⟨he, bel⟩ => ?_
  subst he
  exact ⟨_, rfl, _, _, _, [], _, [], hW', trodAll_mk1 (shut_bool Try.underlying4 _), (trodAll_cons_mk (Below.trod laidOut (by kernel_rfl) (of_decide_eq_true (by kernel_rfl)) k0 bel lt0) trodAll_mk0), rfl, bel.frame _, fun h => by cases h⟩

theorem over : Rows.bufBackRow.holds Try.pinned (OpenSpec.ofChange Rows.bufBackSpec) :=
  OpenClaim.holds_of_wide 5 Try.f5 rfl rfl rfl rfl rfl rfl rfl ⟨rfl, rfl, rfl, rfl, rfl⟩ rfl rfl rfl rfl rfl (by kernel_rfl) Try.func5 (by kernel_rfl)
    (of_decide_eq_true (by kernel_rfl)) (by unfold Func.isWrapper; first | (rw [if_pos (by decide +kernel)]; kernel_rfl) | (rw [if_neg (by decide +kernel)]; exact ⟨rfl, rfl⟩))
    (fun os started H enc _ => lifted os started H enc)

theorem proved : Rows.BufBackSaid := over
#print axioms proved
end Go.Proofs.Ytglnclcoinpakaa.lawBufBack
