/- Any items, written one behind the other, are the bytes that the document says, or what is wrong first. -/
import Derived.Test.YtglnclcoinpakaaRows
import Derived.WalkKit
import Derived.ProofKit
import Derived.OpenShut
import Derived.ShutString
import Derived.ChangeOld
import Derived.Below
import Derived.Test.YtglnclcoinpakaaBufR
import Derived.Deep.Cut
namespace Go.Proofs.Ytglnclcoinpakaa.lawBufWrites
open Go.ChangeShapes Go.WideShapes Go.ChangeAt Go.RowKit
open Go.ChangeMaps (open_string shut_string)
set_option linter.unusedVariables false

theorem own : ownKnob Try.prog.godebug = none := by kernel_rfl
theorem laidOut : laidOutB Try.prog = true := by kernel_rfl

/-! The walk: the Go text returns true and writes nothing that was there. -/
set_option maxRecDepth 100000 in
set_option maxHeartbeats 1000000 in
theorem walk (a0 : Int) (a1 : Option Addr) (len1 cap1 : Nat) (z1 : List Buf.It) (w : World) (w0 : (Lit.int .i64 a0).wf = true) (w1 : Buf.Items w w.heap.size a1 len1 cap1 z1) :
    Calls Try.prog 3 #[.int .i64 a0, .slice a1 len1 cap1] w fun e w' => e = .returned (.bool true) ∧ Below w.heap.size w w' := by
  obtain ⟨i0, hi, hz0, hz1, hz2⟩ := info_parts Byt.infoByte
  obtain ⟨l0, u0⟩ := bounds_i64 w0
  have HIT : Hid (∀ k, k < len1 → ∃ b off, a1 = some ⟨b, off, none⟩ ∧ ∀ W, Below w.heap.size w W → Buf.ItAt W b (off + k * 4) (z1.getD k default) ∧ (z1.getD k default).ok W w.heap.size) := Lib.hid (fun k hk => by
    have hlen := w1.len_
    have hmem : z1.getD k default ∈ z1 := by
      have : z1.getD k default = z1[k]'(by omega) := by simp [List.getD, show k < z1.length by omega]
      rw [this]; exact List.getElem_mem _
    have hok := w1.ok _ hmem
    rcases w1.at_ with h0 | ⟨b, off, e2, hb, hc⟩
    · omega
    · refine ⟨b, off, e2, fun W hB => ⟨?_, hok.kept fun b hb => hB.block b hb⟩⟩
      obtain ⟨c0, c1, c2, c3⟩ := hc k hk
      exact ⟨(hB.cell (p := ⟨b, _, none⟩) hb).trans c0, (hB.cell (p := ⟨b, _, none⟩) hb).trans c1, (hB.cell (p := ⟨b, _, none⟩) hb).trans c2, (hB.cell (p := ⟨b, _, none⟩) hb).trans c3⟩)
  have hll1 : (len1 : Int) ≤ 9223372036854775807 ∧ len1 ≤ 9223372036854775807 := by have := w1.le; have := w1.max; omega
  obtain ⟨hll1, hlm1⟩ := hll1
  clear w1
  have C0 := Lib.hid (Buf.new_any a0 (by omega) w)
  have CQ : Hid (∀ (m j : Nat) (wr : World) (s : Int × List UInt8) (wl : List UInt8) (ad : Option Addr) (len cap : Nat), j < len1 → j < 30 → Hid (Buf.Wm w wr w.heap.size m s wl ad len cap) → s.2.length ≤ 210 * j →
      ∃ (t : Buf.It) (b off bad : Nat), a1 = some ⟨b, off, none⟩ ∧ t.x < 18446744073709551616 ∧ Hid (Buf.ItAt wr b (off + j * 4) t) ∧ t.text.2 = bad ∧ t.text.1.length ≤ 210 ∧
      Hid (Calls Try.prog 9 #[.pointer (some ⟨w.heap.size, 0, none⟩), .agg #[.int .u8 (t.k : Int), .int .u64 (t.x : Int), .int .i64 t.n, .slice t.ad t.b.length t.cap]] wr (fun en w6 => en = .returned (.tuple #[]) ∧ Hid ((t.put m s).2.length ≤ m) ∧ Hid (Buf.ItAt w6 b (off + j * 4) t) ∧
        Hid (Calls Try.prog 10 #[.agg #[.int .u8 (t.k : Int), .int .u64 (t.x : Int), .int .i64 t.n, .slice t.ad t.b.length t.cap]] w6 (fun en w7 => ∃ ad2 len2 cap2, en = .returned (.tuple #[.slice ad2 len2 cap2, .int .i64 (bad : Int)]) ∧ t.text.1.length = len2 ∧ Hid (Buf.Wm w w7 w.heap.size m (t.put m s) wl ad len cap) ∧ Hid (ad2 = none → len2 = 0 ∧ cap2 = 0) ∧
          Hid (∀ a', ad2 = some a' → ∀ j u, (Byt.bvs t.text.1)[j]? = some u → w7.cell? (a'.add j) = some u) ∧ w.heap.size + 1 ≤ w7.heap.size))))) := Lib.hid (fun m j wr s wl ad len cap hj hj30 hW hs => by
    obtain ⟨b, off, ea, hat⟩ := HIT.out j hj
    have hBw : Below w.heap.size w wr := hW.out.below
    obtain ⟨h1, h2⟩ := hat wr hBw
    have hxx := h2.x
    refine ⟨z1.getD j default, b, off, _, ea, hxx, Lib.hid h1, rfl, Buf.text_len _ hxx, Lib.hid ((hW.out.put _ h2 (by omega)).mono fun en w6 hh => ?_)⟩
    obtain ⟨he, hW6, hf, hk⟩ := hh
    have hBw6 : Below w.heap.size w w6 := hW6.out.below
    obtain ⟨h16, h26⟩ := hat w6 hBw6
    refine ⟨he, hf, Lib.hid h16, Lib.hid ((hW6.out.text _ h26).mono fun en w7 hh => ?_)⟩
    obtain ⟨ad2, len2, cap2, he, hl, hW7, hrd, hnil, _⟩ := hh
    obtain ⟨row, hw7, _⟩ := hW7.out.wr
    obtain ⟨v, hbk, _⟩ := hw7.mem
    exact ⟨ad2, len2, cap2, he, hl, hW7, Lib.hid (Buf.nil_none hl hrd.out hnil.out), Lib.hid (Byt.RdB.cells hrd.out), hbk.lt⟩)
  have CW : Hid (∀ W, Calls Try.prog 12 #[] W fun e w' => e = .returned (.bool true) ∧ Below W.heap.size W w') := Lib.hid (fun W => Buf.works_any W)
  obtain ⟨m, hm⟩ : ∃ m, Hid (a0.toNat = m) := ⟨_, Lib.hid rfl⟩
  clear HIT
  go_enter Try.func3, Try.ntmps3
  go_wp2_with fail
  refine (C0.out).mono ?_; rintro e w1 ⟨rfl, hr, hB, hs⟩
  have HM0 : Hid (Buf.Wm w (w1.alloc (.cells #[] 5)) w.heap.size m (0, []) [] (some ⟨w1.heap.size, 0, none⟩) 0 0) := Lib.hid (by
    rw [hm.out] at hr
    have hB2 : Below w1.heap.size w1 (w1.alloc (.cells #[] 5)) := (Below.refl _ _).alloc (Nat.le_refl _) _
    exact ⟨⟨none, hr.kept hB2, fun k _ h => by cases h⟩, rfl, Own.mono (Buf.own_zero w1) (by omega), hB.alloc hB.size _⟩)
  clear hr hB hs C0
  go_upto_region 2 with fail
  generalize w1.heap.size = h1 at *
  go_cut [8] from 17 (fun v wc => ∃ r : Nat, r ≤ 4000 ∧ r ≤ m ∧ Hid (a0 ≤ 4000 → r = m) ∧ v = .int .i64 (r : Int) ∧ Hid (Buf.Wm w wc w.heap.size m (0, []) [] (some ⟨h1, 0, none⟩) 0 0))
  case first =>
    have hm2 := hm.out
    by_cases c1 : 4000 < a0
    · go_wp2_with fail
      go_meet
      case rel => exact ⟨4000, by omega, by omega, Lib.hid (by omega), rfl, HM0⟩
    · by_cases c2 : 0 ≤ a0
      · go_wp2_with fail
        go_meet
        case rel => exact ⟨m, by omega, by omega, Lib.hid (fun _ => rfl), by congr 1; omega, HM0⟩
      · go_wp2_with fail
        go_meet
        case rel => exact ⟨0, by omega, by omega, Lib.hid (by omega), rfl, HM0⟩
  case rest =>
    obtain ⟨r, hr4, hrm, hrk, rfl, HM⟩ := hcut
    clear HM0
    have CV : Hid (∀ (j : Nat) (wr : World) (s : Int × List UInt8) (wl : List UInt8) (ad : Option Addr) (len cap e : Nat), Hid (Buf.Wm w wr w.heap.size m s wl ad len cap) → Hid (Buf.Wst a0 m r j e wl s) → j ≤ 30 →
        Calls Try.prog 11 #[.pointer (some ⟨w.heap.size, 0, none⟩)] wr (fun en w' => ∃ (ad2 : Option Addr) (len2 cap2 : Nat), en = .returned (.tuple #[.slice ad2 len2 cap2, .int .i64 s.1]) ∧ (convert 25 9 (.slice ad2 len2 cap2)).run Try.prog w' = .ok (.string (Byt.strB (if s.1 = 0 then s.2 else []))) w' ∧
          (convert 25 9 (.slice ad len cap)).run Try.prog w' = .ok (.string (Byt.strB wl)) w' ∧ (convert 25 9 (.slice none 0 0)).run Try.prog w' = .ok (.string (Byt.strB [])) w' ∧ Hid (Below w.heap.size w w'))) := Lib.hid (fun j wr s wl ad len cap e hW hS hj => (hW.out.done (by have := hS.out.len; omega)).mono fun en w' hh => by
      obtain ⟨ad2, len2, cap2, he, h1, h2, h3⟩ := hh
      exact ⟨ad2, len2, cap2, he, h1, h2, Byt.run_str_any (l := []) (.inl rfl) rfl, h3⟩)
    have HAP : Hid (∀ (w7 w8 : World) (s : Int × List UInt8) (wl tx : List UInt8) (ad : Option Addr) (len cap n2 : Nat) (v1 : Value), Hid (Buf.Wm w w7 w.heap.size m s wl ad len cap) → Hid (tx.length = n2) → w8.ownsRow (w.heap.size + 1) 5 1 v1 (len + n2) (Byt.bvs wl ++ Byt.bvs tx) → w7.grownBy w8 (Value.slice ad len cap).ownBlock → (v1.ownBlock = (Value.slice ad len cap).ownBlock ∨ ∀ k, v1.ownBlock = some k → w7.heap.size ≤ k) →
        ∃ ad3 cap3, v1 = .slice ad3 (len + n2) cap3 ∧ Hid (Buf.Wm w w8 w.heap.size m s (wl ++ tx) ad3 (len + n2) cap3)) := Lib.hid (fun w7 w8 s wl tx ad len cap n2 v1 h1 h2 h3 h4 h5 => h1.out.append h2.out h3 h4 h5)
    have HS0 : Hid (Buf.Wst a0 m r 0 0 [] (0, [])) := Lib.hid ⟨by simp, by simp, by simp, fun _ => rfl, fun h => absurd rfl h⟩
    clear hm
    go_wp2_with fail
    go_loopw [6, 7, 9] (fun wv ev iv wr => ∃ (j e : Nat) (s : Int × List UInt8) (wl : List UInt8) (ad : Option Addr) (len cap : Nat), j ≤ 30 ∧ iv = .int .i64 (j : Int) ∧ ev = .int .i64 (e : Int) ∧ wv = .slice ad len cap ∧ Hid (Buf.Wm w wr w.heap.size m s wl ad len cap) ∧ Hid (Buf.Wst a0 m r j e wl s)) (fun _ _ iv _ => 30 - (intOf iv).toNat)
    case atStart => exact ⟨0, 0, (0, []), [], _, 0, 0, by omega, rfl, rfl, rfl, HM, HS0⟩
    case round =>
      obtain ⟨j, e, s, wl, ad, len, cap, hj, rfl, rfl, rfl, hW, hS⟩ := hrel
      have hlr : wl.length = len ∧ wl.length ≤ r := ⟨hW.out.len_, hS.out.room⟩
      obtain ⟨hwl, hlr⟩ := hlr
      by_cases hgo : j < len1 ∧ j < 30
      · obtain ⟨hj1, hj30⟩ := hgo
        have hji : (j : Int) < (len1 : Int) := by omega
        obtain ⟨t, b, off, bad, rfl, htx, hat, hbad, htl, CP⟩ := CQ.out m j wr s wl ad len cap hj1 hj30 hW hS.out.len
        obtain ⟨c0, c1, c2, c3⟩ := hat.out
        have hbd : bad = 0 ∨ bad = 1 := by rcases Buf.text_err t with h | ⟨h, _⟩ <;> omega
        have HBD := Lib.hid hbad
        have hlr2 : len ≤ r := by omega
        have HWL := Lib.hid hwl
        clear hat CQ CV hwl hbad HM HS0 hW
        by_cases he : e = 0
        · subst he
          rcases hbd with rfl | rfl
          · by_cases hlong : r - len < t.text.1.length
            · have HN : Hid ((t.put m s).2.length ≤ m → Buf.Wst a0 m r (j + 1) 4 wl (t.put m s)) := Lib.hid (fun hf => hS.out.long t htx hrk.out HBD.out (by rw [HWL.out]; exact hlong) hf)
              clear hS
              go_wp2_with fail
              refine (CP.out).mono ?_; rintro en w6 ⟨rfl, hf, hat6, CT⟩
              obtain ⟨d0, d1, d2, d3⟩ := hat6.out
              clear hat6 c0 c1 c2 c3
              go_wp2_with fail
              refine (CT.out).mono ?_; rintro en w7 ⟨ad2, len2, cap2, rfl, hl2, hW7, hnil, hcl, hsz⟩
              have hl7 : (r : Int) - (len : Int) < (len2 : Int) := by omega
              have HN2 := Lib.hid (HN.out hf.out)
              clear hl2 hlong htl hcl hnil d0 d1 d2 d3 CT CP hsz
              go_wp2_with fail
              go_roundw
              case rel => exact ⟨j + 1, 4, _, wl, ad, len, cap, by omega, by go_num, rfl, rfl, hW7, HN2⟩
              case measure => simp [intOf]; omega
            · have HN : Hid ((t.put m s).2.length ≤ m → Buf.Wst a0 m r (j + 1) 0 (wl ++ t.text.1) (t.put m s)) := Lib.hid (fun hf => hS.out.fits t htx hrm HBD.out (by rw [HWL.out]; exact hlong) hf)
              clear hS
              go_wp2_with fail
              refine (CP.out).mono ?_; rintro en w6 ⟨rfl, hf, hat6, CT⟩
              obtain ⟨d0, d1, d2, d3⟩ := hat6.out
              clear hat6 c0 c1 c2 c3
              go_wp2_with fail
              refine (CT.out).mono ?_; rintro en w7 ⟨ad2, len2, cap2, rfl, hl2, hW7, hnil, hcl, hsz⟩
              have hl7 : (len2 : Int) ≤ (r : Int) - (len : Int) := by omega
              have hl8 : len2 ≤ 210 := by omega
              have HN2 := Lib.hid (HN.out hf.out)
              have HL2 := Lib.hid hl2
              have HBV : Hid ((Byt.bvs t.text.1).length = len2 * 1) := Lib.hid (by rw [Byt.bvs_len, hl2, Nat.mul_one])
              have hown := hW7.out.want
              unfold Byt.OwnB at hown
              rw [HWL.out] at hown
              have HA := Lib.hid (fun w8 v1 => HAP.out w7 w8 _ wl t.text.1 ad len cap len2 v1 hW7 HL2)
              clear hl2 hlong htl d0 d1 d2 d3 CT CP
              go_wp2_with (at_builtin; refine Own.wpList_append2_any _ rfl _ _ 25 rfl (w.heap.size + 1) 5 i0 (.int .u8 0) 1 1 Try.underlying25 hi hz0 hz1 hz2 rfl (by decide) (.slice ad len cap) len _ rfl hown ad2 len2 cap2 (Byt.bvs t.text.1) rfl HBV.out hnil.out hcl.out (Byt.bvs_oneCell _) (by unfold maxLen; omega) (by omega) hsz ?_; intro v' w8 hown' hgrow hnew; obtain ⟨ad3, cap3, rfl, hW8⟩ := HA.out w8 v' hown' hgrow hnew; clear hown' hgrow hnew)
              go_roundw
              case rel => exact ⟨j + 1, 0, _, _, ad3, len + len2, cap3, by omega, by go_num, rfl, rfl, hW8, HN2⟩
              case measure => simp [intOf]; omega
          · have HN : Hid ((t.put m s).2.length ≤ m → Buf.Wst a0 m r (j + 1) 1 wl (t.put m s)) := Lib.hid (fun hf => hS.out.wrong t htx HBD.out hf)
            clear hS
            go_wp2_with fail
            refine (CP.out).mono ?_; rintro en w6 ⟨rfl, hf, hat6, CT⟩
            obtain ⟨d0, d1, d2, d3⟩ := hat6.out
            clear hat6 c0 c1 c2 c3
            go_wp2_with fail
            refine (CT.out).mono ?_; rintro en w7 ⟨ad2, len2, cap2, rfl, hl2, hW7, hnil, hcl, hsz⟩
            have HN2 := Lib.hid (HN.out hf.out)
            clear hl2 htl hcl hnil d0 d1 d2 d3 CT CP hsz
            go_wp2_with fail
            go_roundw
            case rel => exact ⟨j + 1, 1, _, wl, ad, len, cap, by omega, by go_num, rfl, rfl, hW7, HN2⟩
            case measure => simp [intOf]; omega
        · have hne : (((e : Nat) : Int) == 0) = false := by simp; omega
          have HN : Hid ((t.put m s).2.length ≤ m → Buf.Wst a0 m r (j + 1) e wl (t.put m s)) := Lib.hid (fun hf => hS.out.stays t htx he hf)
          clear hS hbd
          go_wp2_with fail
          refine (CP.out).mono ?_; rintro en w6 ⟨rfl, hf, hat6, CT⟩
          obtain ⟨d0, d1, d2, d3⟩ := hat6.out
          clear hat6 c0 c1 c2 c3
          go_wp2_with fail
          refine (CT.out).mono ?_; rintro en w7 ⟨ad2, len2, cap2, rfl, hl2, hW7, hnil, hcl, hsz⟩
          have HN2 := Lib.hid (HN.out hf.out)
          clear hl2 htl hcl hnil d0 d1 d2 d3 CT CP hsz
          go_wp2_with fail
          go_roundw
          case rel => exact ⟨j + 1, e, _, wl, ad, len, cap, by omega, by go_num, rfl, rfl, hW7, HN2⟩
          case measure => simp [intOf]; omega
      · have CD := CV.out j wr s wl ad len cap e hW hS hj
        obtain ⟨e0, l⟩ := s
        have hstop : (j = 30 ∧ (30 : Int) < (len1 : Int)) ∨ ((len1 : Int) ≤ (j : Int)) := by omega
        have hcase : (e = 0 ∧ e0 = 0 ∧ l = wl) ∨ (e = 4 ∧ 4000 < a0) ∨ (e ≠ 0 ∧ e0 = (e : Int) ∧ a0 ≤ 4000) ∨ (e ≠ 0 ∧ e0 = (e : Int) ∧ 4000 < a0 ∧ e ≠ 4) := by
          by_cases he : e = 0
          · have := hS.out.ok he
            simp only [Prod.mk.injEq] at this
            exact .inl ⟨he, this.1, this.2⟩
          · have := hS.out.bad he
            simp only at this
            omega
        clear CQ CV HAP HM HS0 hW hS hwl hlr hgo hrk
        rcases hstop with ⟨rfl, hs1⟩ | hs1
        all_goals
          rcases hcase with ⟨rfl, rfl, rfl⟩ | ⟨rfl, h4⟩ | ⟨he, rfl, h4⟩ | ⟨he, rfl, h4, he4⟩
          · simp only [if_true] at CD
            have CD := Lib.hid CD
            by_cases h4 : 4000 < a0
            · go_wp2_with fail
              refine (CD.out).mono ?_; rintro en w9 ⟨ad2, len2, cap2, rfl, hc1, hc2, hc3, HB9⟩
              go_wp2_with fail
              refine (CW.out _).mono ?_; rintro en w8 ⟨rfl, hB8⟩
              go_wp2_with fail
              first | exact ⟨rfl, HB9.out.trans (hB8.mono HB9.out.size)⟩ | (go_ret; exact ⟨rfl, HB9.out.trans (hB8.mono HB9.out.size)⟩)
            · go_wp2_with fail
              refine (CD.out).mono ?_; rintro en w9 ⟨ad2, len2, cap2, rfl, hc1, hc2, hc3, HB9⟩
              go_wp2_with fail
              refine (CW.out _).mono ?_; rintro en w8 ⟨rfl, hB8⟩
              go_wp2_with fail
              first | exact ⟨rfl, HB9.out.trans (hB8.mono HB9.out.size)⟩ | (go_ret; exact ⟨rfl, HB9.out.trans (hB8.mono HB9.out.size)⟩)
          · have CD := Lib.hid CD
            go_wp2_with fail
            refine (CD.out).mono ?_; rintro en w9 ⟨ad2, len2, cap2, rfl, hc1, hc2, hc3, HB9⟩
            go_wp2_with fail
            refine (CW.out _).mono ?_; rintro en w8 ⟨rfl, hB8⟩
            go_wp2_with fail
            first | exact ⟨rfl, HB9.out.trans (hB8.mono HB9.out.size)⟩ | (go_ret; exact ⟨rfl, HB9.out.trans (hB8.mono HB9.out.size)⟩)
          · have hne : (((e : Nat) : Int) == 0) = false := by simp; omega
            have hne2 : (((e : Nat) : Int) != 0) = true := by simp; omega
            simp only [if_neg (show ¬ ((e : Nat) : Int) = 0 by omega)] at CD
            have CD := Lib.hid CD
            go_wp2_with fail
            refine (CD.out).mono ?_; rintro en w9 ⟨ad2, len2, cap2, rfl, hc1, hc2, hc3, HB9⟩
            go_wp2_with fail
            refine (CW.out _).mono ?_; rintro en w8 ⟨rfl, hB8⟩
            go_wp2_with fail
            first | exact ⟨rfl, HB9.out.trans (hB8.mono HB9.out.size)⟩ | (go_ret; exact ⟨rfl, HB9.out.trans (hB8.mono HB9.out.size)⟩)
          · have hne : (((e : Nat) : Int) == 0) = false := by simp; omega
            have hne2 : (((e : Nat) : Int) != 0) = true := by simp; omega
            have hne4 : (((e : Nat) : Int) == 4) = false := by simp; omega
            simp only [if_neg (show ¬ ((e : Nat) : Int) = 0 by omega)] at CD
            have CD := Lib.hid CD
            go_wp2_with fail
            refine (CD.out).mono ?_; rintro en w9 ⟨ad2, len2, cap2, rfl, hc1, hc2, hc3, HB9⟩
            go_wp2_with fail
            refine (CW.out _).mono ?_; rintro en w8 ⟨rfl, hB8⟩
            go_wp2_with fail
            first | exact ⟨rfl, HB9.out.trans (hB8.mono HB9.out.size)⟩ | (go_ret; exact ⟨rfl, HB9.out.trans (hB8.mono HB9.out.size)⟩)

set_option maxRecDepth 100000 in
theorem lifted (os : Os) (started : os.Started) (H : Type) (enc : TypeId × Value → H) :
    ReturnsInHanded {} Try.checked os 3 .any (Rows.bufWritesSpec.pre6 enc Try.prog Try.f3 Rows.bufWritesRow.domain false) (Rows.bufWritesSpec.post enc Try.prog Try.f3 false true false false) := by
  refine returnsInHanded_of_change (C := Try.checked) own started (by kernel_rfl) Try.func3
    (ChangeSpec.witness6 (enc := enc) (C := Try.checked) false ⟨#[], #[.int .i64 0, .slice none 0 0], []⟩ 8 (by kernel_rfl) (by kernel_rfl) (by kernel_rfl) (by kernel_rfl)) ?_
  intro W base args ds gs before hval0 hW hcnd _
  have hval : ∀ (j : Nat) t v, Try.f3.params[j]? = some t → args[j]? = some v → Value.okWide Try.prog W .any base t v := hval0
  have hW' := hW
  obtain ⟨p, q, hA0, hV, rfl, hfz, hnd⟩ := hW
  have hA : DataW.TrodAll enc Try.prog W 0 (fun _ => true) true Try.f3.params.toList args.toList ds p := hA0
  rw [Try.params3] at hA hval
  obtain ⟨v0, vs0, d0, ds0, p0, q0, hargs, rfl, rfl, h0, r0⟩ := trodAll_cons hA
  obtain ⟨v1, vs1, d1, ds1, p1, q1, rfl, rfl, rfl, h1, r1⟩ := trodAll_cons r0
  obtain ⟨rfl, rfl, rfl⟩ := trodAll_nil r1
  obtain rfl : args = #[v0, v1] := by cases args; simp_all
  obtain ⟨rfl, rfl⟩ := trodVars_none hV
  obtain ⟨a0, rfl, rfl, rfl, w0⟩ := open_int Try.underlying3 (hval 0 3 v0 rfl rfl) h0
  obtain ⟨a1, len1, cap1, rfl⟩ := okWide_slice Try.underlying22 (hval 1 22 v1 rfl rfl)
  have k1 := h1
  have lt1 : ∀ x ∈ p1, x.block < W.heap.size := by obtain ⟨m, hm⟩ := k1; exact DataW.trod_lt m _ _ _ hm
  obtain ⟨z1, w1⟩ : ∃ zs, Buf.Items W W.heap.size a1 len1 cap1 zs := by
    obtain ⟨fuel, hf⟩ := h1
    exact Buf.open_items rfl (by simpa [Value.cells] using hf)
  clear hA0 hval0
  refine (walk a0 a1 len1 cap1 z1 W w0 w1).mono fun e W' ⟨he, bel⟩ => ?_
  subst he
  exact ⟨_, rfl, _, _, _, [], _, [], hW', trodAll_mk1 (shut_bool Try.underlying4 _), (trodAll_cons_mk (shut_int Try.underlying3 w0) (trodAll_cons_mk (Below.trod laidOut (by kernel_rfl) (of_decide_eq_true (by kernel_rfl)) k1 bel lt1) trodAll_mk0)), rfl, bel.frame _, fun h => by cases h⟩

theorem over : Rows.bufWritesRow.holds Try.pinned (OpenSpec.ofChange Rows.bufWritesSpec) :=
  OpenClaim.holds_of_wide 3 Try.f3 rfl rfl rfl rfl rfl rfl rfl ⟨rfl, rfl, rfl, rfl, rfl⟩ rfl rfl rfl rfl rfl (by kernel_rfl) Try.func3 (by kernel_rfl)
    (of_decide_eq_true (by kernel_rfl)) (by unfold Func.isWrapper; first | (rw [if_pos (by decide +kernel)]; kernel_rfl) | (rw [if_neg (by decide +kernel)]; exact ⟨rfl, rfl⟩))
    (fun os started H enc _ => lifted os started H enc)

theorem proved : Rows.BufWritesSaid := over
#print axioms proved
end Go.Proofs.Ytglnclcoinpakaa.lawBufWrites
