/- Any bytes, read as any items, are the numbers that the document says, or what is wrong first, whatever becomes of the bytes that were handed in. -/
import Derived.Test.YtglnclcoinpakaaRows
import Derived.WalkKit
import Derived.ProofKit
import Derived.OpenShut
import Derived.ShutString
import Derived.ChangeOld
import Derived.Below
import Derived.Test.YtglnclcoinpakaaBufQ
import Derived.Deep.Cut
namespace Go.Proofs.Ytglnclcoinpakaa.lawBufReads
open Go.ChangeShapes Go.WideShapes Go.ChangeAt Go.RowKit
open Go.ChangeMaps (open_string shut_string)
set_option linter.unusedVariables false

theorem own : ownKnob Try.prog.godebug = none := by kernel_rfl
theorem laidOut : laidOutB Try.prog = true := by kernel_rfl

/-- What the walk is told of a slice of integers that came in. -/
def IsRow (k : IntKind) (w : World) (a : Option Addr) (len cap : Nat) (zs : List Int) : Prop :=
  (a = none ∧ len = 0 ∧ cap = 0 ∧ zs = []) ∨
  ∃ x, a = some x ∧ len ≤ cap ∧ cap ≤ maxLen ∧ zs.length = cap ∧ (∀ i, i < zs.length → w.cell? (x.add i) = some (.int k (zs.getD i 0))) ∧ ∀ n ∈ zs, (Lit.int k n).wf = true

/-! The walk: the Go text returns true and writes nothing that was there. -/
set_option maxRecDepth 100000 in
set_option maxHeartbeats 1000000 in
theorem walk (a0 : Option Addr) (len0 cap0 : Nat) (z0 : List Int) (a1 : Option Addr) (len1 cap1 : Nat) (z1 : List Buf.It) (w : World) (w0 : IsRow .u8 w a0 len0 cap0 z0) (w1 : Buf.Items w w.heap.size a1 len1 cap1 z1) :
    Calls Try.prog 4 #[.slice a0 len0 cap0, .slice a1 len1 cap1] w fun e w' => e = .returned (.bool true) ∧ Below w.heap.size w w' := by
  obtain ⟨i0, hi, hz0, hz1, hz2⟩ := info_parts Byt.infoByte
  obtain ⟨x0, HX0, HXL0, hlc0, hcm0, HXN0, hxs0⟩ := Byt.rd_of_row w0
  have hl0 := HXL0.out
  have TK0 : Hid ((x0.take 300).length ≤ 300) := Lib.hid (by rw [List.length_take]; omega)
  have TA0 : Hid (¬ 300 < len0 → (Byt.bvs (x0.take 300)).length = len0 * 1) := Lib.hid (fun h => by rw [Byt.bvs_len, List.length_take]; omega)
  have TB0 : Hid (300 < len0 → (Byt.bvs (x0.take 300)).length = 300 * 1) := Lib.hid (fun h => by rw [Byt.bvs_len, List.length_take]; omega)
  have TC0 : Hid (∀ W, Below w.heap.size w W → ∀ a', a0 = some a' → ∀ j u, (Byt.bvs (x0.take 300))[j]? = some u → W.cell? (a'.add j) = some u) := Lib.hid (fun W hB => Byt.RdB.cells ((HX0.out.below hB).take 300))
  have TN0 : Hid (a0 = none → len0 = 0 ∧ cap0 = 0) := Lib.hid (Buf.nil_none hl0 HX0.out HXN0.out)
  have TI0 : (len0 : Int) ≤ (cap0 : Int) ∧ (len0 : Int) ≤ 9223372036854775807 := by omega
  obtain ⟨TI0, TJ0⟩ := TI0
  clear w0 HX0 HXL0 HXN0 hxs0 hl0
  generalize x0.take 300 = y0 at *
  have HIT : Hid (∀ k, k < len1 → ∃ b off, a1 = some ⟨b, off, none⟩ ∧ ∀ W, Below w.heap.size w W → Buf.ItAt W b (off + k * 4) (z1.getD k default) ∧ (z1.getD k default).ok W w.heap.size) := Lib.hid (fun k hk => by
    have hlen := w1.len_
    have hmem : z1.getD k default ∈ z1 := by
      have : z1.getD k default = z1[k]'(by omega) := by simp [List.getD, show k < z1.length by omega]
      rw [this]; exact List.getElem_mem _
    have hok := w1.ok _ hmem
    rcases w1.at_ with h0 | ⟨b, off, e2, hb, hc⟩
    · omega
    · refine ⟨b, off, e2, fun W hB => ⟨?_, hok.kept fun b hb => hB.block b hb⟩⟩
      obtain ⟨c0, c1, c2, c3⟩ := hc k hk
      exact ⟨(hB.cell (p := ⟨b, _, none⟩) hb).trans c0, (hB.cell (p := ⟨b, _, none⟩) hb).trans c1, (hB.cell (p := ⟨b, _, none⟩) hb).trans c2, (hB.cell (p := ⟨b, _, none⟩) hb).trans c3⟩)
  have hll1 : (len1 : Int) ≤ 9223372036854775807 ∧ len1 ≤ 9223372036854775807 := by have := w1.le; have := w1.max; omega
  obtain ⟨hll1, hlm1⟩ := hll1
  clear w1
  have hown0 := Buf.own_zero w
  unfold Byt.OwnB at hown0
  have hB0 : Below w.heap.size w (w.alloc (.cells #[] 5)) := (Below.refl _ _).alloc (Nat.le_refl _) _
  have TC := Lib.hid (TC0.out _ hB0)
  have HQ : Hid (∀ w1 v m, w1.ownsRow w.heap.size 5 1 v m (Byt.bvs [] ++ Byt.bvs y0) → m = (Byt.bvs y0).length → (w.alloc (.cells #[] 5)).grownBy w1 (some w.heap.size) → ∃ ad cap, v = .slice ad y0.length cap ∧ Hid (Byt.OwnB w1 w.heap.size (.slice ad y0.length cap) y0) ∧ Hid (Below w.heap.size w w1)) := Lib.hid (fun w1 v m h hm hg => by
    rw [Byt.bvs_len] at hm
    subst hm
    have ho : Byt.OwnB w1 w.heap.size v y0 := h
    obtain ⟨ad, cap, e, _⟩ := Own.shape ho
    subst e
    exact ⟨ad, cap, rfl, Lib.hid ho, Lib.hid (hB0.grown hg (by simp) (fun k e => by cases e; exact Nat.le_refl _))⟩)
  clear TC0 hB0
  have HM : Hid (y0.length ≤ 300) := TK0
  have hkey : (300 < len0 ∧ Hid ((Byt.bvs y0).length = 300 * 1) ∧ Hid (a0 = none → 300 = 0 ∧ cap0 = 0)) ∨ (len0 ≤ 300 ∧ Hid ((Byt.bvs y0).length = len0 * 1) ∧ Hid (a0 = none → len0 = 0 ∧ cap0 = 0)) := by
    by_cases h : 300 < len0
    · exact .inl ⟨h, Lib.hid (TB0.out h), Lib.hid (fun hh => by have := TN0.out hh; omega)⟩
    · exact .inr ⟨by omega, Lib.hid (TA0.out h), TN0⟩
  clear TA0 TB0 TN0 TK0
  go_enter Try.func4, Try.ntmps4
  go_upto_region 1 with fail
  go_cut [0] from 17 (fun v wc => ∃ ad cap, v = .slice ad y0.length cap ∧ Hid (Byt.OwnB wc w.heap.size (.slice ad y0.length cap) y0) ∧ Hid (Below w.heap.size w wc))
  case first =>
    rcases hkey with ⟨h300, HE, TN⟩ | ⟨h300, HE, TN⟩
    all_goals
      go_wp2_with (at_builtin; refine Own.wpList_append2_any _ rfl _ _ 25 rfl w.heap.size 5 i0 (.int .u8 0) 1 1 Try.underlying25 hi hz0 hz1 hz2 rfl (by decide) (.slice (some ⟨w.heap.size, 0, none⟩) 0 0) 0 _ rfl hown0 a0 _ cap0 (Byt.bvs y0) rfl HE.out TN.out TC.out (Byt.bvs_oneCell _) (by unfold maxLen; omega) (by omega) (by simp) ?_; intro v' w1 hown' hgrow _; obtain ⟨ad, cap, rfl, ho, hB⟩ := HQ.out w1 v' _ hown' (by have := HE.out; omega) hgrow; clear hown' hgrow)
      go_meet
      case rel => exact ⟨ad, cap, rfl, ho, hB⟩
  case rest =>
    obtain ⟨ad, cap, rfl, ho, hB⟩ := hcut
    clear HQ TC hkey hown0 TI0 TJ0 hlc0 hcm0
    obtain ⟨n, hn⟩ : ∃ n, Hid (y0.length = n) := ⟨_, Lib.hid rfl⟩
    rw [hn.out] at ho HM
    have HM2 := HM.out
    have hown1 := Buf.own_zero wc
    unfold Byt.OwnB at hown1
    have hB1 : Below wc.heap.size wc (wc.alloc (.cells #[] 5)) := (Below.refl _ _).alloc (Nat.le_refl _) _
    have hpos := ho.out.pos
    have c1 := Lib.hid (Buf.nil_none hn.out ho.out.rd.1 hpos.2.2.1)
    have c2 := Lib.hid (Byt.RdB.cells (ho.out.rd.1.below hB1))
    have c3 : Hid ((Byt.bvs y0).length = n * 1) := Lib.hid (by rw [Byt.bvs_len, hn.out, Nat.mul_one])
    have HQ : Hid (∀ w1 v, w1.ownsRow wc.heap.size 5 1 v (0 + n) (Byt.bvs [] ++ Byt.bvs y0) → (wc.alloc (.cells #[] 5)).grownBy w1 (some wc.heap.size) → ∃ ad cap, v = .slice ad n cap ∧ Hid (Byt.OwnB w1 wc.heap.size (.slice ad n cap) y0) ∧ Hid (Below wc.heap.size wc w1)) := Lib.hid (fun w1 v h hg => by
      have ho : Byt.OwnB w1 wc.heap.size v y0 := by unfold Byt.OwnB; rw [hn.out]; rw [Nat.zero_add] at h; exact h
      obtain ⟨ad, cap, e, _⟩ := Own.shape ho
      rw [hn.out] at e
      subst e
      exact ⟨ad, cap, rfl, Lib.hid ho, Lib.hid (hB1.grown hg (by simp) (fun k e => by cases e; exact Nat.le_refl _))⟩)
    rw [hn.out]
    clear hpos hB1
    go_upto_region 3 with (at_builtin; refine Own.wpList_append2_any _ rfl _ _ 25 rfl wc.heap.size 5 i0 (.int .u8 0) 1 1 Try.underlying25 hi hz0 hz1 hz2 rfl (by decide) (.slice (some ⟨wc.heap.size, 0, none⟩) 0 0) 0 _ rfl hown1 ad n cap (Byt.bvs y0) rfl c3.out c1.out c2.out (Byt.bvs_oneCell _) (by unfold maxLen; omega) (by omega) (by simp) ?_; intro v' w2 hown' hgrow _; obtain ⟨id, icap, rfl, hio, hiB⟩ := HQ.out w2 v' hown' hgrow; clear hown' hgrow)
    have CR := Lib.hid (Buf.read_more id n icap y0 w2 hn.out (by omega) hio.out.rd.1 hio.out.pos.2.2.1)
    have HT0 : Hid (∀ w3, Below w2.heap.size w2 w3 → Buf.Turned w3 w3 id wc.heap.size w2.heap.size n) := Lib.hid (fun w3 hB3 => by
      by_cases h0 : n = 0
      · exact .inl ⟨h0, rfl⟩
      · have hi2 := hio.out
        rw [← hn.out] at hi2
        obtain ⟨g, e, h1, h2, cur, hb, hc⟩ := Buf.InOk.of_own hi2 (by rw [hn.out]; omega)
        rw [hn.out] at hc
        exact .inr ⟨g, e, h1, h2, ⟨cur, hb.below2 hB3 h2, hc⟩, Buf.RStep.refl _ _⟩)
    have HW2 := Lib.hid (hiB.out.size)
    clear c1 c2 c3 HQ hown1 hi hz0 hz1 hz2 hio
    go_wp2_with fail
    refine (CR.out).mono ?_; rintro e w3 ⟨gr, rfl, hr, hB3, hge, hsz, hmore⟩
    have HT := Lib.hid (HT0.out w3 hB3)
    have hB13 := hiB.out.trans (hB3.mono hiB.out.size)
    have HRS : Hid (Buf.RdS w3 wc.heap.size ad n cap y0) := Lib.hid ⟨hn.out, ho.out.rd.1.below hB13, Buf.own_lies ho.out, by have := ho.out.pos.1; rw [hn.out] at this; exact this, by have := ho.out.pos.2.1; unfold maxLen at this; omega⟩
    have HAF : Hid (∀ wr, Hid (Buf.Turned w3 wr id wc.heap.size w2.heap.size n) → Hid (Buf.RR wr gr (((0 : Nat) : Int), y0)) ∧ Hid (Buf.RdS wr wc.heap.size ad n cap y0) ∧ Hid (Below w.heap.size w wr) ∧ Hid (wc.heap.size ≤ gr)) := Lib.hid (fun wr ht => by
      have hb := ht.out.below
      have h13 := hB.out.trans (hB13.mono hB.out.size)
      refine ⟨Lib.hid (hmore wr (fun k h1 h2 => ht.out.block k h1 h2)), Lib.hid (HRS.out.kept fun b hb' => hb.block b hb'), Lib.hid (h13.trans (hb.mono hB.out.size)), Lib.hid (Nat.le_trans HW2.out hge)⟩)
    clear hr hB3 hge hsz hmore hB13 HRS HT0 CR HW2 hiB ho
    generalize w2.heap.size = hi2 at *
    go_wp2_with fail
    go_loopw [32] (fun iv wr => ∃ k : Nat, k ≤ n ∧ iv = .int .i64 (k : Int) ∧ Hid (Buf.Turned w3 wr id wc.heap.size hi2 n)) (fun iv _ => n - (intOf iv).toNat)
    case atStart => exact ⟨0, Nat.zero_le _, rfl, HT⟩
    case round =>
      obtain ⟨k, hk, rfl, ht⟩ := hrel
      by_cases hlt : k < n
      · rcases ht.out with ⟨h0, _⟩ | ⟨gi, rfl, h1, h3, ⟨cur, hb, hc⟩, h2⟩
        · omega
        · obtain ⟨x, hx, hxc⟩ := hc k hlt
          have hcell := (hb.cell k).trans hxc
          have hfr := hb.free k
          have HN := Lib.hid (ht.out.put (by omega) k ((x + 1) % 256) (Nat.mod_lt _ (by omega)))
          rw [show (((x + 1) % 256 : Nat) : Int) = ((x : Int) + 1) % 256 from by omega] at HN
          have hki : (k : Int) < (n : Int) := by omega
          clear ht hb hc h2 hxc HT HAF
          go_wp2_with fail
          go_roundw
          case rel => exact ⟨k + 1, by omega, by go_num, HN⟩
          case measure => simp [intOf]; omega
      · obtain rfl : k = n := by omega
        obtain ⟨HR, HS, HBw, HG⟩ := HAF.out wr ht
        clear ht HT HAF
        have HBc := hB
        generalize wr = w5 at *
        have CQ : Hid (∀ j e R ad7 len7 cap7 wr2, j < len1 → Hid (e ≠ 0 → R = []) → Hid (Buf.RdS wr2 wc.heap.size ad7 len7 cap7 R) → Hid (Buf.RR wr2 gr (((e : Nat) : Int), R)) → Hid (Below gr w5 wr2) →
            ∃ (t : Buf.It) (b off x er : Nat) (bs R' : List UInt8), a1 = some ⟨b, off, none⟩ ∧ Hid (Buf.ItAt wr2 b (off + j * 4) t) ∧ (e ≠ 0 → x = 0 ∧ bs = [] ∧ R' = []) ∧ Hid (er ≠ 0 → R' = []) ∧ t.b.length ≤ t.cap ∧
            ∀ q : Nat, (if e = 0 then er else e) = q → Calls Try.prog 14 #[.pointer (some ⟨gr, 0, none⟩), .agg #[.int .u8 (t.k : Int), .int .u64 (t.x : Int), .int .i64 t.n, .slice t.ad t.b.length t.cap]] wr2 (fun en w6 => ∃ ad6 cap6, en = .returned (.tuple #[.int .u64 (x : Int), .slice ad6 bs.length cap6]) ∧
              Hid (Buf.RR w6 gr ((q : Int), R')) ∧ Hid (Below gr w5 w6) ∧ Hid (Buf.RdS w6 wc.heap.size ad7 len7 cap7 R) ∧ Hid (Buf.ItAt w6 b (off + j * 4) t) ∧
              Hid (Calls Try.prog 15 #[.slice ad7 len7 cap7, .agg #[.int .u8 (t.k : Int), .int .u64 (t.x : Int), .int .i64 t.n, .slice t.ad t.b.length t.cap]] w6 (fun en w7 => ∃ ad8 len8 cap8 ad2 len2 cap2, en = .returned (.tuple #[.int .u64 (x : Int), .slice ad8 len8 cap8, .slice ad2 len2 cap2, .int .i64 (er : Int)]) ∧ (convert 25 9 (.slice ad8 len8 cap8)).run Try.prog w7 = .ok (.string (Byt.strB bs)) w7 ∧ (convert 25 9 (.slice ad6 bs.length cap6)).run Try.prog w7 = .ok (.string (Byt.strB bs)) w7 ∧
                Hid (Buf.RR w7 gr ((q : Int), R')) ∧ Hid (Below gr w5 w7) ∧ Hid (Buf.RdS w7 wc.heap.size ad2 len2 cap2 R'))))) := Lib.hid (fun j e R ad7 len7 cap7 wr2 hj hE hS hR hB => by
          obtain ⟨b, off, ea, hat⟩ := HIT.out j hj
          have hwg : w.heap.size ≤ gr := Nat.le_trans HBc.out.size HG.out
          have hBw2 : Below w.heap.size w wr2 := HBw.out.trans (hB.out.mono hwg)
          obtain ⟨h1, h2⟩ := hat wr2 hBw2
          generalize z1.getD j default = t at *
          rcases hg : t.get R with ⟨x, bs, R', er⟩
          refine ⟨t, b, off, x, er, bs, R', ea, Lib.hid h1, fun he => ?_, Lib.hid fun he => ?_, h2.len.1, fun q hq => (Buf.read_it gr w.heap.size e R t wr2 hR.out h2 hg hE.out).mono fun en w6 hh => ?_⟩
          · have hR0 := hE.out he
            subst hR0
            obtain ⟨e2, he2, hn2⟩ := Buf.get_nil t
            rw [hn2] at hg
            simp only [Prod.mk.injEq] at hg
            obtain ⟨rfl, rfl, rfl, rfl⟩ := hg
            exact ⟨rfl, rfl, rfl⟩
          · rcases Buf.get_bad t R hg with h | ⟨_, _, h⟩
            · exact absurd h he
            · exact h
          · obtain ⟨ad6, cap6, rfl, hstr, hr6, hs6⟩ := hh
            rw [hq] at hr6
            have hB6 := hB.out.trans hs6.out.below
            have hBw6 : Below w.heap.size w w6 := HBw.out.trans (hB6.mono hwg)
            obtain ⟨h16, h26⟩ := hat w6 hBw6
            have hS6 := hS.out.kept (w' := w6) (fun b hb => hs6.out.below.block b (Nat.lt_of_lt_of_le hb HG.out))
            have hr6' := hr6.out.lt
            have h26' : t.ok w6 wc.heap.size := ⟨h26.k, h26.x, h26.n, h26.rd, h26.nil, fun hne b o e => Nat.lt_of_lt_of_le (h26.lt hne b o e) HBc.out.size, h26.len⟩
            refine ⟨ad6, cap6, rfl, hr6, Lib.hid hB6, Lib.hid hS6, Lib.hid h16, Lib.hid ((Buf.get_it wc.heap.size ad7 len7 cap7 R t w6 hS6 (by have := HG.out; omega) h26' hg).mono fun en w7 hh => ?_)⟩
            obtain ⟨ad8, len8, cap8, ad2, len2, cap2, rfl, hc7, hS7, hB7⟩ := hh
            exact ⟨ad8, len8, cap8, ad2, len2, cap2, rfl, hc7, hstr.out w7 hB7.out, Lib.hid (hr6.out.kept hB7.out), Lib.hid (hB6.trans (hB7.out.mono (Nat.le_of_lt hr6'))), hS7⟩)
        have HX : Hid (∀ e R len7 wr2, Hid (Buf.RR wr2 gr (((e : Nat) : Int), R)) → Hid (Below gr w5 wr2) → R.length = len7 → ∀ q : Int, (if R = [] then ((e : Nat) : Int) else 5) = q → Calls Try.prog 18 #[.pointer (some ⟨gr, 0, none⟩)] wr2 (fun en w' => en = .returned (.int .i64 q) ∧ wr2 = w') ∧ Hid (Below w.heap.size w wr2)) := Lib.hid (fun e R len7 wr2 hR hB hl q hq => by
          have := Buf.end_any gr _ wr2 hR.out
          simp only at this
          rw [hq] at this
          exact ⟨this, Lib.hid (HBw.out.trans (hB.out.mono (Nat.le_trans HBc.out.size HG.out)))⟩)
        have CW : Hid (∀ W, Calls Try.prog 12 #[] W fun e w' => e = .returned (.bool true) ∧ Below W.heap.size W w') := Lib.hid (fun W => Buf.works_any W)
        have CEL : Hid (∀ wr2 e R len7, Hid (Buf.RR wr2 gr (((e : Nat) : Int), R)) → R.length = len7 → Hid (Calls Try.prog 16 #[.pointer (some ⟨gr, 0, none⟩)] wr2 (fun en w' => en = .returned (.int .i64 ((e : Nat) : Int)) ∧ wr2 = w')) ∧ Hid (Calls Try.prog 17 #[.pointer (some ⟨gr, 0, none⟩)] wr2 (fun en w' => en = .returned (.int .i64 (len7 : Int)) ∧ wr2 = w'))) := Lib.hid (fun wr2 e R len7 h hl => by
          have h2 := Buf.left_any gr _ wr2 h.out
          simp only [hl] at h2
          exact ⟨Lib.hid (Buf.err_any gr _ wr2 h.out), Lib.hid h2⟩)
        clear HIT HBw
        go_wp2_with fail
        go_loopw [7, 8, 10] (fun rv ev iv wr2 => ∃ (j e : Nat) (R : List UInt8) (ad7 : Option Addr) (len7 cap7 : Nat), j ≤ 30 ∧ iv = .int .i64 (j : Int) ∧ rv = .slice ad7 len7 cap7 ∧ ev = .int .i64 (e : Int) ∧ Hid (e ≠ 0 → R = []) ∧ Hid (Buf.RdS wr2 wc.heap.size ad7 len7 cap7 R) ∧ Hid (Buf.RR wr2 gr (((e : Nat) : Int), R)) ∧ Hid (Below gr w5 wr2)) (fun _ _ iv _ => 30 - (intOf iv).toNat)
        case atStart => exact ⟨0, 0, y0, ad, k, cap, by omega, rfl, rfl, rfl, Lib.hid (fun h => absurd rfl h), HS, HR, Lib.hid (Below.refl _ _)⟩
        case round =>
          obtain ⟨j, e, R, ad7, len7, cap7, hj, rfl, rfl, rfl, HE0, HS2, HR2, HB2⟩ := hrel
          have hl7 := HS2.out.len_
          have hc7 : (len7 : Int) ≤ 9223372036854775807 := by have := HS2.out.le; have := HS2.out.max; omega
          by_cases hgo : j < len1 ∧ j < 30
          · obtain ⟨hj1, hj30⟩ := hgo
            have hji : (j : Int) < (len1 : Int) := by omega
            obtain ⟨t, b, off, x, er, bs, R', rfl, hat, hz, hz2, htc, CR⟩ := CQ.out j e R ad7 len7 cap7 wr hj1 HE0 HS2 HR2 HB2
            obtain ⟨c0, c1, c2, c3⟩ := hat.out
            clear hat CQ HX HR HS HR2 HB2
            by_cases he : e = 0
            · subst he
              have CR2 := Lib.hid (CR er (if_pos rfl))
              clear CR
              clear hz HE0
              go_wp2_with fail
              refine (CR2.out).mono ?_; rintro en w6 ⟨ad6, cap6, rfl, hr6, hB6, hS6, hat6, CG⟩
              obtain ⟨d0, d1, d2, d3⟩ := hat6.out
              clear hat6 c0 c1 c2 c3 hr6 hS6 hB6
              go_wp2_with fail
              refine (CG.out).mono ?_; rintro en w7 ⟨ad8, len8, cap8, ad2, len2, cap2, rfl, hc8, hc6, hr7, hB7, hS7⟩
              obtain ⟨CE, CL⟩ := CEL.out w7 er R' len2 hr7 hS7.out.len_
              clear d0 d1 d2 d3 CG CR2
              go_wp2_with fail
              refine (CE.out).mono ?_; rintro en w' ⟨rfl, rfl⟩
              go_wp2_with fail
              refine (CL.out).mono ?_; rintro en w' ⟨rfl, rfl⟩
              go_wp2_with fail
              go_roundw
              case rel => exact ⟨j + 1, er, R', ad2, len2, cap2, by omega, by go_num, rfl, rfl, hz2, hS7, hr7, hB7⟩
              case measure => simp [intOf]; omega
            · obtain ⟨hx0, hbs, hR'⟩ := hz he
              subst hx0 hbs hR'
              have hR0 := HE0.out he
              subst hR0
              have CR2 := Lib.hid (CR e (if_neg he))
              clear CR
              have hne : (((e : Nat) : Int) == 0) = false := by simp; omega
              obtain rfl : len7 = 0 := by rw [← hl7]; rfl
              clear hz2 hl7
              go_wp2_with fail
              refine (CR2.out).mono ?_; rintro en w6 ⟨ad6, cap6, rfl, hr6, hB6, hS6, hat6, CG⟩
              obtain ⟨CE, CL⟩ := CEL.out w6 e [] 0 hr6 rfl
              clear hat6 CG CR2 c0 c1 c2 c3
              go_wp2_with fail
              refine (CE.out).mono ?_; rintro en w' ⟨rfl, rfl⟩
              go_wp2_with fail
              refine (CL.out).mono ?_; rintro en w' ⟨rfl, rfl⟩
              go_wp2_with fail
              go_roundw
              case rel => exact ⟨j + 1, e, [], ad7, 0, cap7, by omega, by go_num, rfl, rfl, Lib.hid (fun _ => rfl), hS6, hr6, hB6⟩
              case measure => simp [intOf]; omega
          · have hcase : ∃ q : Int, Hid ((if R = [] then ((e : Nat) : Int) else 5) = q) ∧ ((e = 0 ∧ 0 < len7 ∧ q = 5) ∨ (e = 0 ∧ len7 = 0 ∧ q = 0) ∨ (e ≠ 0 ∧ q = (e : Int))) := by
              by_cases he : e = 0
              · by_cases hR0 : R = []
                · refine ⟨0, Lib.hid (by rw [if_pos hR0, he]; rfl), .inr (.inl ⟨he, by rw [← hl7, hR0]; rfl, rfl⟩)⟩
                · refine ⟨5, Lib.hid (by rw [if_neg hR0]), .inl ⟨he, by rw [← hl7]; exact List.length_pos_iff.2 hR0, rfl⟩⟩
              · exact ⟨e, Lib.hid (by rw [if_pos (HE0.out he)]), .inr (.inr ⟨he, rfl⟩)⟩
            obtain ⟨q, hq, hcase⟩ := hcase
            obtain ⟨CE, HB9⟩ := HX.out e R len7 wr HR2 HB2 hl7 q hq.out
            have CE := Lib.hid CE
            have CW9 := Lib.hid (CW.out wr)
            clear CQ HX CEL CW HR HS HR2 HB2 HS2 HE0 hl7 hq
            have hstop : (j = 30 ∧ (30 : Int) < (len1 : Int)) ∨ ((len1 : Int) ≤ (j : Int)) := by omega
            rcases hstop with ⟨rfl, hs1⟩ | hs1
            all_goals
              rcases hcase with ⟨rfl, h7, rfl⟩ | ⟨rfl, rfl, rfl⟩ | ⟨he, rfl⟩
              · have h7' : (0 : Int) < (len7 : Int) := by omega
                go_wp2_with fail
                refine (CE.out).mono ?_; rintro en w' ⟨rfl, rfl⟩
                go_wp2_with fail
                refine (CW9.out).mono ?_; rintro en w8 ⟨rfl, hB8⟩
                go_wp2_with fail
                first | exact ⟨rfl, HB9.out.trans (hB8.mono HB9.out.size)⟩ | (go_ret; exact ⟨rfl, HB9.out.trans (hB8.mono HB9.out.size)⟩)
              · go_wp2_with fail
                refine (CE.out).mono ?_; rintro en w' ⟨rfl, rfl⟩
                go_wp2_with fail
                refine (CW9.out).mono ?_; rintro en w8 ⟨rfl, hB8⟩
                go_wp2_with fail
                first | exact ⟨rfl, HB9.out.trans (hB8.mono HB9.out.size)⟩ | (go_ret; exact ⟨rfl, HB9.out.trans (hB8.mono HB9.out.size)⟩)
              · have hne : (((e : Nat) : Int) == 0) = false := by simp; omega
                go_wp2_with fail
                refine (CE.out).mono ?_; rintro en w' ⟨rfl, rfl⟩
                go_wp2_with fail
                refine (CW9.out).mono ?_; rintro en w8 ⟨rfl, hB8⟩
                go_wp2_with fail
                first | exact ⟨rfl, HB9.out.trans (hB8.mono HB9.out.size)⟩ | (go_ret; exact ⟨rfl, HB9.out.trans (hB8.mono HB9.out.size)⟩)

set_option maxRecDepth 100000 in
theorem lifted (os : Os) (started : os.Started) (H : Type) (enc : TypeId × Value → H) :
    ReturnsInHanded {} Try.checked os 4 .any (Rows.bufReadsSpec.pre6 enc Try.prog Try.f4 Rows.bufReadsRow.domain false) (Rows.bufReadsSpec.post enc Try.prog Try.f4 false true false false) := by
  refine returnsInHanded_of_change (C := Try.checked) own started (by kernel_rfl) Try.func4
    (ChangeSpec.witness6 (enc := enc) (C := Try.checked) false ⟨#[], #[.slice none 0 0, .slice none 0 0], []⟩ 8 (by kernel_rfl) (by kernel_rfl) (by kernel_rfl) (by kernel_rfl)) ?_
  intro W base args ds gs before hval0 hW hcnd _
  have hval : ∀ (j : Nat) t v, Try.f4.params[j]? = some t → args[j]? = some v → Value.okWide Try.prog W .any base t v := hval0
  have hW' := hW
  obtain ⟨p, q, hA0, hV, rfl, hfz, hnd⟩ := hW
  have hA : DataW.TrodAll enc Try.prog W 0 (fun _ => true) true Try.f4.params.toList args.toList ds p := hA0
  rw [Try.params4] at hA hval
  obtain ⟨v0, vs0, d0, ds0, p0, q0, hargs, rfl, rfl, h0, r0⟩ := trodAll_cons hA
  obtain ⟨v1, vs1, d1, ds1, p1, q1, rfl, rfl, rfl, h1, r1⟩ := trodAll_cons r0
  obtain ⟨rfl, rfl, rfl⟩ := trodAll_nil r1
  obtain rfl : args = #[v0, v1] := by cases args; simp_all
  obtain ⟨rfl, rfl⟩ := trodVars_none hV
  obtain ⟨a0, len0, cap0, rfl⟩ := okWide_slice Try.underlying25 (hval 0 25 v0 rfl rfl)
  have k0 := h0
  have lt0 : ∀ x ∈ p0, x.block < W.heap.size := by obtain ⟨m, hm⟩ := k0; exact DataW.trod_lt m _ _ _ hm
  obtain ⟨z0, w0⟩ : ∃ zs, IsRow .u8 W a0 len0 cap0 zs := by
    obtain ⟨fuel, hf⟩ := h0
    rcases open_ints Try.underlying25 Try.underlying5 (by kernel_rfl) hf with ⟨hcs, _⟩ | ⟨x, l, c, zs, hcs, _, hl, hm, hz, _, hcell, hwz⟩
    · simp [Value.cells] at hcs
      obtain ⟨rfl, rfl, rfl⟩ := hcs
      exact ⟨[], .inl ⟨rfl, rfl, rfl, rfl⟩⟩
    · simp [Value.cells] at hcs
      obtain ⟨rfl, rfl, rfl⟩ := hcs
      exact ⟨zs, .inr ⟨_, rfl, hl, hm, by simpa using hz, hcell, hwz⟩⟩
  obtain ⟨a1, len1, cap1, rfl⟩ := okWide_slice Try.underlying22 (hval 1 22 v1 rfl rfl)
  have k1 := h1
  have lt1 : ∀ x ∈ p1, x.block < W.heap.size := by obtain ⟨m, hm⟩ := k1; exact DataW.trod_lt m _ _ _ hm
  obtain ⟨z1, w1⟩ : ∃ zs, Buf.Items W W.heap.size a1 len1 cap1 zs := by
    obtain ⟨fuel, hf⟩ := h1
    exact Buf.open_items rfl (by simpa [Value.cells] using hf)
  clear hA0 hval0
  refine (walk a0 len0 cap0 z0 a1 len1 cap1 z1 W w0 w1).mono fun e W' ⟨he, bel⟩ => ?_
  subst he
  exact ⟨_, rfl, _, _, _, [], _, [], hW', trodAll_mk1 (shut_bool Try.underlying4 _), (trodAll_cons_mk (Below.trod laidOut (by kernel_rfl) (of_decide_eq_true (by kernel_rfl)) k0 bel lt0) (trodAll_cons_mk (Below.trod laidOut (by kernel_rfl) (of_decide_eq_true (by kernel_rfl)) k1 bel lt1) trodAll_mk0)), rfl, bel.frame _, fun h => by cases h⟩

theorem over : Rows.bufReadsRow.holds Try.pinned (OpenSpec.ofChange Rows.bufReadsSpec) :=
  OpenClaim.holds_of_wide 4 Try.f4 rfl rfl rfl rfl rfl rfl rfl ⟨rfl, rfl, rfl, rfl, rfl⟩ rfl rfl rfl rfl rfl (by kernel_rfl) Try.func4 (by kernel_rfl)
    (of_decide_eq_true (by kernel_rfl)) (by unfold Func.isWrapper; first | (rw [if_pos (by decide +kernel)]; kernel_rfl) | (rw [if_neg (by decide +kernel)]; exact ⟨rfl, rfl⟩))
    (fun os started H enc _ => lifted os started H enc)

theorem proved : Rows.BufReadsSaid := over
#print axioms proved
end Go.Proofs.Ytglnclcoinpakaa.lawBufReads
