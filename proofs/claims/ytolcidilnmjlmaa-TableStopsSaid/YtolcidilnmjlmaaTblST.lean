/- TableStops, walked (layer 7). -/
import Derived.Test.YtolcidilnmjlmaaTblSB
import Derived.Test.YtolcidilnmjlmaaTblV
import Derived.Test.YtolcidilnmjlmaaTblSA
import Derived.Deep.CutRange
import Derived.Deep.CutBlock
import Derived.Deep.RegionWith
namespace Go.Proofs.Ytolcidilnmjlmaa.TblL
open Go.ChangeShapes Go.WideShapes Go.ChangeAt Go.RowKit Go.Sort Go.Shelf
open Go.Proofs.Ytolcidilnmjlmaa.Key Go.Proofs.Ytolcidilnmjlmaa.Rw Go.Proofs.Ytolcidilnmjlmaa.Tbl
open Go.Proofs.Ytolcidilnmjlmaa.TblR (encW encW_len RdR OwnR tval at4 rnew_any)
set_option linter.unusedVariables false
set_option linter.unusedSimpArgs false
attribute [local go_sem] Oper.semAt_some
theorem putD_len {most v : Int} {d : List Row} {k : Ky} (h : (d.length : Int) ≤ most) : ((putD most d k v).length : Int) ≤ most := by
  unfold putD
  split
  · exact h
  · split
    · exact h
    · rw [put_len]; omega
/-- What holds between two rounds: the iterator's box, the count. -/
def StopI (g far : Nat) (wc : World) (i : Nat) (W : World) : Prop :=
  Below wc.heap.size wc W ∧ Blk W wc.heap.size 23 #[.pointer (some ⟨g, 0, none⟩)] ∧ Blk W (wc.heap.size + 1) 3 #[.int .i64 (i : Nat)] ∧ i ≤ far
/-- What holds where one has stopped. -/
def StopX (far : Nat) (wc : World) (W : World) : Prop := Below wc.heap.size wc W ∧ Blk W (wc.heap.size + 1) 3 #[.int .i64 ((far : Int) + 1)]
theorem StopI.below {g far : Nat} {wc W W' : World} {i m : Nat} (h : StopI g far wc i W) (hB : Below m W W') (hm : wc.heap.size + 2 ≤ m) : StopI g far wc i W' := by
  obtain ⟨h1, h2, h3, h4⟩ := h
  exact ⟨h1.trans (hB.mono (by omega)), h2.below2 hB (by omega), h3.below2 hB (by omega), h4⟩
theorem StopX.below {far : Nat} {wc W W' : World} {m : Nat} (h : StopX far wc W) (hB : Below m W W') (hm : wc.heap.size + 2 ≤ m) : StopX far wc W' := by
  obtain ⟨h1, h2⟩ := h
  exact ⟨h1.trans (hB.mono (by omega)), h2.below2 hB (by omega)⟩
theorem stop_same {B W : World} {g cap e : Nat} {d : List Row} {ad : Option Addr} (h : PairS B g 50 d d ad cap e W) (hd : d.length ≤ 50) :
    Calls Try.prog 9 #[.pointer (some ⟨g, 0, none⟩), .agg #[.slice ad d.length cap, .int .i64 50]] W fun e w' => e = .returned (.bool true) ∧ Below W.heap.size W w' := by
  obtain ⟨⟨F, hT⟩, hR⟩ := h.tabs
  exact same7_any g 50 d F ad cap W hT (by decide) (by omega) hR
set_option maxRecDepth 100000 in
set_option maxHeartbeats 4000000 in
theorem tableStops_any (a0 : Option Addr) (len0 cap0 : Nat) (z0 : List Ky) (far : Nat) (hfar : far ≤ 255) (w : World) (w0 : Keys w w.heap.size a0 len0 cap0 z0) :
    Calls Try.prog 5 #[.slice a0 len0 cap0, .int .u8 far] w fun e w' => e = .returned (.bool true) ∧ Below w.heap.size w w' := by
  suffices hh : CallsIn Fence.wide 4 Try.prog 5 #[.slice a0 len0 cap0, .int .u8 far] w fun e w' => e = .returned (.bool true) ∧ Below w.heap.size w w' from callsIn_wide.1 hh
  obtain ⟨hlen, hle, hmax, -, hok, hrd⟩ := w0
  obtain ⟨wb, hwb⟩ : ∃ wb, Hid (wb = w.alloc (.cells #[.int .u8 far] 5)) := ⟨_, Lib.hid rfl⟩
  have HBb : Hid (Below w.heap.size w wb) := Lib.hid (by rw [hwb.out]; exact box_below _ _)
  have bF : Hid (Blk wb w.heap.size 5 #[.int .u8 far]) := Lib.hid (by rw [hwb.out]; exact Blk.new _ _ _)
  have CN := Lib.hid (new_any 50 wb)
  have CR := Lib.hid (fun W => rnew_any 50 W)
  have HR := Lib.hid hrd
  have HK := Lib.hid hok
  have HL := Lib.hid hlen
  have hll : (len0 : Int) ≤ 9223372036854775807 := by omega
  clear hrd hok hlen
  unfold tval at CR
  refine callsIn_of_wp_marks Try.func5 rfl trivial (wpIn_wide.2 ?_) rfl
  simp only [Try.ntmps5, List.size_toArray, List.length_cons, List.length_nil, Nat.reduceAdd, Nat.reduceSub, Array.replicate_succ, Array.replicate_zero, List.push_toArray, List.append_toArray, List.nil_append, List.cons_append]
  go_upto_region 1 with fail
  rw [← hwb.out]
  go_upto_region 2 with (first
    | (go_at_call 7; refine (CN.out).mono ?_; rintro e w1 ⟨g, rfl, hT, hB1⟩; have HT := Lib.hid hT; have HB1 := Lib.hid hB1; clear hT hB1)
    | (go_at_call 8; refine (CR.out _).mono ?_; rintro e w2 ⟨rfl, hB2⟩))
  obtain ⟨W1, hW1⟩ : ∃ W1, Hid (W1 = w2.alloc (.cells #[.slice none 0 0, .int .i64 50] 27)) := ⟨_, Lib.hid rfl⟩
  have HP1 : Hid (PairS wb g 50 [] [] none 0 w2.heap.size W1) := Lib.hid (PairS.new (by have := HT.out; exact this) (fun j hj => hj) HB1.out hB2 hW1.out)
  have hmx : min (max (50 : Int) 0) 65536 = 50 := by decide
  rw [hmx]
  rw [← hW1.out]
  clear CN CR hB2 HT HB1
  generalize w2.heap.size = e0 at *
  go_upto_block 0 with fail
  go_cut [7] from 12 to 38 (fun _ W => ∃ (d : List Row) (ad : Option Addr) (cap : Nat), d.length ≤ 50 ∧ Hid (PairS wb g 50 d d ad cap e0 W))
  case first =>
    go_wp2_with fail
    go_loopw [7] (fun i wr => ∃ (k : Nat) (d : List Row) (ad : Option Addr) (cap : Nat), k ≤ len0 ∧ k ≤ 60 ∧ i = .int .i64 k ∧ d.length ≤ 50 ∧ Hid (PairS wb g 50 d d ad cap e0 wr)) (fun i _ => 60 - (intOf i).toNat)
    case atStart => exact ⟨0, [], none, 0, Nat.zero_le _, Nat.zero_le _, rfl, by simp, HP1⟩
    case round =>
      obtain ⟨k, d, ad, cap, hk, hk60, rfl, hd50, hP⟩ := hrel
      by_cases hlt : k < len0
      · by_cases h60 : k < 60
        · obtain ⟨b, off, rfl, hb, hc⟩ := HR.out.at_ (i := k) (by rw [HL.out]; exact hlt)
          have hkk : ok (z0.getD k default) := HK.out _ (getD_mem (by rw [HL.out]; exact hlt))
          have CP := Lib.hid (hP.out.put (z0.getD k default) (k : Int) hkk (by omega) (by decide))
          have CQ : Hid (∀ W, PairS wb g 50 (putD 50 d (z0.getD k default) (k : Int)) d ad cap e0 W → Calls Try.prog 15 #[tval ad d.length cap 50, kval (z0.getD k default), .int .i64 (k : Int)] W fun x w' => ∃ ad' cap', x = .returned (.tuple #[tval ad' (putD 50 d (z0.getD k default) (k : Int)).length cap' 50, .int .i64 (putE 50 d (z0.getD k default))]) ∧ Below W.heap.size W w' ∧
            ∀ w3, Below w'.heap.size w' w3 → PairS wb g 50 (putD 50 d (z0.getD k default) (k : Int)) (putD 50 d (z0.getD k default) (k : Int)) ad' cap' e0 ((w3.setCell ⟨e0, 0, none⟩ (.slice ad' (putD 50 d (z0.getD k default) (k : Int)).length cap')).setCell ⟨e0, 1, none⟩ (.int .i64 50))) := Lib.hid (fun W hW => hW.rput (z0.getD k default) (k : Int) (by omega) (by omega))
          have HC : Hid (∀ W, Below w.heap.size w W → Rw.At enc W b (off + k * 3) (z0.getD k default)) := Lib.hid (fun W hB => hc.below hB hb)
          have HE : Hid ((putD 50 d (z0.getD k default) (k : Int)).length ≤ 50) := Lib.hid (by have := putD_len (most := 50) (v := (k : Int)) (k := z0.getD k default) (d := d) (by omega); omega)
          have HBw : Hid (∀ W l l' a c, PairS wb g 50 l l' a c e0 W → Below w.heap.size w W) := Lib.hid (fun W l l' a c h => HBb.out.trans (h.made.mono HBb.out.size))
          generalize putE 50 d (z0.getD k default) = ee at *
          generalize putD 50 d (z0.getD k default) (k : Int) = d2 at *
          generalize z0.getD k default = x at *
          obtain ⟨p, q, s⟩ := x
          obtain ⟨c0, c1, c2⟩ := at3 (HC.out wr (HBw.out _ _ _ _ _ hP.out))
          unfold kval tval at *
          simp only at CP CQ c0 c1 c2
          clear hc hkk hP HP1
          go_wp2_with (go_at_call 12; refine (CP.out).mono ?_; rintro e w2 ⟨rfl, hP2⟩; obtain ⟨d0, d1, d3⟩ := at3 (HC.out w2 (HBw.out _ _ _ _ _ hP2)); simp only at d0 d1 d3; obtain ⟨x0, x1, x2, x3⟩ := hP2.cells; have HP2 := Lib.hid hP2; clear hP2)
          have HPd : Hid (PairS wb g 50 d2 d ad cap e0 w2.drew) := Lib.hid (HP2.out.below (Below.refl _ _).drew)
          have HQ3 : Hid (∀ w3, Below w2.drew.heap.size w2.drew w3 → w3.cell? ⟨e0, 0, none⟩ = some (.slice ad d.length cap) ∧ w3.cell? ⟨e0, 1, none⟩ = some (.int .i64 50) ∧ w3.frozen? ⟨e0, 0, none⟩ = false ∧ w3.frozen? ⟨e0, 1, none⟩ = false) := Lib.hid (fun w3 hB => (HPd.out.below hB).cells)
          refine wp_region_noPanic ?_
          go_region_with (go_at_call 15; refine (CQ.out _ HPd.out).mono ?_; rintro e w3 ⟨ad3, cap3, rfl, hB3, hP3⟩; obtain ⟨y0, y1, y2, y3⟩ := HQ3.out w3 hB3)
          all_goals
            have HP3 : Hid (PairS wb g 50 d2 d2 ad3 cap3 e0 ((w3.setCell ⟨e0, 0, none⟩ (.slice ad3 d2.length cap3)).setCell ⟨e0, 1, none⟩ (.int .i64 50))) := Lib.hid (hP3 w3 (Below.refl _ _))
            clear hP3 hB3 y0 y1 y2 y3
            refine NoPanic.normal ?_
            go_wp2_with fail
            go_roundw
            case rel => exact ⟨k + 1, d2, ad3, cap3, by omega, by omega, by go_num, HE.out, HP3⟩
            case measure => simp [intOf]; omega
        · obtain rfl : k = 60 := by omega
          go_wp2_with fail
          go_meet
          case rel => exact ⟨d, ad, cap, hd50, hP⟩
      · obtain rfl : k = len0 := by omega
        go_wp2_with fail
        go_meet
        case rel => exact ⟨d, ad, cap, hd50, hP⟩
  case rest =>
    obtain ⟨d, ad, cap, hd50, hP⟩ := hcut
    clear HP1 HR HK HL
    have CA := Lib.hid (fun W => all_any (some ⟨g, 0, none⟩) W)
    have heq := fun b W => fn_eql b W
    go_wp2_with (go_at_call 16; refine (CA.out _).mono ?_; rintro e w' ⟨rfl, rfl⟩)
    obtain ⟨wL, hwL⟩ : ∃ wL, Hid (wL = (wc.alloc (.cells #[.pointer (some ⟨g, 0, none⟩)] 23)).alloc (.cells #[.int .i64 0] 3)) := ⟨_, Lib.hid rfl⟩
    rw [← hwL.out]
    have hsL : wL.heap.size = wc.heap.size + 2 := by rw [hwL.out]; simp [World.size_alloc]
    have hI0 : StopI g far wc 0 wL := by
      refine ⟨by rw [hwL.out]; exact (box_below wc _).alloc (by simp) _, ?_, ?_, Nat.zero_le _⟩
      · rw [hwL.out]; exact (Blk.new wc _ _).alloc _
      · rw [hwL.out]
        have := Blk.new (wc.alloc (.cells #[.pointer (some ⟨g, 0, none⟩)] 23)) 3 #[.int .i64 0]
        rwa [World.size_alloc] at this
    have HTB : Hid (∀ W, Below wc.heap.size wc W → ∃ F, TabL W g 50 d F) := Lib.hid (fun W hB => (hP.out.below hB).tabs.1)
    have HSTR : Hid (Str (keys d)) := Lib.hid (by obtain ⟨F, mb, ov, -, -, -, h4, -⟩ := hP.out.tabs.1; exact h4)
    have HFC : Hid (∀ W, Below wc.heap.size wc W → W.cell? ⟨w.heap.size, 0, none⟩ = some (.int .u8 far)) := Lib.hid (fun W hB => ((bF.out.below hP.out.made).below hB).cell 0)
    have hltw : w.heap.size < wc.heap.size := (bF.out.below hP.out.made).lt
    have hFc : ∃ F, TabL wL g 50 d F := HTB.out wL hI0.1
    obtain ⟨F, hFT⟩ := hFc
    have HFL := Lib.hid hFT
    clear hFT CA heq hwL
    refine wpIn_wide.1 (Rng.wpIn_range (F := Fence.wide) (n := 4) rfl (by decide) (gf := 37) (lb := #[.pointer (some ⟨wc.heap.size, 0, none⟩)]) rfl trivial (enters_of Try.func37 (by kernel_rfl) rfl)
      (N := d.length) (encs := encR d) (I := StopI g far wc) (Ix := fun c W => c = .exit 2 ∧ far < d.length ∧ StopX far wc W) (fun _ => rfl)
      (fun i W W' hi hB => hi.below hB (by omega)) (fun c W W' hi hB => ⟨hi.1, hi.2.1, hi.2.2.below hB (by omega)⟩) hI0
      (fun W hW hi => all1_iter 3 (by decide) wc.heap.size g 50 d F _ W (by omega) (HFL.out.below hW) (fun i W1 hi1 => ⟨hi1.2.1.cell 0, by obtain ⟨F1, h1⟩ := HTB.out W1 hi1.1; exact ⟨50, d, F1, h1, fun j _ hj => (dropI_look (pr := fun _ => false) (i := 0) HSTR.out (Nat.zero_le _) hj)⟩⟩))
      (fun i W => { tmps := #[.slice a0 len0 cap0, .int .u8 far, undef, .pointer (some ⟨w.heap.size, 0, none⟩), .bool false, .pointer (some ⟨g, 0, none⟩), .pointer (some ⟨e0, 0, none⟩), u7, .func (.func 37) #[] #[.pointer (some ⟨wc.heap.size, 0, none⟩)], .pointer (some ⟨wc.heap.size + 1, 0, none⟩), .pointer (some ⟨g, 0, none⟩), .agg #[.slice none 0 0, .int .i64 50], u12, u13, u14, u15, u16, u17, u18, u19, u20, u21, u22, u23, u24, u25, u26, u27, u28, u29, u30, u31, u32, u33, u34, u35, u36, u37, u38, .pointer (some ⟨g, 0, none⟩), .func (.func 37) #[] #[.pointer (some ⟨wc.heap.size, 0, none⟩)], .func (.func 37) #[] #[.pointer (some ⟨wc.heap.size, 0, none⟩)], .bool false, .func (.func 37) #[] #[.pointer (some ⟨wc.heap.size, 0, none⟩)], kval (rowAt d i).1, .int .i64 (rowAt d i).2, undef, undef, undef, undef, undef, undef, undef, undef, undef, undef, undef, undef, undef, undef, undef, undef, undef, undef, undef, undef, undef, undef, undef], defers := [] })
      (fun i W => W) (fun i W => Below.refl _ _) ?assign ?body ?done ?stop)
    case assign =>
      intro l i W K hK
      unfold encR
      gi_wp2
      exact hK
    case body =>
      intro l i W W2 hiN hl1 hl2 hi hi2 hs2 hb2
      obtain ⟨t1, t2, t3, t4⟩ := hi2
      have i0 := t3.cell 0
      have i1 := t3.free 0
      have hwi : IntKind.i64.wrap ((i : Int) + 1) = (i : Int) + 1 := by rw [IntKind.wrap_i64]; omega
      have hin : i < d.length := hiN
      have hne : (⟨wc.heap.size + 1, 0, none⟩ : Addr) ≠ ⟨w.heap.size, 0, none⟩ := by intro e; simp at e <;> omega
      have e1 : (W2.setCell ⟨wc.heap.size + 1, 0, none⟩ (.int .i64 ((i : Int) + 1))).cell? ⟨w.heap.size, 0, none⟩ = some (.int .u8 far) := by
        rw [World.cell?_setCell_other (h := hne)]; exact HFC.out W2 t1
      have e2 : (W2.setCell ⟨wc.heap.size + 1, 0, none⟩ (.int .i64 ((i : Int) + 1))).cell? ⟨wc.heap.size + 1, 0, none⟩ = some (.int .i64 ((i : Int) + 1)) := by
        rw [World.cell?_setCell_same (h := i0)]
      have hS : Below wc.heap.size W2 (W2.setCell ⟨wc.heap.size + 1, 0, none⟩ (.int .i64 ((i : Int) + 1))) := (Below.refl _ _).setCell (p := ⟨wc.heap.size + 1, 0, none⟩) (by simp) _
      have HK : Hid (Rng.KeepNew (wc.heap.size + 2) W2 (W2.setCell ⟨wc.heap.size + 1, 0, none⟩ (.int .i64 ((i : Int) + 1)))) := Lib.hid (Rng.KeepNew.setCell W2 (by show wc.heap.size + 1 < wc.heap.size + 2; omega) _)
      have HT1 : Hid (Below wc.heap.size wc (W2.setCell ⟨wc.heap.size + 1, 0, none⟩ (.int .i64 ((i : Int) + 1)))) := Lib.hid (t1.trans hS)
      have HT2 := Lib.hid (t2.far (p := ⟨wc.heap.size + 1, 0, none⟩) (by simp) (.int .i64 ((i : Int) + 1)))
      have HT3 := Lib.hid (t3.put 0 (.int .i64 ((i : Int) + 1)))
      clear t1 t2 t3 hi hb2 hs2 hS HTB hI0
      by_cases hf : i < far
      · have hng : ¬ ((far : Int) < (i : Int) + 1) := by omega
        gi_wp2
        exact ⟨HK.out, HT1.out, HT2.out, HT3.out, hf⟩
      · obtain rfl : i = far := by omega
        have hng : (i : Int) < (i : Int) + 1 := by omega
        gi_wp2
        exact ⟨by rw [hsL]; exact HK.out, rfl, hin, HT1.out, HT3.out⟩
    case done =>
      intro W hW hi hK
      obtain ⟨t1, t2, t3, t4⟩ := hi
      have hPW := hP.out.below t1
      have CS := Lib.hid (stop_same hPW (by omega))
      have CW := Lib.hid (fun W1 => TblN.works7_any W1)
      have hmn : min (d.length : Int) ((far : Int) + 1) = (d.length : Int) := by omega
      have HBw : Hid (Below w.heap.size w W) := Lib.hid (HBb.out.trans (hPW.made.mono HBb.out.size))
      have HE : Hid (∀ W', Below W.heap.size W W' → W'.heap[wL.heap.size]? = some (.deferred (some [])) ∧ Below w.heap.size w (W'.putObj wL.heap.size (.deferred none))) := Lib.hid (fun W' hB => ⟨(hB.block _ hW).trans hK, ((HBw.out).trans (hB.mono HBw.out.size)).trans (Rng.below_put _ _ (by have := HBw.out.size; have := hsL; omega))⟩)
      have c0 := t3.cell 0
      have c1 := HFC.out W t1
      obtain ⟨c2, c3, -, -⟩ := hPW.cells
      clear t1 t2 t3 hP hPW hK HTB hI0
      go_wp2_with (first
        | (go_at_call 9; refine (CS.out).mono ?_; rintro e w5 ⟨rfl, hB5⟩; have HB5 := Lib.hid hB5; clear hB5)
        | (go_at_call 11; refine (CW.out _).mono ?_; rintro e w6 ⟨rfl, hB6⟩; have HB6 := Lib.hid (HB5.out.trans (hB6.mono HB5.out.size)); clear hB6))
      obtain ⟨e1, e2⟩ := HE.out _ HB6.out
      rw [hsL] at e1 e2
      exact ⟨by simp, .inl ⟨_, _, rfl, run_takeDeferred e1, .bool true, by simp [results, Try.results5, go_sem], rfl, e2⟩⟩
    case stop =>
      intro c W hW hi hK
      obtain ⟨rfl, hfd, t1, t3⟩ := hi
      have hPW := hP.out.below t1
      have CS := Lib.hid (stop_same hPW (by omega))
      have CW := Lib.hid (fun W1 => TblN.works7_any W1)
      have hmn : min (d.length : Int) ((far : Int) + 1) = (far : Int) + 1 := by omega
      have HBw : Hid (Below w.heap.size w W) := Lib.hid (HBb.out.trans (hPW.made.mono HBb.out.size))
      have HE : Hid (∀ W', Below W.heap.size W W' → W'.heap[wL.heap.size]? = some (.deferred (some [])) ∧ Below w.heap.size w (W'.putObj wL.heap.size (.deferred none))) := Lib.hid (fun W' hB => ⟨(hB.block _ hW).trans hK, ((HBw.out).trans (hB.mono HBw.out.size)).trans (Rng.below_put _ _ (by have := HBw.out.size; have := hsL; omega))⟩)
      have c0 := t3.cell 0
      have c1 := HFC.out W t1
      obtain ⟨c2, c3, -, -⟩ := hPW.cells
      clear t1 t3 hP hPW hK HTB hI0
      refine wpIn_wide.2 ?_
      go_wp2_with (first
        | (go_at_call 9; refine (CS.out).mono ?_; rintro e w5 ⟨rfl, hB5⟩; have HB5 := Lib.hid hB5; clear hB5)
        | (go_at_call 11; refine (CW.out _).mono ?_; rintro e w6 ⟨rfl, hB6⟩; have HB6 := Lib.hid (HB5.out.trans (hB6.mono HB5.out.size)); clear hB6))
      obtain ⟨e1, e2⟩ := HE.out _ HB6.out
      rw [hsL] at e1 e2
      exact ⟨by simp, .inl ⟨_, _, rfl, run_takeDeferred e1, .bool true, by simp [results, Try.results5, go_sem], rfl, e2⟩⟩
end Go.Proofs.Ytolcidilnmjlmaa.TblL
