/- TablePlays, walked (layer 7). -/
import Derived.Test.YtolcidilnmjlmaaTblSG
import Derived.Test.YtolcidilnmjlmaaTblV
import Derived.Deep.CutRange
import Derived.Deep.CutBlock
import Derived.Deep.RegionWith
namespace Go.Proofs.Ytolcidilnmjlmaa.TblL
open Go.ChangeShapes Go.WideShapes Go.ChangeAt Go.RowKit Go.Sort Go.Shelf
open Go.Proofs.Ytolcidilnmjlmaa.Key Go.Proofs.Ytolcidilnmjlmaa.Rw Go.Proofs.Ytolcidilnmjlmaa.Tbl
open Go.Proofs.Ytolcidilnmjlmaa.TblR (encW encW_len RdR OwnR tval at4 rnew_any)
set_option linter.unusedVariables false
set_option linter.unusedSimpArgs false
theorem PairS.same {B W : World} {g cap e : Nat} {d : List Row} {ad : Option Addr} {M : Int} (h : PairS B g M d d ad cap e W) (hd : d.length ≤ 1000000) (hM : 0 ≤ M ∧ M ≤ 65536) :
    Calls Try.prog 9 #[.pointer (some ⟨g, 0, none⟩), .agg #[.slice ad d.length cap, .int .i64 M]] W fun e w' => e = .returned (.bool true) ∧ Below W.heap.size W w' := by
  obtain ⟨⟨F, hT⟩, hR⟩ := h.tabs
  exact same7_any g M d F ad cap W hT hM hd hR
set_option maxRecDepth 100000 in
set_option maxHeartbeats 4000000 in
theorem tablePlays_any (m : Int) (a1 : Option Addr) (len1 cap1 : Nat) (z1 : List Ac) (w : World) (w1 : Acts w w.heap.size a1 len1 cap1 z1) :
    Calls Try.prog 3 #[.int .i64 m, .slice a1 len1 cap1] w fun e w' => e = .returned (.bool true) ∧ Below w.heap.size w w' := by
  obtain ⟨hlen, hle, hmax, -, hok, hrd⟩ := w1
  obtain ⟨M, hM⟩ : ∃ M, Hid (min (max m 0) 65536 = M) := ⟨_, Lib.hid rfl⟩
  have hM0 : 0 ≤ M ∧ M ≤ 65536 := by rw [← hM.out]; omega
  have hcl : clampM m = M := hM.out
  have CN := Lib.hid (new_any m w)
  have CR := Lib.hid (fun W => rnew_any m W)
  rw [hcl] at CN
  rw [hM.out] at CR
  have HR := Lib.hid hrd
  have HK := Lib.hid hok
  have HL := Lib.hid hlen
  have hll : (len1 : Int) ≤ 9223372036854775807 := by omega
  clear hrd hok hlen hcl hM
  unfold tval at CR
  go_enter Try.func3, Try.ntmps3
  go_upto_region 2 with (first
    | (go_at_call 7; refine (CN.out).mono ?_; rintro e w1 ⟨g, rfl, hT, hB1⟩; have HT := Lib.hid hT; have HB1 := Lib.hid hB1; clear hT hB1)
    | (go_at_call 8; refine (CR.out _).mono ?_; rintro e w2 ⟨rfl, hB2⟩))
  obtain ⟨W1, hW1⟩ : ∃ W1, Hid (W1 = w2.alloc (.cells #[.slice none 0 0, .int .i64 M] 27)) := ⟨_, Lib.hid rfl⟩
  have HP1 : Hid (PairS w g M [] [] none 0 w2.heap.size W1) := Lib.hid (PairS.new HT.out (fun j hj => hj) HB1.out hB2 hW1.out)
  rw [← hW1.out]
  clear CN CR hB2 HT HB1
  generalize w2.heap.size = e0 at *
  have CS := Lib.hid (HP1.out.same (by simp) hM0)
  obtain ⟨x0, x1, x2, x3⟩ := HP1.out.cells
  simp only [List.length_nil] at CS x0
  go_upto_block 0 with (go_at_call 9; refine (CS.out).mono ?_; rintro e w3 ⟨rfl, hB3⟩; have HP2 := Lib.hid (HP1.out.below hB3); clear hB3)
  clear CS x0 x1 x2 x3 HP1
  go_cut [7, 8] from 17 to 44 (fun _ _ W => ∃ (d : List Row) (ad : Option Addr) (cap : Nat), Hid (PairS w g M d d ad cap e0 W))
  case first =>
    go_wp2_with fail
    go_loopw [7, 8] (fun o i wr => ∃ (k : Nat) (d : List Row) (ad : Option Addr) (cap : Nat), o = .bool true ∧ k ≤ len1 ∧ k ≤ 60 ∧ i = .int .i64 k ∧ d.length ≤ k ∧ (d.length : Int) ≤ M ∧ Hid (PairS w g M d d ad cap e0 wr)) (fun _ i _ => 60 - (intOf i).toNat)
    case atStart => exact ⟨0, [], none, 0, rfl, Nat.zero_le _, Nat.zero_le _, rfl, by simp, by simpa using hM0.1, HP2⟩
    case round =>
      obtain ⟨k, d, ad, cap, rfl, hk, hk60, rfl, hdk, hdM, hP⟩ := hrel
      by_cases hlt : k < len1
      · by_cases h60 : k < 60
        · obtain ⟨b, off, rfl, hb, hc⟩ := HR.out.at_ (i := k) (by rw [HL.out]; exact hlt)
          have hkk : okA (z1.getD k default) := HK.out _ (by simp [List.getD, HL.out, hlt])
          have HPd : Hid (PairS w g M d d ad cap e0 wr.drew) := Lib.hid (hP.out.below (Below.refl _ _).drew)
          have HC := at5 (hc.below hP.out.made hb)
          generalize z1.getD k default = x at *
          obtain ⟨kd, ky, v⟩ := x
          have CO := Lib.hid (one_any w g e0 cap M d ad kd ky v wr.drew HPd.out hkk.2 hkk.1 hM0 (by omega) hdM)
          obtain ⟨p, q, s⟩ := ky
          obtain ⟨c0, c1, c2, c3, c4⟩ := HC
          obtain ⟨x0, x1, x2, x3⟩ := hP.out.cells
          unfold OnePost tval actV at CO
          simp only at CO c0 c1 c2 c3 c4
          clear hc hkk hP HPd HP2
          go_wp2_with fail
          refine wp_region_noPanic ?_
          go_region_with (go_at_call 10; refine (CO.out).mono ?_; rintro e w3 ⟨d3, ad3, cap3, hl3, hM3, rfl, hB3, ⟨v0, v1, hbx⟩, hP3⟩; have y0 : w3.cell? ⟨e0, 0, none⟩ = some v0 := hbx.cell 0; have y1 : w3.cell? ⟨e0, 1, none⟩ = some v1 := hbx.cell 1; have y2 := hbx.free 0; have y3 := hbx.free 1; clear hbx)
          all_goals
            have HP3 : Hid (PairS w g M d3 d3 ad3 cap3 e0 ((w3.setCell ⟨e0, 0, none⟩ (.slice ad3 d3.length cap3)).setCell ⟨e0, 1, none⟩ (.int .i64 M))) := Lib.hid (hP3 w3 (Below.refl _ _))
            clear hP3 hB3 y0 y1 y2 y3
            have CS := Lib.hid (HP3.out.same (by omega) hM0)
            obtain ⟨x0, x1, -, -⟩ := HP3.out.cells
            refine NoPanic.normal ?_
            generalize (w3.setCell ⟨e0, 0, none⟩ (.slice ad3 d3.length cap3)).setCell ⟨e0, 1, none⟩ (.int .i64 M) = w4 at *
            go_wp2_with (go_at_call 9; refine (CS.out).mono ?_; rintro e w5 ⟨rfl, hB5⟩; have HP5 := Lib.hid (HP3.out.below hB5); clear hB5)
            go_roundw
            case rel => exact ⟨k + 1, d3, ad3, cap3, rfl, by omega, by omega, by go_num, by omega, hM3, HP5⟩
            case measure => simp [intOf]; omega
        · obtain rfl : k = 60 := by omega
          go_wp2_with fail
          go_meet
          case rel => exact ⟨d, ad, cap, hP⟩
      · obtain rfl : k = len1 := by omega
        go_wp2_with fail
        go_meet
        case rel => exact ⟨d, ad, cap, hP⟩
  case rest =>
    obtain ⟨d, ad, cap, hP⟩ := hcut
    have CW := Lib.hid (fun W => TblN.works7_any W)
    have HB : Hid (Below w.heap.size w wc) := Lib.hid hP.out.made
    clear hP HP2
    go_wp2_with (go_at_call 11; refine (CW.out _).mono ?_; rintro e w6 ⟨rfl, hB6⟩; have HB6 := Lib.hid (HB.out.trans (hB6.mono HB.out.size)); clear hB6)
    go_ret
    exact ⟨rfl, HB6.out⟩
end Go.Proofs.Ytolcidilnmjlmaa.TblL
