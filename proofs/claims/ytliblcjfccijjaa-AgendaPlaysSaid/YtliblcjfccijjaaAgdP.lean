/- AgendaPlays, walked (layer 8). -/
import Derived.Test.YtliblcjfccijjaaAgdPB
import Derived.Test.YtliblcjfccijjaaAgdPC
import Derived.Test.YtliblcjfccijjaaAgdPD
import Derived.Test.YtliblcjfccijjaaAgdZ
import Derived.Test.YtliblcjfccijjaaAgdV
import Derived.Test.YtliblcjfccijjaaAgdI
import Derived.Test.YtliblcjfccijjaaAgdT
import Derived.Deep.CutRange
import Derived.Deep.CutBlock
import Derived.Deep.RegionWith
namespace Go.Proofs.Ytliblcjfccijjaa.AgdL
open Go.ChangeShapes Go.WideShapes Go.ChangeAt Go.RowKit
open Go.Proofs.Ytliblcjfccijjaa.Rw Go.Proofs.Ytliblcjfccijjaa.Agd
open Go.Proofs.Ytliblcjfccijjaa.AgdR (encW encW_len RdR OwnR aval at2)
set_option linter.unusedVariables false
set_option linter.unusedSimpArgs false
set_option maxRecDepth 100000 in
set_option maxHeartbeats 8000000 in
theorem agendaPlays_any (m : Int) (a1 : Option Addr) (len1 cap1 : Nat) (z1 : List Ac) (w : World) (w1 : Acts w w.heap.size a1 len1 cap1 z1) :
    Calls Try.prog 8 #[.int .i64 m, .slice a1 len1 cap1] w fun e w' => e = .returned (.bool true) ∧ Below w.heap.size w w' := by
  obtain ⟨hlen, hle, hmax, -, hok, hrd⟩ := w1
  obtain ⟨M, hM⟩ : ∃ M, Hid (min (max m 0) 65536 = M) := ⟨_, Lib.hid rfl⟩
  have hM0 : 0 ≤ M ∧ M ≤ 65536 := by rw [← hM.out]; omega
  have CN := Lib.hid (new_any m w)
  have CR := Lib.hid (fun W => AgdR.rnew_any m W)
  rw [hM.out] at CN CR
  have HR := Lib.hid hrd
  have HK := Lib.hid hok
  have HL := Lib.hid hlen
  have hll : (len1 : Int) ≤ 9223372036854775807 := by omega
  clear hrd hok hlen hM
  unfold aval at CR
  go_enter Try.func8, Try.ntmps8
  go_upto_region 2 with (first
    | (go_at_call 28; refine (CN.out).mono ?_; rintro e w1 ⟨g, rfl, hT, hB1⟩; have HT := Lib.hid hT; have HB1 := Lib.hid hB1; clear hT hB1)
    | (go_at_call 29; refine (CR.out _).mono ?_; rintro e w2 ⟨rfl, hB2⟩))
  obtain ⟨W1, hW1⟩ : ∃ W1, Hid (W1 = w2.alloc (.cells #[.slice none 0 0, .int .i64 M] 57)) := ⟨_, Lib.hid rfl⟩
  have HP1 : Hid (Pair w g M 0 [] none 0 w2.heap.size W1) := Lib.hid (by rw [hW1.out]; exact Pair.new HB1.out HT.out (fun j hj => hj) hB2)
  rw [← hW1.out]
  clear CN CR hB2 HT HB1 hW1
  generalize w2.heap.size = e0 at *
  go_wp2_with fail
  go_loopw [7] (fun i wr => ∃ (k add : Nat) (d : List Th) (ad : Option Addr) (cap : Nat), i = .int .i64 k ∧ k ≤ len1 ∧ k ≤ 60 ∧ d.length ≤ k ∧ add ≤ k ∧ (d.length : Int) ≤ M ∧ Hid (Pair w g M add d ad cap e0 wr)) (fun i _ => 60 - (intOf i).toNat)
  case atStart => exact ⟨0, 0, [], none, 0, rfl, Nat.zero_le _, Nat.zero_le _, by simp, by simp, by simpa using hM0.1, HP1⟩
  case round =>
    obtain ⟨k, add, d, ad, cap, rfl, hk, hk60, hdk, hak, hdM, hP⟩ := hrel
    by_cases hlt : k < len1
    · by_cases h60 : k < 60
      · obtain ⟨b, off, rfl, hb, hc⟩ := HR.out.at_ (i := k) (by rw [HL.out]; exact hlt)
        have hkk : ok8 (z1.getD k default) := HK.out _ (by simp [List.getD, HL.out, hlt])
        have HA : Hid (∀ W, Below w.heap.size w W → W.cell? ⟨b, off + k * 3, none⟩ = some (.int .u8 ((z1.getD k default).1 : Nat)) ∧ W.cell? ⟨b, off + k * 3 + 1, none⟩ = some (.int .i64 (z1.getD k default).2.1) ∧ W.cell? ⟨b, off + k * 3 + 2, none⟩ = some (.int .i64 (z1.getD k default).2.2)) := Lib.hid (fun W hW => at8 (hc.below hW hb))
        generalize z1.getD k default = x at *
        obtain ⟨kd, due, xv⟩ := x
        unfold ok8 at hkk
        simp only at HA hkk
        clear hc HP1
        obtain ⟨q0, q1, q2⟩ := HA.out wr (by obtain ⟨F, hF⟩ := hP.out; exact hF.made)
        obtain ⟨q, hq⟩ : ∃ q : Nat, Hid (kd % 4 = q) := ⟨_, Lib.hid rfl⟩
        have hqm : Int.tmod (kd : Int) 4 = (q : Int) := by rw [← hq.out, Int.tmod_eq_emod_of_nonneg (by omega)]; omega
        have hq4 : q < 4 := by rw [← hq.out]; omega
        go_upto_block 2 with fail
        go_cut [42] from 27 to 155 (fun _ W => ∃ (add' : Nat) (d' : List Th) (ad' : Option Addr) (cap' : Nat), Hid (Pair w g M add' d' ad' cap' e0 W ∧ d'.length ≤ k + 1 ∧ add' ≤ k + 1 ∧ (d'.length : Int) ≤ M))
        case first =>
          rename_i J1 K1 hJ1 hK1
          clear hq h60
          by_cases hq1 : q ≤ 1
          · exact way_add _ _ _ _ _ _ hM0 hll _ _ _ _ _ _ _ _ _ _ _ _ _ hlt hk60 hdk hak hdM hP HA hkk q0 q1 q2 hqm hq4 hq1 _ _ _ _ _ _ _ _ _ _ _ _ _ _ _ _ _ _ _ _ _ _ _ _ _ _ _ _ _ _ _ _ _ _ _ _ _ _ _ _ _ _ _ _ _ _ _ _ _ _ _ _ _ _ _ _ _ _ _ _ _ _ _ _ _ _ _ _ _ _ _ _ _ _ _ _ _ _ _ _ _ _ _ _ _ _ _ _ _ _ _ _ _ _ _ _ _ _ _ _ _ _ _ _ _ _ _ _ _ _ _ _ _ _ _ _ _ _ _ _ _ _ _ _ _ _ _ _ _ _ _ _ _ _ _ _ _ _ _ _ _ _ _ _ _ _ _ _ _ _ _ _ _ _ _ _ _ _ _ _ _ _ _ _ _ _ _ _ _ _ _ _ _ _ _ _ _ _ _ _ _ _ _ _ _ _ _ _ _ _ _ _ _ _ _ _ _ _ _ _ _ _ hJ1 hK1
          · obtain hq2 | hq3 : q = 2 ∨ q = 3 := by omega
            · exact way_take _ _ _ _ _ _ hM0 hll _ _ _ _ _ _ _ _ _ _ _ _ _ hlt hk60 hdk hak hdM hP HA hkk q0 q1 q2 hqm hq4 hq2 _ _ _ _ _ _ _ _ _ _ _ _ _ _ _ _ _ _ _ _ _ _ _ _ _ _ _ _ _ _ _ _ _ _ _ _ _ _ _ _ _ _ _ _ _ _ _ _ _ _ _ _ _ _ _ _ _ _ _ _ _ _ _ _ _ _ _ _ _ _ _ _ _ _ _ _ _ _ _ _ _ _ _ _ _ _ _ _ _ _ _ _ _ _ _ _ _ _ _ _ _ _ _ _ _ _ _ _ _ _ _ _ _ _ _ _ _ _ _ _ _ _ _ _ _ _ _ _ _ _ _ _ _ _ _ _ _ _ _ _ _ _ _ _ _ _ _ _ _ _ _ _ _ _ _ _ _ _ _ _ _ _ _ _ _ _ _ _ _ _ _ _ _ _ _ _ _ _ _ _ _ _ _ _ _ _ _ _ _ _ _ _ _ _ _ _ _ _ _ _ _ _ hJ1 hK1
            · exact way_drain _ _ _ _ _ _ hM0 hll _ _ _ _ _ _ _ _ _ _ _ _ _ hlt hk60 hdk hak hdM hP HA hkk q0 q1 q2 hqm hq4 hq3 _ _ _ _ _ _ _ _ _ _ _ _ _ _ _ _ _ _ _ _ _ _ _ _ _ _ _ _ _ _ _ _ _ _ _ _ _ _ _ _ _ _ _ _ _ _ _ _ _ _ _ _ _ _ _ _ _ _ _ _ _ _ _ _ _ _ _ _ _ _ _ _ _ _ _ _ _ _ _ _ _ _ _ _ _ _ _ _ _ _ _ _ _ _ _ _ _ _ _ _ _ _ _ _ _ _ _ _ _ _ _ _ _ _ _ _ _ _ _ _ _ _ _ _ _ _ _ _ _ _ _ _ _ _ _ _ _ _ _ _ _ _ _ _ _ _ _ _ _ _ _ _ _ _ _ _ _ _ _ _ _ _ _ _ _ _ _ _ _ _ _ _ _ _ _ _ _ _ _ _ _ _ _ _ _ _ _ _ _ _ _ _ _ _ _ _ _ _ _ _ _ _ hJ1 hK1
        case rest =>
          obtain ⟨add', d', ad', cap', hQ⟩ := hcut
          obtain ⟨⟨F, hF⟩, hd', ha', hdM'⟩ := hQ.out
          have hM' : IntKind.i64.wrap (M - (d'.length : Int)) = M - (d'.length : Int) := by rw [IntKind.wrap_i64]; omega
          have CX := Lib.hid (next_ag g M add' d' F wc hF.ag (by omega))
          have CF : Hid (∀ W, Below wc.heap.size wc W → Calls Try.prog 36 #[aval ad' d'.length cap' M] W fun e w' => e = .returned (.int .i64 (AgdR.fiI d')) ∧ Below W.heap.size W w') := Lib.hid (fun W hW => AgdR.rfirst_any ad' d'.length cap' M d' W rfl (by omega) (hF.lst.rd.below hW))
          have CLn : Hid (∀ W, Below wc.heap.size wc W → Calls Try.prog 37 #[.pointer (some ⟨g, 0, none⟩)] W fun e w' => e = .returned (.int .i64 (d'.length : Nat)) ∧ W = w') := Lib.hid (fun W hW => len_any g M add' d' F W (hF.ag.below hW))
          have CRm : Hid (∀ W, Below wc.heap.size wc W → Calls Try.prog 38 #[.pointer (some ⟨g, 0, none⟩)] W fun e w' => e = .returned (.int .i64 (M - (d'.length : Nat))) ∧ w' = W.drew) := Lib.hid (fun W hW => room_drew g M add' d' F W (hF.ag.below hW) hM0 (by omega))
          have HC : Hid (∀ W, Below wc.heap.size wc W → W.cell? ⟨e0, 0, none⟩ = some (.slice ad' d'.length cap') ∧ W.cell? ⟨e0, 1, none⟩ = some (.int .i64 M)) := Lib.hid (fun W hW => ⟨(hF.below hW).cells.1, (hF.below hW).cells.2.1⟩)
          have HE : Hid (∀ W, Below wc.heap.size wc W → Pair w g M add' d' ad' cap' e0 W) := Lib.hid (fun W hW => ⟨F, hF.below hW⟩)
          have hcp1 := hF.lst.cap1
          have hcp2 := hF.lst.cap2
          have hc0 := HC.out wc (Below.refl _ _)
          obtain ⟨c0', c1'⟩ := hc0
          have hnl : Hid (d'.length ≤ k + 1 ∧ add' ≤ k + 1 ∧ (d'.length : Int) ≤ M) := Lib.hid ⟨hd', ha', hdM'⟩
          by_cases hdn : d' = []
          · rw [show some1 d' = false by simp [some1, hdn], show nd d' = 0 from if_pos hdn] at CX
            rw [show AgdR.fiI d' = -1 from if_pos hdn] at CF
            unfold aval at CF
            clear hF hQ hP hdn ha' hdM' HA hkk hdk hak hdM HR HK HL hq hqm hq4 q0 q1 q2
            go_wp2_with fail
            refine (CX.out).mono ?_; rintro e w3 ⟨rfl, rfl⟩
            go_wp2_with fail
            refine (CF.out _ (Below.refl _ _)).mono ?_; rintro e w4 ⟨rfl, hB4⟩
            have H4 := Lib.hid hB4
            have CL4 : Hid (∀ n, Calls Try.prog 37 #[.pointer (some ⟨g, 0, none⟩)] (w4.drewN n) fun e w' => e = .returned (.int .i64 (d'.length : Nat)) ∧ w4.drewN n = w') := Lib.hid (fun n => CLn.out _ (Own.below_drewN hB4 n))
            have CR4 : Hid (∀ n, Calls Try.prog 38 #[.pointer (some ⟨g, 0, none⟩)] (w4.drewN n) fun e w' => e = .returned (.int .i64 (M - (d'.length : Nat))) ∧ w' = (w4.drewN n).drew) := Lib.hid (fun n => CRm.out _ (Own.below_drewN hB4 n))
            have HE4 : Hid (∀ n, Pair w g M add' d' ad' cap' e0 (w4.drewN n)) := Lib.hid (fun n => HE.out _ (Own.below_drewN hB4 n))
            obtain ⟨c0, c1⟩ := HC.out w4 hB4
            clear hB4
            go_wp2_with fail
            go_quiet (first | (with_reducible exact quiet_same (CL4.out _)) | (with_reducible exact quiet_drew (CR4.out _)))
            go_wp2_with fail
            go_roundw
            case rel => exact ⟨k + 1, add', d', ad', cap', by go_num, by omega, by omega, hnl.out.1, hnl.out.2.1, hnl.out.2.2, Lib.hid (HE4.out _)⟩
            case measure => simp [intOf]; omega
          · have hfl : fi d' < d'.length := fi_lt hdn
            obtain ⟨b2, off2, rfl, -, -⟩ := hF.lst.rd.at_ (i := fi d') hfl
            have HX : Hid (∀ W, Below wc.heap.size wc W → W.cell? ⟨b2, off2 + fi d' * 2, none⟩ = some (.int .i64 (Agd.hd d').due)) := Lib.hid (fun W hW => by
              obtain ⟨b3, off3, e3, -, hx⟩ := (hF.lst.rd.below hW).at_ (i := fi d') hfl
              simp only [Option.some.injEq, Addr.mk.injEq, and_true] at e3
              obtain ⟨rfl, rfl⟩ := e3
              exact (at2 hx).1)
            rw [show some1 d' = true by simp [some1, hdn], show nd d' = (Agd.hd d').due from if_neg hdn] at CX
            rw [show AgdR.fiI d' = ((fi d' : Nat) : Int) from if_neg hdn] at CF
            unfold aval at CF
            generalize (Agd.hd d').due = dd at *
            generalize fi d' = f at *
            clear hF hQ hP hdn ha' hdM' HA hkk hdk hak hdM HR HK HL hq hqm hq4 q0 q1 q2
            go_wp2_with fail
            refine (CX.out).mono ?_; rintro e w3 ⟨rfl, rfl⟩
            go_wp2_with fail
            refine (CF.out _ (Below.refl _ _)).mono ?_; rintro e w4 ⟨rfl, hB4⟩
            have H4 := Lib.hid hB4
            have CL4 : Hid (∀ n, Calls Try.prog 37 #[.pointer (some ⟨g, 0, none⟩)] (w4.drewN n) fun e w' => e = .returned (.int .i64 (d'.length : Nat)) ∧ w4.drewN n = w') := Lib.hid (fun n => CLn.out _ (Own.below_drewN hB4 n))
            have CR4 : Hid (∀ n, Calls Try.prog 38 #[.pointer (some ⟨g, 0, none⟩)] (w4.drewN n) fun e w' => e = .returned (.int .i64 (M - (d'.length : Nat))) ∧ w' = (w4.drewN n).drew) := Lib.hid (fun n => CRm.out _ (Own.below_drewN hB4 n))
            have HE4 : Hid (∀ n, Pair w g M add' d' (some ⟨b2, off2, none⟩) cap' e0 (w4.drewN n)) := Lib.hid (fun n => HE.out _ (Own.below_drewN hB4 n))
            obtain ⟨c0, c1⟩ := HC.out w4 hB4
            have x0 := HX.out w4 hB4
            clear hB4
            go_wp2_with fail
            have h5 : decide ((f : Int) ≥ 0) = true := by simp
            have h6 : (0 : Int) ≤ (f : Int) := by omega
            go_quiet (first | (with_reducible exact quiet_same (CL4.out _)) | (with_reducible exact quiet_drew (CR4.out _)))
            go_wp2_with fail
            go_roundw
            case rel => exact ⟨k + 1, add', d', some ⟨b2, off2, none⟩, cap', by go_num, by omega, by omega, hnl.out.1, hnl.out.2.1, hnl.out.2.2, Lib.hid (HE4.out _)⟩
            case measure => simp [intOf]; omega
      · obtain rfl : k = 60 := by omega
        have CW := Lib.hid (fun W => AgdN.works8_any W)
        have HB : Hid (Below w.heap.size w wr) := Lib.hid (by obtain ⟨F, hF⟩ := hP.out; exact hF.made)
        clear hP HP1
        go_wp2_with fail
        refine (CW.out _).mono ?_; rintro e w6 ⟨rfl, hB6⟩
        have HB6 := Lib.hid (HB.out.trans (hB6.mono HB.out.size))
        clear hB6
        go_wp2_with fail
        go_ret
        exact ⟨rfl, HB6.out⟩
    · obtain rfl : k = len1 := by omega
      have CW := Lib.hid (fun W => AgdN.works8_any W)
      have HB : Hid (Below w.heap.size w wr) := Lib.hid (by obtain ⟨F, hF⟩ := hP.out; exact hF.made)
      clear hP HP1
      go_wp2_with fail
      refine (CW.out _).mono ?_; rintro e w6 ⟨rfl, hB6⟩
      have HB6 := Lib.hid (HB.out.trans (hB6.mono HB.out.size))
      clear hB6
      go_wp2_with fail
      go_ret
      exact ⟨rfl, HB6.out⟩
end Go.Proofs.Ytliblcjfccijjaa.AgdL
