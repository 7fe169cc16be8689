/- TablePops, walked (layer 7). -/
import Derived.Test.YtolcidilnmjlmaaTblT
import Derived.Deep.CutRange
import Derived.Deep.CutBlock
namespace Go.Proofs.Ytolcidilnmjlmaa.TblL
open Go.ChangeShapes Go.WideShapes Go.ChangeAt Go.RowKit Go.Sort
open Go.Proofs.Ytolcidilnmjlmaa.Key Go.Proofs.Ytolcidilnmjlmaa.Rw Go.Proofs.Ytolcidilnmjlmaa.Tbl
set_option linter.unusedVariables false
set_option linter.unusedSimpArgs false
theorem eqK_refl (x : Ky) : eqK x x = true := by unfold eqK; simp
theorem drop_facts {d : List Row} (h1 : ∀ r ∈ d, r.2 = 1) {m : Nat} (hm : m < d.length) : minK (d.drop m) = (keys d).getD m default ∧ minV (d.drop m) = 1 ∧ some1 (d.drop m) = true ∧ (d.drop m).tail = d.drop (m + 1) := by
  rw [List.drop_eq_getElem_cons hm]
  refine ⟨by simp [minK, keys, List.getD, hm], ?_, rfl, rfl⟩
  exact h1 _ (List.getElem_mem _)
set_option maxRecDepth 100000 in
set_option maxHeartbeats 2000000 in
theorem tablePops_any (a0 : Option Addr) (len0 cap0 : Nat) (z0 : List Ky) (w : World) (w0 : Keys w w.heap.size a0 len0 cap0 z0) :
    Calls Try.prog 4 #[.slice a0 len0 cap0] w fun e w' => e = .returned (.bool true) ∧ Below w.heap.size w w' := by
  obtain ⟨hlen, hle, hmax, -, hok, hrd⟩ := w0
  have CN := Lib.hid (new_any 100 w)
  have HR := Lib.hid hrd
  have HK := Lib.hid hok
  have HL := Lib.hid hlen
  have hll : (len0 : Int) ≤ 9223372036854775807 := by omega
  clear hrd hok hlen
  go_enter Try.func4, Try.ntmps4
  go_wp2_with fail
  refine (CN.out).mono ?_; rintro e w1 ⟨g, rfl, hT, hB1⟩
  have HP1 : Hid (PopS w g [] [] none w1) := Lib.hid ⟨_, hT, fun j hj => hj, hB1, .inl rfl, fun x e => by cases e⟩
  clear hT hB1 CN
  -- one that is put in, then lined up
  have HM : Hid (∀ k (d : List Row), k < len0 → k < 60 → keys d = sortK (z0.take k) → d.length ≤ k ∧ keys (putD 100 d (z0.getD k default) 1) = sortK (z0.take (k + 1)) ∧ intoK (sortK (z0.take k)) (z0.getD k default) = sortK (z0.take (k + 1))) := Lib.hid (fun k d hk h60 hkd => by
    have hs : sortK (z0.take (k + 1)) = intoK (sortK (z0.take k)) (z0.getD k default) := by rw [Key.take_succ' (l := z0) (k := k) (by rw [HL.out]; exact hk), sort_snoc]
    have hl : d.length ≤ k := by
      have := sort_len (z0.take k)
      rw [← hkd, keys_len, List.length_take] at this
      omega
    exact ⟨hl, by rw [hs, ← hkd]; exact keys_putD (by omega), hs.symm⟩)
  go_upto_block 0 with fail
  go_cut [4, 5] from 15 to 36 (fun v _ W => ∃ (n : Nat) (d : List Row) (ad : Option Addr) (cap : Nat), n ≤ 60 ∧ Hid (keys d = sortK (z0.take n)) ∧ Hid (∀ r ∈ d, r.2 = 1) ∧ v = .slice ad (keys d).length cap ∧ (keys d).length ≤ cap ∧ Hid (PopS w g d (keys d) ad W))
  case first =>
    go_wp2_with fail
    go_loopw [4, 5] (fun v i wr => ∃ (k : Nat) (d : List Row) (ad : Option Addr) (cap : Nat), k ≤ len0 ∧ k ≤ 60 ∧ i = .int .i64 k ∧ Hid (keys d = sortK (z0.take k)) ∧ Hid (∀ r ∈ d, r.2 = 1) ∧ v = .slice ad (keys d).length cap ∧ (keys d).length ≤ cap ∧ Hid (PopS w g d (keys d) ad wr)) (fun _ i _ => 60 - (intOf i).toNat)
    case atStart => exact ⟨0, [], none, 0, Nat.zero_le _, Nat.zero_le _, rfl, Lib.hid (by rw [List.take_zero]; rfl), Lib.hid (fun r h => by cases h), rfl, Nat.le_refl _, HP1⟩
    case round =>
      obtain ⟨k, d, ad, cap, hk, hk60, rfl, hkd, h1s, rfl, hcap, hP⟩ := hrel
      by_cases hlt : k < len0
      · by_cases h60 : k < 60
        · obtain ⟨hdl, hkp, hki⟩ := HM.out k d hlt h60 hkd.out
          obtain ⟨b, off, rfl, hb, hc⟩ := HR.out.at_ (i := k) (by rw [HL.out]; exact hlt)
          have hkk : ok (z0.getD k default) := HK.out _ (getD_mem (by rw [HL.out]; exact hlt))
          have CP := Lib.hid (hP.out.put (z0.getD k default) 1 hkk (by omega))
          have CI : Hid (∀ W, PopS w g (putD 100 d (z0.getD k default) 1) (keys d) ad W → Calls Try.prog 13 #[.slice ad (keys d).length cap, kval (z0.getD k default)] W fun e w' => ∃ ad' cap', e = .returned (.slice ad' (keys (putD 100 d (z0.getD k default) 1)).length cap') ∧ PopS w g (putD 100 d (z0.getD k default) 1) (keys (putD 100 d (z0.getD k default) 1)) ad' w' ∧ (keys (putD 100 d (z0.getD k default) 1)).length ≤ cap') := Lib.hid (fun W hW => by
            have h := hW.into (z0.getD k default) cap (by rw [keys_len]; omega) hcap
            have e : intoK (keys d) (z0.getD k default) = keys (putD 100 d (z0.getD k default) 1) := by rw [hkp, ← hki, hkd.out]
            rw [e] at h
            exact h)
          have HC : Hid (∀ W, Below w.heap.size w W → Rw.At enc W b (off + k * 3) (z0.getD k default)) := Lib.hid (fun W hB => hc.below hB hb)
          have HE : Hid (keys (putD 100 d (z0.getD k default) 1) = sortK (z0.take (k + 1)) ∧ ∀ r ∈ putD 100 d (z0.getD k default) 1, r.2 = 1) := Lib.hid ⟨hkp, ones_putD h1s.out⟩
          generalize putE 100 d (z0.getD k default) = ee at *
          generalize putD 100 d (z0.getD k default) 1 = d2 at *
          generalize z0.getD k default = x at *
          obtain ⟨p, q, s⟩ := x
          obtain ⟨c0, c1, c2⟩ := at3 (HC.out wr hP.out.to)
          unfold kval at CP CI
          simp only at CP CI c0 c1 c2
          clear hc hki hkp hkk hP hkd h1s hdl
          go_wp2_with (first
            | (go_at_call 12; refine (CP.out).mono ?_; rintro e w2 ⟨rfl, hP2⟩; obtain ⟨d0, d1, d3⟩ := at3 (HC.out w2 hP2.to); simp only at d0 d1 d3; have HP2 := Lib.hid hP2; clear hP2)
            | (go_at_call 13; refine (CI.out _ HP2.out).mono ?_; rintro e w3 ⟨ad3, cap3, rfl, hP3, hcap3⟩; have HP3 := Lib.hid hP3; clear hP3))
          go_roundw
          case rel => exact ⟨k + 1, d2, ad3, cap3, by omega, by omega, by go_num, Lib.hid HE.out.1, Lib.hid HE.out.2, rfl, hcap3, HP3⟩
          case measure => simp [intOf]; omega
        · obtain rfl : k = 60 := by omega
          go_wp2_with fail
          go_meet
          case rel => exact ⟨60, d, ad, cap, Nat.le_refl _, hkd, h1s, rfl, hcap, hP⟩
      · obtain rfl : k = len0 := by omega
        go_wp2_with fail
        go_meet
        case rel => exact ⟨k, d, ad, cap, hk60, hkd, h1s, rfl, hcap, hP⟩
  case rest =>
    obtain ⟨n, d, ad, cap, hn, hkd, h1s, rfl, hcap, hP⟩ := hcut
    have hdl : d.length ≤ 60 := by
      have := sort_len (z0.take n)
      rw [← hkd.out, keys_len, List.length_take] at this
      omega
    have hkl : (keys d).length = d.length := keys_len d
    have HF : Hid (∀ m, m < d.length → minK (d.drop m) = (keys d).getD m default ∧ minV (d.drop m) = 1 ∧ some1 (d.drop m) = true ∧ (d.drop m).tail = d.drop (m + 1)) := Lib.hid (fun m hm => drop_facts h1s.out hm)
    have HKL := Lib.hid hkl
    clear HM hkd h1s HR HK HL HP1
    rw [hkl] at hcap ⊢
    obtain ⟨N, hN⟩ : ∃ N, Hid (d.length = N) := ⟨_, Lib.hid rfl⟩
    have HFN : Hid (∀ m, m < N → minK (d.drop m) = (keys d).getD m default ∧ minV (d.drop m) = 1 ∧ some1 (d.drop m) = true ∧ (d.drop m).tail = d.drop (m + 1)) := by rw [← hN.out]; exact HF
    have HKN : Hid ((keys d).length = N) := by rw [← hN.out]; exact HKL
    have HLN : Hid (∀ m, (d.drop m).length ≤ 255) := Lib.hid (fun m => by rw [List.length_drop]; omega)
    have HEN : Hid (d.drop N = []) := Lib.hid (by rw [← hN.out]; simp)
    rw [hN.out] at hcap hdl ⊢
    clear HF HKL hkl
    go_wp2_with fail
    go_loopw [39] (fun i wr => ∃ m : Nat, m ≤ N ∧ i = .int .i64 m ∧ Hid (PopS w g (d.drop m) (keys d) ad wr)) (fun i _ => N - (intOf i).toNat)
    case atStart => exact ⟨0, Nat.zero_le _, rfl, by rw [List.drop_zero]; exact hP⟩
    case round =>
      obtain ⟨m, hm, rfl, hPm⟩ := hrel
      by_cases hlt : m < N
      · obtain ⟨f1, f2, f3, f4⟩ := HFN.out m hlt
        obtain ⟨b, off, rfl, hb, hc⟩ := hPm.out.rd.at_ (i := m) (by rw [HKN.out]; exact hlt)
        have CP : Hid (∀ W, Below wr.heap.size wr W → Calls Try.prog 14 #[.pointer (some ⟨g, 0, none⟩)] W fun e w' => e = .returned (.tuple #[kval ((keys d).getD m default), .int .i64 1, .bool true]) ∧ PopS w g (d.drop (m + 1)) (keys d) (some ⟨b, off, none⟩) w' ∧ ∀ b t cs, wr.heap.size ≤ b → Blk W b t cs → Blk w' b t cs) := Lib.hid (fun W hB => by
          have h := hPm.out.pop hB (HLN.out m)
          rw [f1, f2, f3, f4] at h
          exact h)
        generalize (keys d).getD m default = x at *
        obtain ⟨p, q, s⟩ := x
        obtain ⟨c0, c1, c2⟩ := at3 hc
        have HBX : Hid (∀ w5, PopS w g (d.drop (m + 1)) (keys d) (some ⟨b, off, none⟩) w5 → (∀ b t cs, wr.heap.size ≤ b → Blk (wr.alloc (.cells #[.int .i64 p, .int .i64 q, .int .u32 s] 34)) b t cs → Blk w5 b t cs) →
            ((w5.alloc (.cells #[.int .i64 p, .int .i64 q, .int .u32 s] 34)).cell? ⟨wr.heap.size, 0, none⟩ = some (.int .i64 p) ∧ (w5.alloc (.cells #[.int .i64 p, .int .i64 q, .int .u32 s] 34)).cell? ⟨wr.heap.size, 1, none⟩ = some (.int .i64 q) ∧ (w5.alloc (.cells #[.int .i64 p, .int .i64 q, .int .u32 s] 34)).cell? ⟨wr.heap.size, 2, none⟩ = some (.int .u32 s)) ∧
            ((w5.alloc (.cells #[.int .i64 p, .int .i64 q, .int .u32 s] 34)).cell? ⟨w5.heap.size, 0, none⟩ = some (.int .i64 p) ∧ (w5.alloc (.cells #[.int .i64 p, .int .i64 q, .int .u32 s] 34)).cell? ⟨w5.heap.size, 1, none⟩ = some (.int .i64 q) ∧ (w5.alloc (.cells #[.int .i64 p, .int .i64 q, .int .u32 s] 34)).cell? ⟨w5.heap.size, 2, none⟩ = some (.int .u32 s)) ∧
            PopS w g (d.drop (m + 1)) (keys d) (some ⟨b, off, none⟩) (w5.alloc (.cells #[.int .i64 p, .int .i64 q, .int .u32 s] 34))) := Lib.hid (fun w5 h5 hb5 => by
          have k1 := (hb5 _ _ _ (Nat.le_refl _) (Blk.new wr 34 #[.int .i64 p, .int .i64 q, .int .u32 s])).alloc (.cells #[.int .i64 p, .int .i64 q, .int .u32 s] 34)
          have k2 := Blk.new w5 34 #[.int .i64 p, .int .i64 q, .int .u32 s]
          exact ⟨⟨k1.cell 0, k1.cell 1, k1.cell 2⟩, ⟨k2.cell 0, k2.cell 1, k2.cell 2⟩, h5.below (box_below _ _)⟩)
        have he := eqK_refl (p, q, s)
        have hbw := Lib.hid (fun o => box_below wr o)
        unfold kval at CP
        simp only at CP c0 c1 c2
        clear hc f1 f2 f3 f4 hPm
        go_wp2_with (go_at_call 14; refine (CP.out _ (hbw.out _)).mono ?_; rintro e w5 ⟨rfl, hP5, hb5⟩; obtain ⟨⟨x0, x1, x2⟩, ⟨y0, y1, y2⟩, hP6⟩ := HBX.out w5 hP5 hb5; have HP6 := Lib.hid hP6; clear hP5 hb5 hP6)
        go_roundw
        case rel => exact ⟨m + 1, by omega, by go_num, HP6⟩
        case measure => simp [intOf]; omega
      · obtain rfl : m = N := by omega
        have CP := Lib.hid (hPm.out.pop (Below.refl _ _) (HLN.out m))
        rw [HEN.out] at CP
        have CW := Lib.hid (fun W => TblN.works7_any W)
        unfold minK minV some1 kval at CP
        simp only [List.isEmpty_nil, Bool.not_true] at CP
        clear hPm HFN
        go_wp2_with (first
          | (go_at_call 14; refine (CP.out).mono ?_; rintro e w5 ⟨rfl, hP5, -⟩; have HB5 : Hid (Below w.heap.size w (w5.alloc (.cells #[.int .i64 0, .int .i64 0, .int .u32 0] 34))) := Lib.hid (hP5.to.trans ((box_below _ _).mono hP5.to.size)); clear hP5)
          | (go_at_call 11; refine (CW.out _).mono ?_; rintro e w6 ⟨rfl, hB6⟩; have HB6 := Lib.hid (HB5.out.trans (hB6.mono HB5.out.size)); clear hB6))
        go_ret
        exact ⟨rfl, HB6.out⟩
end Go.Proofs.Ytolcidilnmjlmaa.TblL
