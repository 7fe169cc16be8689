/- Contracts of package trim (layer 24) and of the document's own answers for it: the middle. -/
import Derived.Test.YtcadmepfnafpmaaTrmC
import Derived.Test.YtcadmepfnafpmaaTrmN
import Derived.Test.YtcadmepfnafpmaaSpanU
import Derived.Deep.Cut
import Derived.BigQuiet
namespace Go.Proofs.Ytcadmepfnafpmaa.Trm
open Go.ChangeShapes Go.WideShapes Go.ChangeAt Go.RowKit
open I64s (In64 Sl OwnL ListPost app_one app_all)
set_option linter.unusedVariables false
theorem trm_64 {zs : List Int} (h : In64 zs) (f : Int) : In64 (trm f zs) := fun x hx => h x (trm_mem f zs hx)
theorem tmid_any (f : Int) (ad : Option Addr) (cap : Nat) (zs : List Int) (w : World) (h : Sl w ad cap zs) (hm : zs.length ≤ 1000) (h64 : In64 zs) :
    Calls Try.prog 25 #[.int .i64 f, .slice ad zs.length cap] w fun e w' => e = .returned (.tuple #[.int .i64 (midV f zs), .bool (midB zs)]) ∧ Below w.heap.size w w' := by
  have C1 := Lib.hid (ttrim_any f ad cap zs w h hm)
  have hp := trm_pos f zs
  have ht := trm_len f zs
  have h64' := Lib.hid (trm_64 h64 f)
  have CM := Lib.hid (fun W ad cap (h : Sl W ad cap (trm f zs)) h0 hm => tmean_any ad cap (trm f zs) W h h0 hm h64'.out)
  have HM : Hid (midV f zs = if (trm f zs).length = 0 then 0 else mn (trm f zs)) := Lib.hid (by
    unfold midV
    by_cases h0 : zs.length = 0
    · rw [if_pos h0, if_pos (by omega)]
    · rw [if_neg h0, if_neg (by omega)])
  have HB : Hid (midB zs = decide (0 < (trm f zs).length)) := Lib.hid (by unfold midB; rw [decide_eq_decide]; exact hp.symm)
  have hm2 : (trm f zs).length ≤ 1000 := by omega
  unfold PartPost at C1
  rw [HM.out, HB.out]
  clear h hp ht h64 h64' HM HB
  generalize trm f zs = l at *
  obtain ⟨n, hn⟩ : ∃ n, l.length = n := ⟨_, rfl⟩
  rw [hn] at C1 CM hm2 ⊢
  clear hn
  by_cases h0 : n = 0
  · subst h0
    go_enter Try.func25, Try.ntmps25
    go_wp2_with fail
    refine (C1.out).mono ?_; rintro e w1 ⟨ad1, cap1, rfl, hs, hB1⟩
    go_wp2_with fail
    go_ret2
    exact ⟨rfl, hB1⟩
  · rw [if_neg h0, decide_eq_true (show 0 < n by omega)]
    have h0' : ((n : Int) == 0) = false := beq_eq_false_iff_ne.2 (by omega)
    go_enter Try.func25, Try.ntmps25
    go_wp2_with fail
    refine (C1.out).mono ?_; rintro e w1 ⟨ad1, cap1, rfl, hs, hB1⟩
    have CM1 := Lib.hid (CM.out w1 ad1 cap1 hs (by omega) hm2)
    clear hs C1 CM
    go_wp2_with fail
    refine (CM1.out).mono ?_; rintro e w' ⟨rfl, rfl⟩
    go_wp2_with fail
    go_ret2
    exact ⟨rfl, hB1⟩
theorem rdiv_pos (a b : Int) (ha : -9223372036854775808 ≤ a ∧ a ≤ 9223372036854775807) (hb : 0 < b ∧ b ≤ 9223372036854775807) (w : World) :
    Calls Try.prog 32 #[.int .i64 a, .int .i64 b] w fun e w' => e = .returned (.tuple #[.int .i64 (a / b), .bool true]) ∧ w = w' := by
  have h := Span.rdiv_any a b ha (by omega) w
  have e1 : a.fdiv b = a / b := Int.fdiv_eq_ediv_of_nonneg a (by omega)
  have hbd := Math.fdiv_bd a b ha (by omega) (by omega)
  have hf := Span.fit_yes (a.fdiv b) hbd
  have v : Span.divV a b = a / b := by unfold Span.divV; rw [if_neg (by omega), hf.1, e1]
  have b' : Span.divB a b = true := by unfold Span.divB; rw [if_neg (by omega), hf.2]
  rwa [v, b'] at h
theorem lo_wrap (x z h : Int) (h1 : -9223372036854775808 ≤ x + (z - h * 4294967296)) (h2 : x + (z - h * 4294967296) ≤ 9223372036854775807) : wrap64 (wrap64 (x + z) - h * 4294967296) = x + (z - h * 4294967296) := by
  unfold wrap64
  omega
theorem rtmid_any (f : Int) (ad : Option Addr) (cap : Nat) (zs : List Int) (w : World) (h : Sl w ad cap zs) (hm : zs.length ≤ 1000) (h64 : In64 zs) :
    Calls Try.prog 26 #[.int .i64 f, .slice ad zs.length cap] w fun e w' => e = .returned (.tuple #[.int .i64 (midV f zs), .bool (midB zs)]) ∧ Below w.heap.size w w' := by
  have C1 := Lib.hid (rttrim_any f ad cap zs w h hm)
  have hp := trm_pos f zs
  have ht := trm_len f zs
  have h64' := trm_64 h64 f
  have CD := Lib.hid (fun a b ha hb W => rdiv_pos a b ha hb W)
  have HM : Hid (midV f zs = if (trm f zs).length = 0 then 0 else mn (trm f zs)) := Lib.hid (by
    unfold midV
    by_cases h0 : zs.length = 0
    · rw [if_pos h0, if_pos (by omega)]
    · rw [if_neg h0, if_neg (by omega)])
  have HB : Hid (midB zs = decide (0 < (trm f zs).length)) := Lib.hid (by unfold midB; rw [decide_eq_decide]; exact hp.symm)
  have hm2 : (trm f zs).length ≤ 1000 := by omega
  unfold PartPost at C1
  rw [HM.out, HB.out]
  clear h hp ht h64 HM HB
  generalize trm f zs = l at *
  obtain ⟨n, hn⟩ : ∃ n, l.length = n := ⟨_, rfl⟩
  rw [hn] at C1 hm2 ⊢
  by_cases h0 : n = 0
  · subst h0
    clear hn
    go_enter Try.func26, Try.ntmps26
    go_wp2_with fail
    refine (C1.out).mono ?_; rintro e w1 ⟨ad1, cap1, rfl, hs, hB1⟩
    go_wp2_with fail
    go_ret2
    exact ⟨rfl, hB1⟩
  · rw [if_neg h0, decide_eq_true (show 0 < n by omega)]
    have h0' : ((n : Int) == 0) = false := beq_eq_false_iff_ne.2 (by omega)
    have HV := Lib.hid (fun k (hk : k < n) => h64'.at (k := k) (by omega))
    have HT := Lib.hid (fun k (hk : k < n) => I64s.take_succ' (zs := l) (k := k) (by omega))
    have HH := Lib.hid (fun k (hk : k ≤ n) => show -2147483648000 ≤ hs (l.take k) ∧ hs (l.take k) ≤ 2147483647000 by
      have h := hs_bd (l.take k) (by rw [List.length_take]; omega) (h64'.take k)
      rw [List.length_take] at h
      omega)
    have HHn : Hid (-2147483648 * (n : Int) ≤ hs l ∧ hs l ≤ 2147483647 * (n : Int)) := Lib.hid (by
      have h := hs_bd l (by omega) h64'
      rw [hn] at h
      omega)
    have HLs := Lib.hid (fun k (hk : k ≤ n) => show 0 ≤ ls (l.take k) ∧ ls (l.take k) ≤ 4294967295000 by
      have h := ls_bd (l.take k) (by rw [List.length_take]; omega)
      rw [List.length_take] at h
      omega)
    have HF : Hid (l.take n = l) := Lib.hid (by rw [← hn]; exact List.take_length)
    have HM := Lib.hid (mn_hs l (n : Int) (by rw [hn]) (by omega))
    have HMB := Lib.hid (show -9223372036854775808 ≤ mn l ∧ mn l ≤ 9223372036854775807 from mn_bd l _ _ (by omega) h64')
    have HA : Hid (∀ W ad cap, Sl W ad cap l → ∀ k, k < n → ∃ b off, ad = some ⟨b, off, none⟩ ∧ ∀ V, Below W.heap.size W V → V.cell? ⟨b, off + k, none⟩ = some (.int .i64 (l.getD k 0))) := Lib.hid (fun W ad cap h k hk => h.at (by omega))
    generalize mn l = v at *
    clear h64' hn
    go_enter Try.func26, Try.ntmps26
    go_wp2_with fail
    refine (C1.out).mono ?_; rintro e w1 ⟨ad1, cap1, rfl, hs1, hB1⟩
    have HA1 := Lib.hid (HA.out w1 ad1 cap1 hs1)
    clear hs1 HA C1
    go_wp2_with fail
    go_loopw [7, 8, 10] (fun p q i wr => ∃ k : Nat, k ≤ n ∧ i = .int .i64 k ∧ p = .int .i64 (hs (l.take k)) ∧ q = .int .i64 (ls (l.take k)) ∧ Hid (Below w1.heap.size w1 wr)) (fun _ _ i _ => n - (intOf i).toNat)
    case atStart => exact ⟨0, Nat.zero_le _, rfl, rfl, rfl, Lib.hid (Below.refl _ _)⟩
    case round =>
      obtain ⟨k, hk, rfl, rfl, rfl, HW⟩ := hrel
      by_cases hlt : k < n
      · obtain ⟨b, off, rfl, hc⟩ := HA1.out k hlt
        obtain ⟨v0, v1⟩ := HV.out k hlt
        have hc2 := hc wr HW.out
        have HT1 := Lib.hid (HT.out k hlt)
        obtain ⟨q0, q1⟩ := HH.out (k + 1) hlt
        obtain ⟨r0, r1⟩ := HLs.out (k + 1) hlt
        rw [HT1.out, hs_snoc] at q0 q1
        rw [HT1.out, ls_snoc] at r0 r1
        obtain ⟨q2, q3⟩ := HH.out k hk
        obtain ⟨r2, r3⟩ := HLs.out k hk
        generalize l.getD k 0 = z at *
        obtain ⟨t1, ht1⟩ : ∃ t1, hs (l.take k) = t1 := ⟨_, rfl⟩
        obtain ⟨t2, ht2⟩ : ∃ t2, ls (l.take k) = t2 := ⟨_, rfl⟩
        have HX : Hid (hs (l.take (k + 1)) = t1 + z / 4294967296 ∧ ls (l.take (k + 1)) = t2 + (z - z / 4294967296 * 4294967296)) := Lib.hid (by rw [HT1.out, hs_snoc, ls_snoc, ht1, ht2]; exact ⟨rfl, rfl⟩)
        rw [ht1] at q0 q1 q2 q3 ⊢
        rw [ht2] at r0 r1 r2 r3 ⊢
        have CDz := Lib.hid (CD.out z 4294967296 ⟨v0, v1⟩ (by omega))
        have HLW := Lib.hid (lo_wrap t2 z (z / 4294967296) (by omega) (by omega))
        have u0 : -2147483648 ≤ z / 4294967296 := by omega
        have u1 : z / 4294967296 ≤ 2147483647 := by omega
        generalize z / 4294967296 = u at *
        clear ht1 ht2 HT1 hc
        go_wp2_with fail
        refine (CDz.out _).mono ?_; rintro e w' ⟨rfl, rfl⟩
        go_upto_region 9 with fail
        go_quiet (fail)
        go_wp2_with fail
        go_roundw
        case rel => exact ⟨k + 1, by omega, by go_num, by rw [HX.out.1], by rw [HX.out.2, HLW.out], Lib.hid (Own.below_drewN HW.out _)⟩
        case measure => simp [intOf]; omega
      · obtain rfl : k = n := by omega
        have a := HHn.out
        have b := HLs.out k (Nat.le_refl _)
        have c := HMB.out
        have HM1 := Lib.hid HM.out
        rw [HF.out] at b ⊢
        generalize hs l = H at *
        generalize ls l = L at *
        obtain ⟨q, r, hr0, hr1, hqr, e0, e1, hv⟩ : ∃ q r : Int, 0 ≤ r ∧ r < (k : Int) ∧ H = q * (k : Int) + r ∧ -2147483648 ≤ q ∧ q ≤ 2147483647 ∧ H / (k : Int) = q := by
          have hk0 : (0 : Int) < (k : Int) := by omega
          refine ⟨H / (k : Int), H % (k : Int), Int.emod_nonneg H (by omega), Int.emod_lt_of_pos H hk0, ?_, (Int.le_ediv_iff_mul_le hk0).2 (by omega), ?_, rfl⟩
          · have := Int.mul_ediv_add_emod H (k : Int); rw [Int.mul_comm] at this; omega
          · have := Int.ediv_le_ediv hk0 a.2
            rwa [Int.mul_ediv_cancel _ (by omega)] at this
        have CD1 := Lib.hid (CD.out H (k : Int) (by omega) (by omega))
        have h1 : H - q * (k : Int) = r := by omega
        rw [hv] at HM1
        rw [hv] at CD1
        have CD2 := Lib.hid (CD.out ((H - q * (k : Int)) * 4294967296 + L) (k : Int) (by omega) (by omega))
        have f1 : H - q * (k : Int) ≤ 1000 := by omega
        have f2 : 0 ≤ H - q * (k : Int) := by omega
        have hq0 : -9223372036854775808 ≤ q * (k : Int) ∧ q * (k : Int) ≤ 9223372036854775807 := by omega
        clear hv hqr a h1
        generalize he : ((H - q * (k : Int)) * 4294967296 + L) / (k : Int) = s at *
        obtain ⟨c0, c1⟩ := c
        rw [← HM1.out] at c0 c1
        obtain ⟨hq0, hq1⟩ := hq0
        clear he CD HM HMB HH HHn HLs HF HV HT HA1
        go_wp2_with fail
        refine (CD1.out _).mono ?_; rintro e w' ⟨rfl, rfl⟩
        go_wp2_with fail
        refine (CD2.out _).mono ?_; rintro e w' ⟨rfl, rfl⟩
        go_wp2_with fail
        go_ret2
        exact ⟨by rw [HM1.out]; rfl, hB1.trans (HW.out.mono hB1.size)⟩
end Go.Proofs.Ytcadmepfnafpmaa.Trm
