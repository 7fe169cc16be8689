/- Contracts of package burst (layer 15): where bytes differ, whether by a burst, and how wide bits are. -/
import Derived.Test.YtpibmppolnfckaaDoorBstA
import Derived.Test.YtpibmppolnfckaaDoorBstC
import Derived.Deep.RegionHeldLaw
namespace Go.Proofs.YtpibmppolnfckaaDoor.Bst
open Go.ChangeShapes Go.WideShapes Go.ChangeAt Go.RowKit
open Go.Proofs.YtpibmppolnfckaaDoor.Byt
open Go.Proofs.YtpibmppolnfckaaDoor.Crc (turnB turnB_len xor_u8)
set_option linter.unusedVariables false
theorem tz8_any (u : Nat) (hu : u < 256) (w : World) :
    Calls Tryd.prog 18 #[.int .u8 u] w fun e w' => e = .returned (.int .i64 (Go.Lib.trailingZeros8 u : Nat)) ∧ w = w' :=
  (Tryd.bits_TrailingZeros8 (u : Int) w (by omega) (by omega)).mono fun e w' ⟨he, hw⟩ => ⟨by rw [he, Int.toNat_natCast], hw.symm⟩
theorem len8_any (u : Nat) (hu : u < 256) (w : World) :
    Calls Tryd.prog 19 #[.int .u8 u] w fun e w' => e = .returned (.int .i64 (Go.Lib.bitLen u : Nat)) ∧ w = w' :=
  (Tryd.bits_Len8 (u : Int) w (by omega) (by omega)).mono fun e w' ⟨he, hw⟩ => ⟨by rw [he, Int.toNat_natCast], hw.symm⟩
theorem len32_any (u : Nat) (hu : u < 4294967296) (w : World) :
    Calls Tryd.prog 21 #[.int .u32 u] w fun e w' => e = .returned (.int .i64 (Go.Lib.bitLen u : Nat)) ∧ w = w' :=
  (Tryd.bits_Len32 (u : Int) w (by omega) (by omega)).mono fun e w' ⟨he, hw⟩ => ⟨by rw [he, Int.toNat_natCast], hw.symm⟩
theorem width_any (x : Nat) (hx : x < 4294967296) (w : World) (hT : TabZ w) :
    Calls Tryd.prog 14 #[.int .u32 x] w fun e w' => e = .returned (.int .i64 (widB x : Nat)) ∧ w = w' := by
  have C1 := Lib.hid (tz32_any x hx w hT)
  have C2 := Lib.hid (len32_any (x / 2 ^ Go.Lib.ctz 32 x) (by have := Nat.div_le_self x (2 ^ Go.Lib.ctz 32 x); omega) w)
  rw [← widB] at C2
  have e1 : ((x / 2 ^ Go.Lib.ctz 32 x : Nat) : Int) = (x : Int) / 2 ^ min (Go.Lib.ctz 32 x) 32 := by
    have hc : Go.Lib.ctz 32 x ≤ 32 := by
      unfold Go.Lib.ctz
      by_cases h0 : x = 0
      · rw [if_pos h0]; exact Nat.le_refl _
      · rw [if_neg h0]
        obtain ⟨_, _, h⟩ := Go.Lib.ctzFrom_spec 32 x (by omega) hx
        omega
    rw [Nat.min_eq_left hc]; simp
  rw [e1] at C2
  generalize widB x = v at *
  generalize Go.Lib.ctz 32 x = c at *
  clear e1 hT
  go_enter Tryd.func14, Tryd.ntmps14
  go_wp2_with fail
  refine (C1.out).mono ?_; rintro e w' ⟨rfl, rfl⟩
  go_wp2_with fail
  refine (C2.out).mono ?_; rintro e w' ⟨rfl, rfl⟩
  go_wp2_with fail
  go_ret
  exact ⟨rfl, rfl⟩
/-- What Differ tells. -/
def dF (l m : List UInt8) : Nat := if l.length = m.length then fst (difs l m (8 * l.length)) else 0
def dW (l m : List UInt8) : Nat := if l.length = m.length then wid (difs l m (8 * l.length)) else 0
def DifPost (l m : List UInt8) (w : World) (e : Ending) (w' : World) : Prop :=
  e = .returned (.tuple #[.int .i64 (dF l m : Nat), .int .i64 (dW l m : Nat), .bool (decide (l.length = m.length))]) ∧ Below w.heap.size w w'
set_option maxRecDepth 100000 in
set_option maxHeartbeats 1000000 in
theorem differ_any (a b : Option Addr) (n1 c1 n2 c2 : Nat) (l m : List UInt8) (w : World) (h1 : l.length = n1) (h2 : m.length = n2) (hm : n1 ≤ 1000000) (hm2 : n2 ≤ 1000000) (hr1 : RdB w a l) (hr2 : RdB w b m) :
    Calls Tryd.prog 11 #[.slice a n1 c1, .slice b n2 c2] w (DifPost l m w) := by
  by_cases hn : n1 = n2
  · subst hn
    have HP : Hid (∀ w' (f e : Nat), f = fst (difs l m (8 * n1)) → e = lst (difs l m (8 * n1)) → Below w.heap.size w w' → DifPost l m w (.returned (.tuple #[.int .i64 f, .int .i64 ((e : Int) - (f : Int)), .bool true])) w') := Lib.hid (fun w' f e hf he hB => by
      refine ⟨?_, hB⟩
      have hle := fst_le_lst (up_difs l m (8 * n1))
      unfold dF dW wid
      rw [if_pos (by omega), if_pos (by omega), h1, decide_eq_true (by omega), hf, he]
      congr 4
      simp only [List.cons.injEq, Value.int.injEq, true_and, and_true]
      omega)
    generalize DifPost l m w = POST at *
    have H1 := Lib.hid h1
    have H2 := Lib.hid h2
    have R1 := Lib.hid hr1
    have R2 := Lib.hid hr2
    have CT := Lib.hid tz8_any
    have CL := Lib.hid len8_any
    clear h1 h2 hr1 hr2
    go_enter Tryd.func11, Tryd.ntmps11
    go_wp2_with fail
    go_loopw [4, 7, 17] (fun f e i wr => ∃ (k fn en : Nat), k ≤ n1 ∧ i = .int .i64 k ∧ f = .int .i64 fn ∧ e = .int .i64 en ∧ Hid (fn = fst (difs l m (8 * k))) ∧ Hid (en = lst (difs l m (8 * k))) ∧ fn ≤ 8000000 ∧ en ≤ 8000000 ∧ Hid (Below w.heap.size w wr)) (fun _ _ i _ => n1 - (intOf i).toNat)
    case atStart => exact ⟨0, 0, 0, Nat.zero_le _, rfl, rfl, rfl, Lib.hid rfl, Lib.hid rfl, by omega, by omega, Lib.hid (Below.refl _ _)⟩
    case round =>
      obtain ⟨k, fn, en, hk, rfl, rfl, rfl, hfn, hen, hf8, he8, hB⟩ := hrel
      by_cases hlt : k < n1
      · have r1 := R1.out.below hB.out
        have r2 := R2.out.below hB.out
        obtain ⟨b1, o1, rfl, k1⟩ := r1.at (k := k) (by rw [H1.out]; exact hlt)
        obtain ⟨b2, o2, rfl, k2⟩ := r2.at (k := k) (by rw [H2.out]; exact hlt)
        obtain ⟨u, hu⟩ : ∃ u, Hid ((l.getD k 0).toNat ^^^ (m.getD k 0).toNat = u) := ⟨_, Lib.hid rfl⟩
        have hu8 : u < 256 := by rw [← hu.out]; exact Nat.xor_lt_two_pow (n := 8) (l.getD k 0).toNat_lt (m.getD k 0).toNat_lt
        have HX := Lib.hid (xor_u8 _ _ (l.getD k 0).toNat_lt (m.getD k 0).toNat_lt)
        rw [hu.out] at HX
        have hx1 := (l.getD k 0).toNat_lt
        have hx2 := (m.getD k 0).toNat_lt
        have HS := Lib.hid (difs_same l m k u hu.out)
        have HM := Lib.hid (fun h => difs_more l m k u hu.out h hu8)
        generalize (l.getD k 0).toNat = x at *
        generalize (m.getD k 0).toNat = y at *
        clear hu r1 r2
        go_upto_region 7 with fail
        go_region
        rw [HX.out]
        have hBd := Lib.hid hB.out.drew
        generalize wr.drew = wd at *
        clear hx1 hx2 HX hB k1 k2
        by_cases hu0 : u = 0
        · have HS' := Lib.hid (HS.out hu0)
          subst hu0
          go_wp2_with fail
          go_roundw
          case rel => exact ⟨k + 1, fn, en, by omega, by go_num, rfl, rfl, Lib.hid (by rw [HS'.out]; exact hfn.out), Lib.hid (by rw [HS'.out]; exact hen.out), hf8, he8, hBd⟩
          case measure => simp [intOf]; omega
        · have hu1 : ((u : Int) == 0) = false := by simp; omega
          obtain ⟨g1, g2⟩ := HM.out hu0
          have t8 : Go.Lib.trailingZeros8 u ≤ 8 := Go.Lib.trailingZeros8_le8 ⟨u, hu8⟩
          have l8 : Go.Lib.bitLen u ≤ 8 := Go.Lib.bitLen_le8 ⟨u, hu8⟩
          rw [← hen.out, ← hfn.out] at g1
          have CT1 := Lib.hid (CT.out u hu8 wd)
          have CL1 := Lib.hid (CL.out u hu8 wd)
          generalize Go.Lib.trailingZeros8 u = tz at *
          generalize Go.Lib.bitLen u = bl at *
          have G2 := Lib.hid g2
          clear HS HM g2 hu0 CT CL
          by_cases he0 : en = 0
          · rw [if_pos he0] at g1
            have G1 := Lib.hid g1
            subst he0
            clear g1 hen
            go_wp2_with fail
            refine (CT1.out).mono ?_; rintro e w' ⟨rfl, rfl⟩
            go_wp2_with fail
            refine (CL1.out).mono ?_; rintro e w' ⟨rfl, rfl⟩
            go_wp2_with fail
            go_roundw
            case rel => exact ⟨k + 1, 8 * k + tz, 8 * k + bl, by omega, by go_num, by go_num, by go_num, Lib.hid G1.out.symm, Lib.hid G2.out.symm, by omega, by omega, hBd⟩
            case measure => simp [intOf]; omega
          · rw [if_neg he0] at g1
            have G1 := Lib.hid g1
            have he1 : ((en : Int) == 0) = false := by simp; omega
            clear g1 hen he0
            go_wp2_with fail
            refine (CL1.out).mono ?_; rintro e w' ⟨rfl, rfl⟩
            go_wp2_with fail
            go_roundw
            case rel => exact ⟨k + 1, fn, 8 * k + bl, by omega, by go_num, rfl, by go_num, Lib.hid G1.out.symm, Lib.hid G2.out.symm, hf8, by omega, hBd⟩
            case measure => simp [intOf]; omega
      · obtain rfl : k = n1 := by omega
        have HR := Lib.hid (HP.out wr fn en hfn.out hen.out hB.out)
        clear HP
        go_wp2_with fail
        first | exact HR.out | (go_ret3; exact HR.out)
  · have HP : Hid (DifPost l m w (.returned (.tuple #[.int .i64 0, .int .i64 0, .bool false])) w) := Lib.hid (by
      refine ⟨?_, Below.refl _ _⟩
      unfold dF dW
      rw [if_neg (by omega), if_neg (by omega), decide_eq_false (by omega)]
      rfl)
    have hd : ((n1 : Int) != (n2 : Int)) = true := by simp; omega
    generalize DifPost l m w = POST at *
    clear hr1 hr2 h1 h2 hn
    go_enter Tryd.func11, Tryd.ntmps11
    go_wp2_with fail
    first | exact HP.out | (go_ret3; exact HP.out)
end Go.Proofs.YtpibmppolnfckaaDoor.Bst
