/- Contracts of package trim (layer 24) and of the document's own answers for it: how many are left out; means. -/
import Derived.Test.YtkcjllkhmncfdaaDoorTrmM
import Derived.Test.YtkcjllkhmncfdaaDoorI64A
namespace Go.Proofs.YtkcjllkhmncfdaaDoor.Trm
open Go.ChangeShapes Go.WideShapes Go.ChangeAt Go.RowKit
open I64s (In64 Sl)
set_option linter.unusedVariables false
theorem ret_i {k : IntKind} {a b : Int} (h : a = b) : Ending.returned (.int k a) = .returned (.int k b) := by rw [h]
theorem tfault_any (m f : Int) (hm : -9223372036854775808 ≤ m ∧ m ≤ 9223372036854775807) (w : World) :
    Calls Tryd.prog 28 #[.int .i64 m, .int .i64 f] w fun e w' => e = .returned (.int .i64 ((fa m.toNat f : Nat) : Int)) ∧ w = w' := by
  by_cases h1 : m < 1
  · have e : ((fa m.toNat f : Nat) : Int) = 0 := by unfold fa; rw [if_pos (.inl (by omega))]; rfl
    rw [e]
    go_enter Tryd.func28, Tryd.ntmps28
    go_wp2_with fail
    all_goals (go_ret; exact ⟨rfl, rfl⟩)
  · have d1 : decide (m < 1) = false := decide_eq_false h1
    by_cases h2 : f < 1
    · have e : ((fa m.toNat f : Nat) : Int) = 0 := by unfold fa; rw [if_pos (.inr h2)]; rfl
      rw [e]
      have d2 : decide (f < 1) = true := decide_eq_true h2
      go_enter Tryd.func28, Tryd.ntmps28
      go_wp2_with fail
      all_goals (go_ret; exact ⟨rfl, rfl⟩)
    · have d2 : decide (f < 1) = false := decide_eq_false h2
      have e : Hid (((fa m.toNat f : Nat) : Int) = min f ((m - 1) / 2)) := Lib.hid (by
        unfold fa; rw [if_neg (by omega)]; omega)
      generalize ((fa m.toNat f : Nat) : Int) = v at *
      go_enter Tryd.func28, Tryd.ntmps28
      go_wp2_with fail
      all_goals (go_ret; exact ⟨ret_i (by have := e.out; omega), rfl⟩)

theorem fault_nat (n : Nat) (f : Int) (hn : n ≤ 1000000) (w : World) :
    Calls Tryd.prog 28 #[.int .i64 (n : Int), .int .i64 f] w fun e w' => e = .returned (.int .i64 ((fa n f : Nat) : Int)) ∧ w = w' := by
  have := tfault_any (n : Int) f (by omega) w
  rwa [Int.toNat_natCast] at this
theorem tdown_any (x : Int) (n : Nat) (hn : 0 < n) (hm : n ≤ 1000) (hx : -1000000 ≤ x ∧ x ≤ 1000000) (w : World) :
    Calls Tryd.prog 30 #[.int .i64 x, .int .i64 (n : Int)] w fun e w' => e = .returned (.int .i64 (x / (n : Int))) ∧ w = w' := by
  have h0 : (n : Int) ≠ 0 := by omega
  have hd := Lib.hid (down_of (x := x) (n := (n : Int)) (by omega))
  have hq := Lib.hid (Int.mul_tdiv_add_tmod x (n : Int))
  have a1 := Int.tmod_lt_of_pos x (show (0 : Int) < (n : Int) by omega)
  have a2 := Int.lt_tmod_of_pos x (show (0 : Int) < (n : Int) by omega)
  have a3 : -1000000 ≤ x.tdiv (n : Int) ∧ x.tdiv (n : Int) ≤ 1000000 := by
    have h3 : (x.tdiv (n : Int)).natAbs ≤ x.natAbs := by rw [Int.natAbs_tdiv]; exact Nat.div_le_self _ _
    omega
  obtain ⟨a3, a4⟩ := a3
  obtain ⟨q, eq⟩ : ∃ q, x.tdiv (n : Int) = q := ⟨_, rfl⟩
  obtain ⟨r, er⟩ : ∃ r, x.tmod (n : Int) = r := ⟨_, rfl⟩
  rw [eq, er] at hd hq
  rw [eq] at a3 a4
  rw [er] at a1 a2
  generalize x / (n : Int) = v at *
  by_cases hr : r < 0
  · have d1 : decide (r < 0) = true := decide_eq_true hr
    go_enter Tryd.func30, Tryd.ntmps30
    go_wp2_with fail
    go_ret
    exact ⟨ret_i (by have := hd.out; rw [if_pos hr] at this; omega), rfl⟩
  · have d1 : decide (r < 0) = false := decide_eq_false hr
    go_enter Tryd.func30, Tryd.ntmps30
    go_wp2_with fail
    go_ret
    exact ⟨ret_i (by have := hd.out; rw [if_neg (by omega)] at this; omega), rfl⟩
theorem tmean_any (ad : Option Addr) (cap : Nat) (zs : List Int) (w : World) (h : Sl w ad cap zs) (h0 : 0 < zs.length) (hm : zs.length ≤ 1000) (h64 : In64 zs) :
    Calls Tryd.prog 25 #[.slice ad zs.length cap] w fun e w' => e = .returned (.int .i64 (mn zs)) ∧ w = w' := by
  obtain ⟨n, hn⟩ : ∃ n, zs.length = n := ⟨_, rfl⟩
  have HL := Lib.hid hn
  have HA := Lib.hid (fun k (hk : k < n) => h.rd.at (k := k) (by omega))
  have HV := Lib.hid (fun k (hk : k < n) => h64.at (k := k) (by omega))
  have HT := Lib.hid (fun k (hk : k < n) => I64s.take_succ' (zs := zs) (k := k) (by omega))
  have HQ := Lib.hid (fun k (hk : k ≤ n) => qs_bd (zs.take k) n (by rw [List.length_take]; omega) (by omega) (h64.take k))
  have HR := Lib.hid (fun k (hk : k ≤ n) => rs_bd (zs.take k) n (by rw [List.length_take]; omega) (by omega) (by omega))
  have HM := Lib.hid (mn_qs zs n hn (by omega))
  have HB := Lib.hid (show -9223372036854775808 ≤ mn zs ∧ mn zs ≤ 9223372036854775807 from mn_bd zs _ _ h0 h64)
  have CD := Lib.hid (fun x (hx : -1000000 ≤ x ∧ x ≤ 1000000) W => tdown_any x n (by omega) (by omega) hx W)
  have HF : Hid (zs.take n = zs) := Lib.hid (by rw [← hn]; exact List.take_length)
  have hne : (n : Int) ≠ 0 := by omega
  rw [hn] at h0 hm ⊢
  generalize mn zs = v at *
  clear h h64 hn
  go_enter Tryd.func25, Tryd.ntmps25
  go_wp2_with fail
  go_loopw [4, 5, 12] (fun q r i wr => ∃ k : Nat, k ≤ n ∧ i = .int .i64 k ∧ q = .int .i64 (qs (zs.take k) n) ∧ r = .int .i64 (rs (zs.take k) n) ∧ wr = w) (fun _ _ i _ => n - (intOf i).toNat)
  case atStart => exact ⟨0, Nat.zero_le _, rfl, rfl, rfl, rfl⟩
  case round =>
    obtain ⟨k, hk, rfl, rfl, rfl, rfl⟩ := hrel
    by_cases hlt : k < n
    · obtain ⟨b, off, rfl, hc⟩ := HA.out k hlt
      obtain ⟨v0, v1⟩ := HV.out k hlt
      have HT1 := Lib.hid (HT.out k hlt)
      obtain ⟨q0, q1⟩ := HQ.out (k + 1) hlt
      obtain ⟨r0, r1⟩ := HR.out (k + 1) hlt
      rw [HT1.out, qs_snoc] at q0 q1
      rw [HT1.out, rs_snoc] at r0 r1
      generalize zs.getD k 0 = z at *
      obtain ⟨t1, ht1⟩ : ∃ t1, qs (zs.take k) n = t1 := ⟨_, rfl⟩
      obtain ⟨t2, ht2⟩ : ∃ t2, rs (zs.take k) n = t2 := ⟨_, rfl⟩
      have HX : Hid (qs (zs.take (k + 1)) n = t1 + z.tdiv n ∧ rs (zs.take (k + 1)) n = t2 + z.tmod n) := Lib.hid (by rw [HT1.out, qs_snoc, rs_snoc, ht1, ht2]; exact ⟨rfl, rfl⟩)
      rw [ht1] at q0 q1 ⊢
      rw [ht2] at r0 r1 ⊢
      clear ht1 ht2 HT1
      go_wp2_with fail
      go_roundw
      case rel => exact ⟨k + 1, by omega, by go_num, congrArg _ HX.out.1.symm, congrArg _ HX.out.2.symm, trivial⟩
      case measure => simp [intOf]; omega
    · obtain rfl : k = n := by omega
      have r := HR.out k (Nat.le_refl _)
      have b := HB.out
      rw [HF.out] at r ⊢
      have CDx := Lib.hid (CD.out _ r)
      have HM1 := Lib.hid HM.out
      generalize qs zs k = t1 at *
      generalize rs zs k = t2 at *
      generalize t2 / (k : Int) = t3 at *
      obtain ⟨b0, b1⟩ := b
      rw [← HM1.out] at b0 b1
      clear r
      go_wp2_with fail
      refine (CDx.out _).mono ?_; rintro e w' ⟨rfl, rfl⟩
      go_wp2_with fail
      go_ret
      exact ⟨ret_i HM1.out, rfl⟩
end Go.Proofs.YtkcjllkhmncfdaaDoor.Trm
