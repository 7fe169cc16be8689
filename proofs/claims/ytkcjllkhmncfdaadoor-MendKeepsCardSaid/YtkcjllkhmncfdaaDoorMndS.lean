/- The statements' helper same of layer mend (27). -/
import Derived.Test.YtkcjllkhmncfdaaDoorI64A
import Derived.Deep.Cut
import Derived.BigQuiet
namespace Go.Proofs.YtkcjllkhmncfdaaDoor.Mnd
open Go.ChangeShapes Go.WideShapes Go.ChangeAt Go.RowKit
open I64s (In64 Sl OwnL ListPost app_one app_all)
set_option linter.unusedVariables false
/-- Two slices that read as the same list are the same. -/
theorem msame_yes (ad1 ad2 : Option Addr) (cap1 cap2 : Nat) (zs : List Int) (w : World) (h1 : Sl w ad1 cap1 zs) (h2 : Sl w ad2 cap2 zs) (hm : zs.length ≤ 1000) :
    Calls Tryd.prog 14 #[.slice ad1 zs.length cap1, .slice ad2 zs.length cap2] w fun e w' => e = .returned (.bool true) ∧ Below w.heap.size w w' := by
  obtain ⟨n, hn⟩ : ∃ n, zs.length = n := ⟨_, rfl⟩
  have HA := Lib.hid (fun k (hk : k < n) => h1.at (k := k) (by omega))
  have HB := Lib.hid (fun k (hk : k < n) => h2.at (k := k) (by omega))
  rw [hn] at hm ⊢
  clear h1 h2 hn
  go_enter Tryd.func14, Tryd.ntmps14
  go_wp2_with fail
  go_loopw [13] (fun i wr => ∃ k : Nat, k ≤ n ∧ i = .int .i64 k ∧ Hid (Below w.heap.size w wr)) (fun i _ => n - (intOf i).toNat)
  case atStart => exact ⟨0, Nat.zero_le _, rfl, Lib.hid (Below.refl _ _)⟩
  case round =>
    obtain ⟨k, hk, rfl, HW⟩ := hrel
    by_cases hlt : k < n
    · obtain ⟨b, off, rfl, hc⟩ := HA.out k hlt
      obtain ⟨b', off', rfl, hc'⟩ := HB.out k hlt
      have c1 := hc wr HW.out
      have c2 := hc' wr HW.out
      clear hc hc' HA HB
      generalize zs.getD k 0 = z at *
      go_upto_region 6 with fail
      go_quiet (fail)
      go_wp2_with fail
      go_roundw
      case rel => exact ⟨k + 1, by omega, by go_num, Lib.hid (Own.below_drewN HW.out _)⟩
      case measure => simp [intOf]; omega
    · obtain rfl : k = n := by omega
      go_wp2_with fail
      go_ret
      exact ⟨rfl, HW.out⟩
end Go.Proofs.YtkcjllkhmncfdaaDoor.Mnd
