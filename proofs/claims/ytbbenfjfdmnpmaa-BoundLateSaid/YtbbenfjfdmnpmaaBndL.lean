/- How late a message may be (layer 26): products and sums in 128 bits, of numbers that stay within 63. -/
import Derived.Test.YtbbenfjfdmnpmaaBndB
import Derived.Shelf.Bits.Mul64
import Derived.Laws.Externs
import Derived.Test.YtbbenfjfdmnpmaaQuiB
import Derived.Test.YtbbenfjfdmnpmaaRowB
import Derived.Deep.Cut
namespace Go.Proofs.Ytbbenfjfdmnpmaa.Bnd
open Go.ChangeShapes Go.WideShapes Go.ChangeAt Go.RowKit
set_option linter.unusedVariables false
def lays264_ren : Go.Shelf.Ren := ⟨fun | 264 => 45 | n => n, fun | 53 => 53 | 46 => 52 | n => n, fun | n => n⟩
theorem lays264 : Go.Proofs.Lays.n264 Try.prog lays264_ren := {
  mixed := by kernel_rfl
  f264 := Try.func45.trans (congrArg some (by kernel_rfl))
  t46 := Try.underlying52
  a46 := Try.isAgg52
  z46 := Try.sizeOf52
  v46 := Try.zeroValue52
  t53 := Try.underlying53
  a53 := Try.isAgg53
  z53 := Try.sizeOf53
  v53 := Try.zeroValue53 }
theorem bmul64_any (x y : Int) (x0 : 0 ≤ x) (x1 : x < 18446744073709551616) (y0 : 0 ≤ y) (y1 : y < 18446744073709551616) (z : Int) (hz : x * y = z) (h : z < 18446744073709551616) (w : World) :
    Calls Try.prog 45 #[.int .u64 x, .int .u64 y] w fun e w' => e = .returned (.tuple #[.int .u64 0, .int .u64 z]) ∧ w = w' := by
  obtain ⟨a, rfl⟩ := Int.eq_ofNat_of_zero_le x0
  obtain ⟨b, rfl⟩ := Int.eq_ofNat_of_zero_le y0
  have hab : a * b < 18446744073709551616 := by
    rw [← Int.natCast_mul] at hz
    omega
  refine (Any.bits_Mul64 lays264 a b (by omega) (by omega) w).mono fun e w' ⟨he, hw⟩ => ⟨?_, hw.symm⟩
  rw [he, Nat.div_eq_of_lt hab, Nat.mod_eq_of_lt hab, Int.natCast_mul, hz]
  rfl
theorem badd64 (x y s : Int) (x0 : 0 ≤ x) (y0 : 0 ≤ y) (hs : x + y = s) (h : s < 18446744073709551616) (w : World) :
    (callFunc 46 #[.int .u64 x, .int .u64 y, .int .u64 0]).run Try.prog w = .ok (.value (.tuple #[.int .u64 s, .int .u64 0])) w := by
  rw [run_callFunc_extern Try.func46 (by kernel_rfl) (by kernel_rfl) (by kernel_rfl) (e := add64Entry) (by kernel_rfl), run_add64 x y 0 (by omega) (by omega) (by omega) (by omega)]
  simp only [Result.andThen]
  have h1 : (x + y + 0) % 18446744073709551616 = s := by omega
  have h2 : (x + y + 0) / 18446744073709551616 = 0 := by omega
  rw [h1, h2]
/-- A number of 128 bits that is one of 63. -/
@[reducible] def wval (x : Int) : Value := .agg #[.int .u64 0, .int .u64 x]
theorem btimes_any (n x z : Int) (n0 : 0 ≤ n) (n1 : n ≤ 9223372036854775807) (x0 : 0 ≤ x) (x1 : x ≤ 9223372036854775807) (hz : n * x = z) (h : z ≤ 9223372036854775807) (w : World) :
    Calls Try.prog 36 #[.int .u64 n, .int .i64 x] w fun e w' => e = .returned (wval z) ∧ Below w.heap.size w w' := by
  have CM := Lib.hid (fun W => bmul64_any n x n0 (by omega) x0 (by omega) z hz (by omega) W)
  have hx : decide (x < 0) = false := decide_eq_false (by omega)
  have hw : IntKind.u64.wrap x = x := by simp only [IntKind.wrap_u64]; omega
  clear hz
  unfold wval
  go_enter Try.func36, Try.ntmps36
  go_wp2_with fail
  refine (CM.out _).mono ?_; rintro e w' ⟨rfl, rfl⟩
  go_wp2_with fail
  go_returns
  exact ⟨rfl, by go_grown⟩
theorem bplus_any (x y z : Int) (x0 : 0 ≤ x) (y0 : 0 ≤ y) (hz : x + y = z) (h : z ≤ 9223372036854775807) (w : World) :
    Calls Try.prog 37 #[wval x, wval y] w fun e w' => e = .returned (wval z) ∧ Below w.heap.size w w' := by
  have r1 := fun W => badd64 x y z x0 y0 hz (by omega) W
  have r2 := fun W => badd64 0 0 0 (by omega) (by omega) rfl (by omega) W
  clear hz
  unfold wval
  go_enter Try.func37, Try.ntmps37
  go_wp2_with fail
  go_returns
  exact ⟨rfl, by go_grown⟩
theorem bkept_any (x : Int) (x0 : 0 ≤ x) (x1 : x ≤ 9223372036854775807) (w : World) :
    Calls Try.prog 38 #[wval x] w fun e w' => e = .returned (.int .i64 x) ∧ Below w.heap.size w w' := by
  have hw : wrap64 x = x := by unfold wrap64; omega
  have hq : x / 9223372036854775808 = 0 := by omega
  unfold wval
  go_enter Try.func38, Try.ntmps38
  go_wp2_with fail
  go_ret
  exact ⟨rfl, by go_grown⟩
def lateV (m : Nm) (h t : Int) : Int := if 0 ≤ h ∧ h ≤ m.hops ∧ 0 ≤ t ∧ t ≤ 18300341342965825 then h * m.link + h * t + m.fast else 0
theorem tol_bd {h t : Int} (h0 : 0 ≤ h) (h1 : h ≤ 63) (t0 : 0 ≤ t) (t1 : t ≤ 18300341342965825) : 0 ≤ h * t ∧ h * t ≤ 1152921504606846975 :=
  ⟨Int.mul_nonneg h0 t0, by have := Int.mul_le_mul h1 t1 t0 (by omega : (0 : Int) ≤ 63); omega⟩
theorem linkh_bd {h l : Int} (h0 : 0 ≤ h) (h1 : h ≤ 63) (l0 : 0 ≤ l) (l1 : l ≤ 86016) : 0 ≤ h * l ∧ h * l ≤ 5419008 :=
  ⟨Int.mul_nonneg h0 l0, by have := Int.mul_le_mul h1 l1 l0 (by omega : (0 : Int) ≤ 63); omega⟩
set_option maxRecDepth 100000 in
set_option maxHeartbeats 4000000 in
theorem late_any (m : Nm) (h t : Int) (hm : m.hops ≤ 63) (hl : 0 ≤ m.link ∧ m.link ≤ 86016) (hf : 0 ≤ m.fast ∧ m.fast ≤ 1344) (w : World) :
    Calls Try.prog 18 #[nval m, .int .i64 h, .int .i64 t] w fun e w' => e = .returned (.int .i64 (lateV m h t)) ∧ Below w.heap.size w w' := by
  unfold lateV
  obtain ⟨m0, f, m2, l, m4, m5, m6, m7, m8, m9, m10, m11, m12, m13⟩ := m
  unfold nval ncells
  dsimp only at *
  have BE := Lib.hid (show Below w.heap.size w (w.alloc (.cells #[.int .i64 m0, .int .i64 f, .int .i64 m2, .int .i64 l, .int .i64 m4, .int .i64 m5, .int .i64 m6, .int .i64 m7, .int .i64 m8, .int .i64 m9, .int .i64 m10, .int .i64 m11, .int .i64 m12, .int .i64 m13] 26)) from (Below.refl _ _).alloc (Nat.le_refl _) _)
  by_cases k0 : 0 ≤ h
  rotate_left
  · rw [if_neg (by omega)]
    clear hl hf hm
    go_enter Try.func18, Try.ntmps18
    go_wp2_with fail
    go_ret
    exact ⟨rfl, BE.out⟩
  by_cases k1 : h ≤ m0
  rotate_left
  · rw [if_neg (by omega)]
    clear hl hf hm
    go_enter Try.func18, Try.ntmps18
    go_wp2_with fail
    go_ret
    exact ⟨rfl, BE.out⟩
  by_cases k2 : 0 ≤ t
  rotate_left
  · rw [if_neg (by omega)]
    clear hl hf hm
    go_enter Try.func18, Try.ntmps18
    go_wp2_with fail
    go_ret
    exact ⟨rfl, BE.out⟩
  by_cases k3 : t ≤ 18300341342965825
  rotate_left
  · rw [if_neg (by omega)]
    clear hl hf hm
    go_enter Try.func18, Try.ntmps18
    go_wp2_with fail
    go_ret
    exact ⟨rfl, BE.out⟩
  rw [if_pos ⟨k0, k1, k2, k3⟩]
  obtain ⟨l0, l1⟩ := hl
  obtain ⟨f0, f1⟩ := hf
  have p := linkh_bd k0 (show h ≤ 63 by omega) l0 l1
  have q := tol_bd k0 (show h ≤ 63 by omega) k2 k3
  have hw : IntKind.u64.wrap h = h := by simp only [IntKind.wrap_u64]; omega
  have C1 := Lib.hid (fun W => btimes_any h l (h * l) (by omega) (by omega) (by omega) (by omega) rfl (by omega) W)
  have C2 := Lib.hid (fun W => btimes_any h t (h * t) (by omega) (by omega) (by omega) (by omega) rfl (by omega) W)
  generalize h * l = x at *
  generalize h * t = y at *
  have C3 := Lib.hid (fun W => bplus_any x y (x + y) (by omega) (by omega) rfl (by omega) W)
  have C4 := Lib.hid (fun W => btimes_any 1 f f (by omega) (by omega) (by omega) (by omega) (by omega) (by omega) W)
  have C5 := Lib.hid (fun W => bplus_any (x + y) f (x + y + f) (by omega) (by omega) rfl (by omega) W)
  have C6 := Lib.hid (fun W => bkept_any (x + y + f) (by omega) (by omega) W)
  generalize x + y + f = z at *
  generalize x + y = u at *
  have HX : Hid (∀ W, Below (w.alloc (.cells #[.int .i64 m0, .int .i64 f, .int .i64 m2, .int .i64 l, .int .i64 m4, .int .i64 m5, .int .i64 m6, .int .i64 m7, .int .i64 m8, .int .i64 m9, .int .i64 m10, .int .i64 m11, .int .i64 m12, .int .i64 m13] 26)).heap.size (w.alloc (.cells #[.int .i64 m0, .int .i64 f, .int .i64 m2, .int .i64 l, .int .i64 m4, .int .i64 m5, .int .i64 m6, .int .i64 m7, .int .i64 m8, .int .i64 m9, .int .i64 m10, .int .i64 m11, .int .i64 m12, .int .i64 m13] 26)) W → W.cell? ⟨w.heap.size, 1, none⟩ = some (.int .i64 f) ∧ W.cell? ⟨w.heap.size, 3, none⟩ = some (.int .i64 l)) := Lib.hid (fun W hB =>
    have HK := Rw.Blk.below (Rw.Blk.new w _ _) hB
    ⟨HK.cell 1, HK.cell 3⟩)
  clear p q l0 l1 f0 f1 hm
  go_enter Try.func18, Try.ntmps18
  go_upto_region 4 with fail
  generalize (w.alloc (.cells #[.int .i64 m0, .int .i64 f, .int .i64 m2, .int .i64 l, .int .i64 m4, .int .i64 m5, .int .i64 m6, .int .i64 m7, .int .i64 m8, .int .i64 m9, .int .i64 m10, .int .i64 m11, .int .i64 m12, .int .i64 m13] 26)) = w1 at *
  have c1 : ∀ z : Qui.Cls w1, z.V.cell? ⟨w.heap.size, 1, none⟩ = some (.int .i64 f) := fun z => (HX.out _ z.lies).1
  have c3 : ∀ z : Qui.Cls w1, z.V.cell? ⟨w.heap.size, 3, none⟩ = some (.int .i64 l) := fun z => (HX.out _ z.lies).2
  refine Qui.wp_region_quiet_below (by kernel_rfl) (by kernel_rfl) ?_
  repeat (go_big_quiet_step (first | (with_reducible exact Qui.cls_below (C1.out _)) | (with_reducible exact Qui.cls_below (C2.out _)) | (with_reducible exact Qui.cls_below (C3.out _)) | (with_reducible exact Qui.cls_below (C4.out _)) | (with_reducible exact Qui.cls_below (C5.out _)) | (with_reducible exact Qui.cls_below (C6.out _))))
  refine wpQuiet_nil ?_
  intro _ hw'
  obtain ⟨zz, rfl⟩ := hw'
  have B9 := Lib.hid (BE.out.trans (zz.lies.mono BE.out.size))
  generalize zz.V = V at *
  clear c1 c3
  go_wp2_with fail
  go_ret
  exact ⟨rfl, B9.out⟩
end Go.Proofs.Ytbbenfjfdmnpmaa.Bnd
