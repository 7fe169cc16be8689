/- Contracts of package crc (layer 4): a matrix that moves sums. -/
import Derived.Test.YtgacljanapmnfaaDoorCrcB
import Derived.Test.YtgacljanapmnfaaDoorCrcQ
import Derived.Shelf.Spec.TrailingZeros
import Derived.Deep.MidRow
namespace Go.Proofs.YtgacljanapmnfaaDoor.Crc
open Go.ChangeShapes Go.WideShapes Go.ChangeAt Go.RowKit
open Go.Proofs.YtgacljanapmnfaaDoor.Byt
set_option linter.unusedVariables false
def lays28_ren : Go.Shelf.Ren := ⟨fun | 28 => 26 | n => n, fun | 0 => 0 | 3 => 3 | 4 => 4 | 5 => 5 | 25 => 38 | 27 => 24 | 53 => 46 | n => n, fun | 0 => 1 | n => n⟩
theorem lays28 : Go.Proofs.Lays7.n28 Tryd.prog lays28_ren := {
  mixed := by kernel_rfl
  f28 := Tryd.func26.trans (congrArg some (by kernel_rfl))
  t0 := Tryd.underlying0
  a0 := Tryd.isAgg0
  z0 := Tryd.sizeOf0
  v0 := Tryd.zeroValue0
  i0 := by kernel_rfl
  t3 := Tryd.underlying3
  a3 := Tryd.isAgg3
  z3 := Tryd.sizeOf3
  v3 := Tryd.zeroValue3
  i3 := by kernel_rfl
  t4 := Tryd.underlying4
  a4 := Tryd.isAgg4
  z4 := Tryd.sizeOf4
  v4 := Tryd.zeroValue4
  i4 := by kernel_rfl
  t5 := Tryd.underlying5
  a5 := Tryd.isAgg5
  z5 := Tryd.sizeOf5
  v5 := Tryd.zeroValue5
  i5 := by kernel_rfl
  t25 := Tryd.underlying38
  a25 := Tryd.isAgg38
  z25 := Tryd.sizeOf38
  v25 := Tryd.zeroValue38
  i25 := by kernel_rfl
  t27 := Tryd.underlying24
  a27 := Tryd.isAgg24
  z27 := Tryd.sizeOf24
  v27 := Tryd.zeroValue24
  i27 := by kernel_rfl
  t53 := Tryd.underlying46
  a53 := Tryd.isAgg46
  z53 := Tryd.sizeOf46
  v53 := by intro w; kernel_rfl
  i53 := by kernel_rfl
  g0 := by kernel_rfl }
/-- The library's table in its variable, and that the variable lies below the heap's end. -/
def TabZ (w : World) : Prop := TabAt 1 Go.Lib.deBruijn32tab w ∧ 1 < w.heap.size
theorem TabZ.below {w w' : World} (h : TabZ w) (hb : Below w.heap.size w w') : TabZ w' :=
  ⟨fun j hj => (hb.cell (p := ⟨1, j, none⟩) h.2).trans (h.1 j hj), Nat.lt_of_lt_of_le h.2 hb.size⟩
theorem tz32_any (s : Nat) (hs : s < 4294967296) (w : World) (hT : TabZ w) :
    Calls Tryd.prog 26 #[.int .u32 s] w fun e w' => e = .returned (.int .i64 (Go.Lib.ctz 32 s : Nat)) ∧ w = w' :=
  (Any7.bits_TrailingZeros32 lays28 s hs w (fun _ => hT.1)).mono fun e w' ⟨he, hw⟩ => ⟨he, hw.symm⟩
theorem and_u32 (a b : Nat) (ha : a < 4294967296) (hb : b < 4294967296) : Go.bits .and .u32 (a : Int) (b : Int) = ((a &&& b : Nat) : Int) := by
  have hx : a &&& b < 2 ^ 32 := Nat.and_lt_two_pow _ (by omega)
  show IntKind.u32.wrap ((BitVec.ofInt 32 (a : Int) &&& BitVec.ofInt 32 (b : Int)).toNat : Int) = _
  rw [BitVec.toNat_and, ofInt32 a ha, ofInt32 b hb, IntKind.wrap_u32]
  omega
/-- A matrix of the program's, its cells. -/
def matC (n : Nat) : Array Value := ((matN n).map fun x : Nat => Value.int .u32 (x : Int)).toArray
theorem matC_size (n : Nat) : (matC n).size = 32 := by simp [matC, matN_len]
theorem matC_at (n : Nat) {i : Nat} (h : i < 32) : (matC n)[i]? = some (.int .u32 ((feed (2 ^ i) (zs n) : Nat) : Int)) := by
  simp [matC, matN_at n h]
theorem matC_cell (w : World) (n : Nat) (t : TypeId) {i : Nat} (h : i < 32) : (w.alloc (.cells (matC n) t)).cell? ⟨w.heap.size, i, none⟩ = some (.int .u32 ((feed (2 ^ i) (zs n) : Nat) : Int)) := by
  have hh := heap_alloc_last w (.cells (matC n) t)
  simp only [World.cell?, hh]
  exact matC_at n h
set_option maxHeartbeats 1000000 in
theorem move_any (n s : Nat) (hs : s < 4294967296) (w : World) (hT : TabZ w) :
    Calls Tryd.prog 23 #[.agg (matC n), .int .u32 s] w fun e w' => e = .returned (.int .u32 ((feed s (zs n) : Nat) : Int)) ∧ Below w.heap.size w w' := by
  have HC : Hid (∀ i, i < 32 → (w.alloc (.cells (matC n) 41)).cell? ⟨w.heap.size, i, none⟩ = some (.int .u32 ((feed (2 ^ i) (zs n) : Nat) : Int))) := Lib.hid (fun i h => matC_cell w n _ h)
  have hB : Below w.heap.size w (w.alloc (.cells (matC n) 41)) := (Below.refl _ _).alloc (Nat.le_refl _) _
  have C : Hid (∀ q : Nat, q < 4294967296 → Calls Tryd.prog 26 #[.int .u32 q] (w.alloc (.cells (matC n) 41)) fun e w' => e = .returned (.int .i64 (Go.Lib.ctz 32 q : Nat)) ∧ w.alloc (.cells (matC n) 41) = w') := Lib.hid (fun q h => tz32_any q h _ (hT.below hB))
  generalize matC n = cs at *
  clear hT
  go_enter Tryd.func23, Tryd.ntmps23
  go_wp2_with fail
  go_loop [1, 5] (fun v m => ∃ q r : Nat, v = .int .u32 q ∧ m = .int .u32 r ∧ q < 4294967296 ∧ r < 4294967296 ∧ Hid (r ^^^ feed q (zs n) = feed s (zs n))) (fun v _ => (intOf v).toNat)
  case atStart => exact ⟨s, 0, rfl, rfl, hs, by omega, Lib.hid (Nat.zero_xor _)⟩
  case round =>
    obtain ⟨q, r, rfl, rfl, hq, hr, he⟩ := hrel
    by_cases h0 : q = 0
    · subst h0
      have HE := Lib.hid (show r = feed s (zs n) by have := he.out; rwa [feed_zero, Nat.xor_zero] at this)
      clear he
      go_wp2_with fail
      go_ret
      exact ⟨ret_int (by rw [HE.out]), hB⟩
    · obtain ⟨k1, k2, k3⟩ := low_split hq h0
      have hF := feed_low hq h0 n
      have hcell := HC.out _ k1
      have CC := Lib.hid (C.out q hq)
      have hl := feed_lt (s := 2 ^ Go.Lib.ctz 32 q) (zs n) (pow_lt k1)
      have HA := Lib.hid (and_u32 q (q - 1) hq (by omega))
      have hpos : (1 : Int) ≤ (q : Int) := by omega
      have hq1 : ((q - 1 : Nat) : Int) = (q : Int) - 1 := by omega
      rw [hq1] at HA
      have hne : ((q : Int) != 0) = true := bne_iff_ne.2 (by omega)
      generalize Go.Lib.ctz 32 q = c at *
      generalize feed (2 ^ c) (zs n) = x at *
      have HX := Lib.hid (xor_u32 r x hr hl)
      have HE := Lib.hid (show (r ^^^ x) ^^^ feed (q &&& (q - 1)) (zs n) = feed s (zs n) by rw [Nat.xor_assoc, ← hF]; exact he.out)
      have hrx : r ^^^ x < 4294967296 := Nat.xor_lt_two_pow (n := 32) hr hl
      have hqq : q &&& (q - 1) < 4294967296 := by omega
      clear k2 hF hq1 h0 he
      go_wp2_with fail
      refine (CC.out).mono ?_; rintro e w' ⟨rfl, rfl⟩
      go_wp2_with fail
      go_round
      case rel => exact ⟨q &&& (q - 1), r ^^^ x, by rw [HA.out], by rw [HX.out], hqq, hrx, HE⟩
      case measure => simp only [intOf]; rw [HA.out]; omega
end Go.Proofs.YtgacljanapmnfaaDoor.Crc
