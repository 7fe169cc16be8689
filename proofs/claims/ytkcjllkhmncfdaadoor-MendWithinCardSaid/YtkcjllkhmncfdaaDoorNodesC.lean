/- Contracts of package nodes (layer 3): how many there are, the least one, the first ones, how many are below a node. -/
import Derived.Test.YtkcjllkhmncfdaaDoorNodesB
import Derived.Test.YtkcjllkhmncfdaaDoorNodesP
import Derived.Shelf.Spec.TrailingZeros
namespace Go.Proofs.YtkcjllkhmncfdaaDoor.Nodes
open Go.ChangeShapes Go.WideShapes Go.ChangeAt Go.RowKit
set_option linter.unusedVariables false

theorem and_fact (x c : Nat) (k : Int) (hk : k = (c : Int)) (hx : x < 18446744073709551616) (hc : c < 18446744073709551616) : ∃ A : Nat, Hid (A = x &&& c) ∧ bits .and .u64 (x : Int) k = (A : Int) ∧ A ≤ c :=
  ⟨_, Lib.hid rfl, by rw [hk]; exact u64_and_nat x c hx hc, Nat.and_le_right⟩
theorem low7 (c : Nat) : bits .and .i64 (c : Int) 127 = ((c % 128 : Nat) : Int) := by
  show IntKind.i64.wrap ((BitVec.ofInt 64 (c : Int) &&& BitVec.ofInt 64 127).toNat : Int) = _
  rw [BitVec.toNat_and, show (BitVec.ofInt 64 127).toNat = 2 ^ 7 - 1 from by decide, Nat.and_two_pow_sub_one_eq_mod, BitVec.ofInt_natCast, BitVec.toNat_ofNat, IntKind.wrap_i64]
  omega
theorem ones_any (S : Nat) (hS : S < 18446744073709551616) (w : World) :
    Calls Tryd.prog 31 #[.int .u64 S] w fun e w' => e = .returned (.int .i64 ((mem S).length : Int)) ∧ w = w' := by
  obtain ⟨m1, m2, m3⟩ := mk8
  obtain ⟨A1, hA1, fA1, bA1⟩ := and_fact (S / 2) 6148914691236517205 6148914691236517205 rfl (by omega) (by omega)
  obtain ⟨A2, hA2, fA2, bA2⟩ := and_fact S 6148914691236517205 6148914691236517205 rfl hS (by omega)
  obtain ⟨B1, hB1, fB1, bB1⟩ := and_fact ((A1 + A2) / 4) 3689348814741910323 3689348814741910323 rfl (by omega) (by omega)
  obtain ⟨B2, hB2, fB2, bB2⟩ := and_fact (A1 + A2) 3689348814741910323 3689348814741910323 rfl (by omega) (by omega)
  obtain ⟨Y, hY, fY, bY⟩ := and_fact ((B1 + B2) / 16 + (B1 + B2)) 1085102592571150095 1085102592571150095 rfl (by omega) (by omega)
  have eY : Y = s3 8 (s2 8 (s1 8 S)) := by
    unfold s3 s2 s1
    rw [m1, m2, m3, ← hA1.out, ← hA2.out, ← hB1.out, ← hB2.out, ← hY.out]
  have bY2 := y_le S
  rw [← eY] at bY2
  have eC : ocC S % 128 = _ := oc_spec S
  obtain ⟨p1, p2, p3⟩ := ocC_le S
  have d1 : ocA S = Y + Y / 256 := by rw [eY]; rfl
  have d2 : ocB S = ocA S + ocA S / 65536 := rfl
  have d3 : ocC S = ocB S + ocB S / 4294967296 := rfl
  have HL := Lib.hid (low7 (ocC S))
  rw [eC] at HL
  rw [d3, d2, d1] at HL
  have HC := Lib.hid HL.out
  have e2 : ((S / 2 : Nat) : Int) = (S : Int) / 2 := by simp
  have e4 : (((A1 + A2) / 4 : Nat) : Int) = ((A1 : Int) + (A2 : Int)) / 4 := by simp
  have e16 : (((B1 + B2) / 16 + (B1 + B2) : Nat) : Int) = ((B1 : Int) + (B2 : Int)) / 16 + ((B1 : Int) + (B2 : Int)) := by simp
  have e1 : ((A1 + A2 : Nat) : Int) = (A1 : Int) + (A2 : Int) := by simp
  rw [e2] at fA1; rw [e4] at fB1; rw [e16] at fY; rw [e1] at fB2
  have q1 : (A1 : Int) ≤ 6148914691236517205 := by omega
  have q2 : (A2 : Int) ≤ 6148914691236517205 := by omega
  have q3 : (B1 : Int) ≤ 3689348814741910323 := by omega
  have q4 : (B2 : Int) ≤ 3689348814741910323 := by omega
  have q5 : (Y : Int) ≤ 600000000000000000 := by omega
  clear m1 m2 m3 eY eC p1 p2 p3 d1 d2 d3 e1 e2 e4 e16 bA1 bA2 bB1 bB2 bY bY2 HL hA1 hA2 hB1 hB2 hY
  go_enter Tryd.func31, Tryd.ntmps31
  go_wp2
  go_ret
  exact ⟨ret_int (by simpa using HC.out), rfl⟩
theorem count_any (S : Nat) (hS : S < 18446744073709551616) (w : World) :
    Calls Tryd.prog 26 #[.int .u64 S] w fun e w' => e = .returned (.int .i64 ((mem S).length : Int)) ∧ w = w' := by
  have C := Lib.hid (fun W => ones_any S hS W)
  go_enter Tryd.func26, Tryd.ntmps26
  go_wp2_with fail
  refine (C.out _).mono ?_; rintro e w' ⟨rfl, rfl⟩
  go_wp2_with fail
  go_ret
  exact ⟨rfl, rfl⟩

/-! The least one: math/bits.TrailingZeros64 reads a table of the library's. -/
def lays29_ren : Go.Shelf.Ren := ⟨fun | 29 => 36 | n => n, fun | 0 => 0 | 3 => 3 | 4 => 4 | 5 => 5 | 22 => 28 | 25 => 72 | 54 => 75 | n => n, fun | 1 => 0 | n => n⟩
theorem lays29 : Go.Proofs.Lays7.n29 Tryd.prog lays29_ren := {
  mixed := by kernel_rfl
  f29 := Tryd.func36.trans (congrArg some (by kernel_rfl))
  t0 := Tryd.underlying0
  a0 := Tryd.isAgg0
  z0 := Tryd.sizeOf0
  v0 := Tryd.zeroValue0
  i0 := by kernel_rfl
  t3 := Tryd.underlying3
  a3 := Tryd.isAgg3
  z3 := Tryd.sizeOf3
  v3 := Tryd.zeroValue3
  i3 := by kernel_rfl
  t4 := Tryd.underlying4
  a4 := Tryd.isAgg4
  z4 := Tryd.sizeOf4
  v4 := Tryd.zeroValue4
  i4 := by kernel_rfl
  t5 := Tryd.underlying5
  a5 := Tryd.isAgg5
  z5 := Tryd.sizeOf5
  v5 := Tryd.zeroValue5
  i5 := by kernel_rfl
  t22 := Tryd.underlying28
  a22 := Tryd.isAgg28
  z22 := Tryd.sizeOf28
  v22 := Tryd.zeroValue28
  i22 := by kernel_rfl
  t25 := Tryd.underlying72
  a25 := Tryd.isAgg72
  z25 := Tryd.sizeOf72
  v25 := Tryd.zeroValue72
  i25 := by kernel_rfl
  t54 := Tryd.underlying75
  a54 := Tryd.isAgg75
  z54 := Tryd.sizeOf75
  g1 := by kernel_rfl }

/-- The table in its variable, and that the variable lies below the heap's end. -/
def Tabs (w : World) : Prop := TabAt 0 Go.Lib.deBruijn64tab w ∧ 0 < w.heap.size
theorem Tabs.below {w w' : World} (h : Tabs w) (hb : Below w.heap.size w w') : Tabs w' :=
  ⟨fun j hj => (hb.cell (p := ⟨0, j, none⟩) h.2).trans (h.1 j hj), Nat.lt_of_lt_of_le h.2 hb.size⟩
theorem tz_any (S : Nat) (hS : S < 18446744073709551616) (w : World) (hT : Tabs w) :
    Calls Tryd.prog 36 #[.int .u64 S] w fun e w' => e = .returned (.int .i64 (Go.Lib.ctz 64 S : Nat)) ∧ w = w' :=
  (Any7.bits_TrailingZeros64 lays29 S hS w (fun _ => hT.1)).mono fun e w' ⟨he, hw⟩ => ⟨he, hw.symm⟩
theorem least_any (S : Nat) (hS : S < 18446744073709551616) (w : World) (hT : Tabs w) :
    Calls Tryd.prog 34 #[.int .u64 S] w fun e w' => e = .returned (.int .i64 (leastN S)) ∧ w = w' := by
  by_cases h0 : S = 0
  · subst h0
    clear hT
    go_enter Tryd.func34, Tryd.ntmps34
    go_wp2
    go_ret
    exact ⟨rfl, rfl⟩
  · have C := Lib.hid (tz_any S hS w hT)
    have H := Lib.hid (show leastN S = (Go.Lib.ctz 64 S : Int) by unfold leastN; rw [if_neg h0])
    have hne : ((S : Int) == 0) = false := beq_eq_false_iff_ne.2 (by omega)
    clear h0 hT
    go_enter Tryd.func34, Tryd.ntmps34
    go_wp2_with fail
    refine (C.out).mono ?_; rintro e w' ⟨rfl, rfl⟩
    go_wp2_with fail
    go_ret
    exact ⟨ret_int H.out.symm, rfl⟩
end Go.Proofs.YtkcjllkhmncfdaaDoor.Nodes
