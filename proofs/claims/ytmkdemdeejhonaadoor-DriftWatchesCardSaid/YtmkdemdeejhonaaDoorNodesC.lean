/- Contracts of package nodes (layer 3): how many there are, the least one, the first ones, how many are below a node. -/
import Derived.Test.YtmkdemdeejhonaaDoorNodesB
import Derived.Test.YtmkdemdeejhonaaDoorNodesP
import Derived.Shelf.Spec.TrailingZeros
namespace Go.Proofs.YtmkdemdeejhonaaDoor.Nodes
open Go.ChangeShapes Go.WideShapes Go.ChangeAt Go.RowKit
set_option linter.unusedVariables false

theorem and_fact (x c : Nat) (k : Int) (hk : k = (c : Int)) (hx : x < 18446744073709551616) (hc : c < 18446744073709551616) : ∃ A : Nat, Hid (A = x &&& c) ∧ bits .and .u64 (x : Int) k = (A : Int) ∧ A ≤ c :=
  ⟨_, Lib.hid rfl, by rw [hk]; exact u64_and_nat x c hx hc, Nat.and_le_right⟩
theorem low7 (c : Nat) : bits .and .i64 (c : Int) 127 = ((c % 128 : Nat) : Int) := by
  show IntKind.i64.wrap ((BitVec.ofInt 64 (c : Int) &&& BitVec.ofInt 64 127).toNat : Int) = _
  rw [BitVec.toNat_and, show (BitVec.ofInt 64 127).toNat = 2 ^ 7 - 1 from by decide, Nat.and_two_pow_sub_one_eq_mod, BitVec.ofInt_natCast, BitVec.toNat_ofNat, IntKind.wrap_i64]
  omega
/-! The least one: math/bits.TrailingZeros64 reads a table of the library's. -/
def lays29_ren : Go.Shelf.Ren := ⟨fun | 29 => 32 | n => n, fun | 0 => 0 | 3 => 3 | 4 => 4 | 5 => 5 | 22 => 27 | 25 => 73 | 54 => 72 | n => n, fun | 1 => 0 | n => n⟩
theorem lays29 : Go.Proofs.Lays7.n29 Tryd.prog lays29_ren := {
  mixed := by kernel_rfl
  f29 := Tryd.func32.trans (congrArg some (by kernel_rfl))
  t0 := Tryd.underlying0
  a0 := Tryd.isAgg0
  z0 := Tryd.sizeOf0
  v0 := Tryd.zeroValue0
  i0 := by kernel_rfl
  t3 := Tryd.underlying3
  a3 := Tryd.isAgg3
  z3 := Tryd.sizeOf3
  v3 := Tryd.zeroValue3
  i3 := by kernel_rfl
  t4 := Tryd.underlying4
  a4 := Tryd.isAgg4
  z4 := Tryd.sizeOf4
  v4 := Tryd.zeroValue4
  i4 := by kernel_rfl
  t5 := Tryd.underlying5
  a5 := Tryd.isAgg5
  z5 := Tryd.sizeOf5
  v5 := Tryd.zeroValue5
  i5 := by kernel_rfl
  t22 := Tryd.underlying27
  a22 := Tryd.isAgg27
  z22 := Tryd.sizeOf27
  v22 := Tryd.zeroValue27
  i22 := by kernel_rfl
  t25 := Tryd.underlying73
  a25 := Tryd.isAgg73
  z25 := Tryd.sizeOf73
  v25 := Tryd.zeroValue73
  i25 := by kernel_rfl
  t54 := Tryd.underlying72
  a54 := Tryd.isAgg72
  z54 := Tryd.sizeOf72
  g1 := by kernel_rfl }

/-- The table in its variable, and that the variable lies below the heap's end. -/
def Tabs (w : World) : Prop := TabAt 0 Go.Lib.deBruijn64tab w ∧ 0 < w.heap.size
theorem Tabs.below {w w' : World} (h : Tabs w) (hb : Below w.heap.size w w') : Tabs w' :=
  ⟨fun j hj => (hb.cell (p := ⟨0, j, none⟩) h.2).trans (h.1 j hj), Nat.lt_of_lt_of_le h.2 hb.size⟩
theorem tz_any (S : Nat) (hS : S < 18446744073709551616) (w : World) (hT : Tabs w) :
    Calls Tryd.prog 32 #[.int .u64 S] w fun e w' => e = .returned (.int .i64 (Go.Lib.ctz 64 S : Nat)) ∧ w = w' :=
  (Any7.bits_TrailingZeros64 lays29 S hS w (fun _ => hT.1)).mono fun e w' ⟨he, hw⟩ => ⟨he, hw.symm⟩
theorem least_any (S : Nat) (hS : S < 18446744073709551616) (w : World) (hT : Tabs w) :
    Calls Tryd.prog 26 #[.int .u64 S] w fun e w' => e = .returned (.int .i64 (leastN S)) ∧ w = w' := by
  by_cases h0 : S = 0
  · subst h0
    clear hT
    go_enter Tryd.func26, Tryd.ntmps26
    go_wp2
    go_ret
    exact ⟨rfl, rfl⟩
  · have C := Lib.hid (tz_any S hS w hT)
    have H := Lib.hid (show leastN S = (Go.Lib.ctz 64 S : Int) by unfold leastN; rw [if_neg h0])
    have hne : ((S : Int) == 0) = false := beq_eq_false_iff_ne.2 (by omega)
    clear h0 hT
    go_enter Tryd.func26, Tryd.ntmps26
    go_wp2_with fail
    refine (C.out).mono ?_; rintro e w' ⟨rfl, rfl⟩
    go_wp2_with fail
    go_ret
    exact ⟨ret_int H.out.symm, rfl⟩
end Go.Proofs.YtmkdemdeejhonaaDoor.Nodes
