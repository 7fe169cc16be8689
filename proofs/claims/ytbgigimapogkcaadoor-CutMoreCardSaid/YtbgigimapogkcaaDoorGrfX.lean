/- Both makings of a graph, for any number of nodes (layer 16): it may be, or it is told what is wrong. -/
import Derived.Test.YtbgigimapogkcaaDoorGrfE
import Derived.Test.YtbgigimapogkcaaDoorGrfU
import Derived.Test.YtbgigimapogkcaaDoorGrfV
import Derived.Test.YtbgigimapogkcaaDoorGrfW
namespace Go.Proofs.YtbgigimapogkcaaDoor.Grf
open Go.ChangeShapes Go.WideShapes Go.ChangeAt Go.RowKit
set_option linter.unusedVariables false
set_option maxRecDepth 100000
theorem bt {w W V : World} (h : Below w.heap.size w W) (h2 : Below W.heap.size W V) : Below w.heap.size w V := h.trans (h2.mono h.size)
theorem ways (z : Int) (zs : List Pr) : (∃ c, c ≠ 0 ∧ er z zs = c) ∨ ∃ n : Nat, z = (n : Int) ∧ 1 ≤ n ∧ n ≤ 64 ∧ erF n [] zs = 0 := by
  by_cases h : z < 1 ∨ 64 < z
  · exact .inl ⟨1, by omega, er_out h zs⟩
  · obtain ⟨n, rfl⟩ := Int.eq_ofNat_of_zero_le (show 0 ≤ z by omega)
    by_cases h0 : erF n [] zs = 0
    · exact .inr ⟨n, rfl, by omega, by omega, h0⟩
    · exact .inl ⟨_, h0, er_in (by omega) (by omega) zs⟩
theorem new_bad (z : Int) (zs : List Pr) (c : Int) (hc : c ≠ 0) (he : er z zs = c) (ad : Option Addr) (len cap : Nat) (w : World) (hlen : zs.length = len) (hm : len < 9223372036854775807) (hI : ∀ p ∈ zs, inI p.1 ∧ inI p.2) (hr : RdG w ad zs) :
    Calls Tryd.prog 22 #[.int .i64 z, .slice ad len cap] w fun e w' => e = .returned (.tuple #[.pointer none, .int .i64 c]) ∧ Below w.heap.size w w' := by
  by_cases h : z < 1 ∨ 64 < z
  · obtain rfl : 1 = c := (er_out h zs).symm.trans he
    refine (new_out z h ad len cap w).mono ?_
    rintro e w' ⟨rfl, rfl⟩
    exact ⟨rfl, Below.refl _ _⟩
  · obtain ⟨n, rfl⟩ := Int.eq_ofNat_of_zero_le (show 0 ≤ z by omega)
    rw [er_in (by omega) (by omega)] at he
    refine (new_in n (by omega) (by omega) ad len cap zs hlen hm hI w hr).mono ?_
    rintro e w' ⟨-, h2, h3⟩
    rw [he] at h2
    exact ⟨h2 hc, h3⟩
def Made (n : Nat) (zs : List Pr) (w : World) (e : Ending) (w' : World) : Prop :=
  ∃ g b, e = .returned (.tuple #[.pointer (some ⟨g, 0, none⟩), .int .i64 0]) ∧ GR w' g b n zs ∧ Below w.heap.size w w'
theorem new_good (n : Nat) (zs : List Pr) (h1 : 1 ≤ n) (h64 : n ≤ 64) (he : erF n [] zs = 0) (ad : Option Addr) (len cap : Nat) (w : World) (hlen : zs.length = len) (hm : len < 9223372036854775807) (hI : ∀ p ∈ zs, inI p.1 ∧ inI p.2) (hr : RdG w ad zs) :
    Calls Tryd.prog 22 #[.int .i64 (n : Int), .slice ad len cap] w (Made n zs w) := by
  refine (new_in n h1 h64 ad len cap zs hlen hm hI w hr).mono ?_
  rintro e w' ⟨h2, -, h3⟩
  obtain ⟨g, b, e1, hG, -, -⟩ := h2 he
  exact ⟨g, b, e1, hG, h3⟩
def RMade (n : Nat) (zs : List Pr) (w : World) (e : Ending) (w' : World) : Prop :=
  ∃ ad cap, e = .returned (.tuple #[.agg #[.int .i64 (n : Int), .slice ad zs.length cap], .int .i64 0]) ∧ RdG w' ad zs ∧ Below w.heap.size w w'
theorem ok_inI {n : Nat} {zs : List Pr} (h : Ok n zs) (h64 : n ≤ 64) : ∀ p ∈ zs, inI p.1 ∧ inI p.2 := fun p hp => by
  obtain ⟨a1, a2, a3, a4, _⟩ := h.1 p hp
  unfold inI
  omega
theorem ok_of {n : Nat} {zs : List Pr} (h : erF n [] zs = 0) : Ok n zs := by
  have := er_ok (ok_nil n) h
  simpa using this
theorem er_of {n : Nat} {zs : List Pr} (h : Ok n zs) : erF n [] zs = 0 := ok_er (by simpa using h)
theorem shr_bit {v k : Nat} (hv : v < 18446744073709551616) (h : v.testBit k = false) : (bits .and .u64 ((v : Int) / 2 ^ k) 1 == 1) = false := by
  have e : (v : Int) / 2 ^ k = ((v / 2 ^ k : Nat) : Int) := by simp
  rw [e, show (1 : Int) = ((1 : Nat) : Int) from rfl, u64_and_nat (v / 2 ^ k) 1 (Nat.lt_of_le_of_lt (Nat.div_le_self _ _) hv) (by omega), Nat.and_one_is_mod]
  rw [Nat.testBit_eq_decide_div_mod_eq, decide_eq_false_iff_not] at h
  rw [beq_eq_false_iff_ne]
  omega
end Go.Proofs.YtbgigimapogkcaaDoor.Grf
