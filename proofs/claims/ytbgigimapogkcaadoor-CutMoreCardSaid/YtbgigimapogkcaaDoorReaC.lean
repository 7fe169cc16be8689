/- Contracts of package reach (layer 17): balls, all that is reached, whether a graph is whole. -/
import Derived.Test.YtbgigimapogkcaaDoorReaB
import Derived.Deep.QuietTactic
import Derived.BigQuiet
namespace Go.Proofs.YtbgigimapogkcaaDoor.Rea
open Go.RowKit Go.Shelf Go.ChangeShapes Go.WideShapes Go.ChangeAt
open Grf (Pr GR Ok nearP)
open Nodes (Tabs mem ret_int ret_bool)
set_option linter.unusedVariables false
set_option maxRecDepth 100000
/-- A slice of sets that reads as a list. -/
def RdU (w : World) (ad : Option Addr) (zs : List Nat) : Prop :=
  ∀ i, i < zs.length → ∃ b, ad = some ⟨b, 0, none⟩ ∧ b < w.heap.size ∧ w.cell? ⟨b, i, none⟩ = some (.int .u64 (zs.getD i 0 : Nat))
theorem OwnU.rd {W : World} {base n cap : Nat} {ad : Option Addr} {zs : List Nat} (h : OwnU W base (.slice ad n cap) zs) : RdU W ad zs ∧ n = zs.length := by
  have h' := h
  rcases h'.2 with ⟨hv, hz⟩ | ⟨g, cap', cur, hv, _, hg, _⟩
  · cases hv
    exact ⟨fun i hi => absurd hi (by omega), hz.symm⟩
  · simp only [Value.slice.injEq] at hv
    obtain ⟨rfl, rfl, rfl⟩ := hv
    refine ⟨fun i hi => ⟨g, rfl, (Array.getElem?_eq_some_iff.1 hg).1, ?_⟩, rfl⟩
    have := World.ownsRow.cellAt h i (by omega)
    rw [this]
    simp [hi]
theorem RdU.below {w w' : World} {ad : Option Addr} {zs : List Nat} (h : RdU w ad zs) (hB : Below w.heap.size w w') : RdU w' ad zs := fun i hi => by
  obtain ⟨b, e, hb, hc⟩ := h i hi
  exact ⟨b, e, Nat.lt_of_lt_of_le hb hB.size, (hB.cell (p := ⟨b, i, none⟩) hb).trans hc⟩
theorem ball_any (p : Option Addr) (n : Nat) (L : List Pr) (z most : Int) (S : Nat) (hS : S < 18446744073709551616) (w : World) (h : GP w p n L) (hT : Tabs w) :
    Calls Tryd.prog 52 #[.pointer p, .int .i64 z, .int .i64 most, .int .u64 S] w fun e w' => e = .returned (.int .u64 (ballN n S L (src z) most : Nat)) ∧ Below w.heap.size w w' := by
  have hn := h.le
  have CR := Lib.hid (rings_any p n L z S hS w h hT)
  clear h hT
  generalize src z = i at *
  go_enter Tryd.func52, Tryd.ntmps52
  go_wp2_with fail
  refine (CR.out).mono ?_; rintro e w1 ⟨c, ad, cap, rfl, hcnt, hown, hB⟩
  have hcn := cnt_le hcnt
  have hrd := hown.rd.1
  have HLEN := Lib.hid (rings_len (n := n) (S := S) (L := L) (i := i) c)
  have HALL := Lib.hid (ball_all (n := n) (S := S) (L := L) (i := i) (most := most) hcnt.1)
  have HR : Hid (∀ k, k < c → ∃ b, ad = some ⟨b, 0, none⟩ ∧ w1.cell? ⟨b, k, none⟩ = some (.int .u64 (ringN n S L i k : Nat))) := Lib.hid (fun k hk => by
    obtain ⟨b, e, _, hc⟩ := hrd k (by rw [HLEN.out]; exact hk)
    rw [rings_at hk] at hc
    exact ⟨b, e, hc⟩)
  have HB := Lib.hid hB
  clear hown hrd hcnt hB
  go_wp2_with fail
  go_loop [9, 17] (fun s j => ∃ k : Nat, k ≤ c ∧ j = .int .i64 k ∧ s = .int .u64 (ballK n S L i most k : Nat)) (fun _ j => c - (intOf j).toNat)
  case atStart => exact ⟨0, Nat.zero_le _, rfl, by rw [ball_zero]; rfl⟩
  case round =>
    obtain ⟨k, hk, rfl, rfl⟩ := hrel
    by_cases hlt : k < c
    · obtain ⟨b, rfl, hc⟩ := HR.out k hlt
      have HO := Lib.hid (u64_or_nat (ballK n S L i most k) (ringN n S L i k) (ballK_lt _ _) (ring_lt _))
      by_cases hm : (k : Int) ≤ most
      · have HH := Lib.hid (ball_hit (n := n) (S := S) (L := L) (i := i) hn hm)
        go_wp2_with fail
        go_round
        case rel => exact ⟨k + 1, by omega, by go_num, by rw [HO.out, HH.out]⟩
        case measure => simp [intOf]; omega
      · have HH := Lib.hid (ball_miss (n := n) (S := S) (L := L) (i := i) hm)
        have hm' : most < (k : Int) := by omega
        clear hm
        go_wp2_with fail
        go_round
        case rel => exact ⟨k + 1, by omega, by go_num, by rw [HH.out]⟩
        case measure => simp [intOf]; omega
    · obtain rfl : k = c := by omega
      go_wp2_with fail
      go_ret
      exact ⟨ret_int (by rw [HALL.out]), HB.out⟩
theorem from_any (p : Option Addr) (n : Nat) (L : List Pr) (z : Int) (S : Nat) (hS : S < 18446744073709551616) (w : World) (h : GP w p n L) (hT : Tabs w) :
    Calls Tryd.prog 41 #[.pointer p, .int .i64 z, .int .u64 S] w fun e w' => e = .returned (.int .u64 (fromN n S L (src z) : Nat)) ∧ Below w.heap.size w w' := by
  have C1 := Lib.hid (gpn_any p n L w h)
  have C2 := Lib.hid (ball_any p n L z (n : Int) S hS w h hT)
  rw [ball_from (Int.le_refl _)] at C2
  clear h hT
  go_enter Tryd.func41, Tryd.ntmps41
  go_wp2_with fail
  refine (C1.out).mono ?_; rintro e w' ⟨rfl, rfl⟩
  go_wp2_with fail
  refine (C2.out).mono ?_; rintro e w1 ⟨rfl, hB⟩
  go_wp2_with fail
  go_ret
  exact ⟨rfl, hB⟩
theorem least_left {n S : Nat} (hn : n ≤ 64) (hS : S < 18446744073709551616) (h : leftN n S ≠ 0) : ∃ s, Nodes.leastN (leftN n S) = ((s : Nat) : Int) ∧ s < 64 ∧ hereB n S s = true := by
  obtain ⟨h1, h2⟩ := Nodes.least_spec (left_lt n S) h
  refine ⟨Go.Lib.ctz 64 (leftN n S), by unfold Nodes.leastN; rw [if_neg h], h1, ?_⟩
  have : Go.Lib.ctz 64 (leftN n S) ∈ mem (leftN n S) := by rw [h2]; simp
  have := (Nodes.mem_mem.1 this).2
  rwa [bit_left hn hS] at this
open Classical in
noncomputable def wholeB (n S : Nat) (L : List Pr) : Bool := decide (wholeP n S L)
open Classical in
theorem wholeB_iff {n S : Nat} {L : List Pr} : wholeB n S L = true ↔ wholeP n S L := by
  unfold wholeB
  exact decide_eq_true_iff
theorem whole_any (p : Option Addr) (n : Nat) (L : List Pr) (S : Nat) (hS : S < 18446744073709551616) (w : World) (h : GP w p n L) (hT : Tabs w) :
    Calls Tryd.prog 27 #[.pointer p, .int .u64 S] w fun e w' => e = .returned (.bool (wholeB n S L)) ∧ Below w.heap.size w w' := by
  have hn := h.le
  have C1 := Lib.hid (left_any p n L S hS w h)
  have C2 := Lib.hid (Nodes.least_any (leftN n S) (left_lt n S) w hT)
  by_cases h0 : leftN n S = 0
  · have HW : Hid (wholeB n S L = false) := Lib.hid (by
      rw [Bool.eq_false_iff, Ne, wholeB_iff]
      rintro ⟨⟨x, hx⟩, _⟩
      rw [(left_zero hn hS).1 h0 x] at hx
      cases hx)
    rw [HW.out]
    rw [h0] at C1
    clear h hT C2
    go_enter Tryd.func27, Tryd.ntmps27
    go_wp2_with fail
    refine (C1.out).mono ?_; rintro e w' ⟨rfl, rfl⟩
    go_wp2_with fail
    go_ret
    exact ⟨rfl, Below.refl _ _⟩
  · obtain ⟨s, hs1, hs2, hs3⟩ := least_left hn hS h0
    rw [hs1] at C2
    have C3 := Lib.hid (from_any p n L (s : Int) S hS w h hT)
    rw [src_nat hs2] at C3
    have HW : Hid (((fromN n S L s : Int) == (leftN n S : Int)) = wholeB n S L) := Lib.hid (by
      rw [Bool.eq_iff_iff, wholeB_iff, ← whole_from hn hS hs3, beq_iff_eq]
      omega)
    have hne : ((leftN n S : Int) != 0) = true := bne_iff_ne.2 (by omega)
    clear h hT hs1 hs3
    generalize leftN n S = ln at *
    generalize fromN n S L s = fn at *
    go_enter Tryd.func27, Tryd.ntmps27
    go_wp2_with fail
    refine (C1.out).mono ?_; rintro e w' ⟨rfl, rfl⟩
    go_wp2_with fail
    refine (C2.out).mono ?_; rintro e w' ⟨rfl, rfl⟩
    go_wp2_with fail
    refine (C3.out).mono ?_; rintro e w1 ⟨rfl, hB⟩
    go_wp2_with fail
    go_ret
    exact ⟨ret_bool HW.out, hB⟩
end Go.Proofs.YtbgigimapogkcaaDoor.Rea
