/- Contracts of the document's own answers for layer 17: the nodes that are near; how wide a graph is. -/
import Derived.Test.YtcfdnbdemiokeaaDoorReaF
import Derived.Deep.CutRange
namespace Go.Proofs.YtcfdnbdemiokeaaDoor.Rea
open Go.ChangeShapes Go.WideShapes Go.ChangeAt Go.RowKit
open Grf (Pr lk RdG gval gbox)
open Nodes (Rd OwnL ofL setP)
set_option linter.unusedVariables false
def pickB (zs : List Int) (most : Int) (all : Bool) (x : Nat) : Bool := decide (0 ≤ zs.getD x 0) && (all || decide (zs.getD x 0 ≤ most))
def pickL (zs : List Int) (most : Int) (all : Bool) (k : Nat) : List Int := ((List.range k).filter (pickB zs most all)).map fun x : Nat => (x : Int)
theorem pick_hit {zs : List Int} {most : Int} {all : Bool} {k : Nat} (h : pickB zs most all k = true) : pickL zs most all (k + 1) = pickL zs most all k ++ [(k : Int)] := by simp [pickL, List.range_succ, h]
theorem pick_miss {zs : List Int} {most : Int} {all : Bool} {k : Nat} (h : pickB zs most all k = false) : pickL zs most all (k + 1) = pickL zs most all k := by simp [pickL, List.range_succ, h]
theorem pick_len (zs : List Int) (most : Int) (all : Bool) (k : Nat) : (pickL zs most all k).length ≤ k := by
  rw [pickL, List.length_map]
  have := List.length_filter_le (pickB zs most all) (List.range k)
  rwa [List.length_range] at this
theorem pick_of {n S : Nat} {L : List Pr} {i : Nat} (hn : n ≤ 64) (most : Int) (all : Bool) : ofL (pickL (dstL n S L i) most all n) = if all then fromN n S L i else ballN n S L i most := by
  have key : ∀ j : Nat, j < 64 → (decide ((j : Int) ∈ pickL (dstL n S L i) most all n) = true ↔ (0 ≤ dst n S L i j ∧ (all = true ∨ dst n S L i j ≤ most))) := fun j hj => by
    rw [decide_eq_true_iff, pickL, List.mem_map]
    constructor
    · rintro ⟨x, hx, e⟩
      obtain rfl : x = j := by omega
      obtain ⟨h1, h2⟩ := List.mem_filter.1 hx
      rw [pickB, dstL_at (List.mem_range.1 h1)] at h2
      simpa using h2
    · rintro ⟨h1, h2⟩
      have hjn := here_lt (dst_here h1).1
      exact ⟨j, List.mem_filter.2 ⟨List.mem_range.2 hjn, by rw [pickB, dstL_at hjn]; simpa using ⟨h1, h2⟩⟩, rfl⟩
  cases all with
  | true =>
    rw [if_pos rfl]
    refine Nodes.setP_congr fun j hj => ?_
    rw [Bool.eq_iff_iff, key j hj]
    simp
  | false =>
    rw [if_neg (by simp)]
    refine Nodes.setP_congr fun j hj => ?_
    rw [Bool.eq_iff_iff, key j hj]
    simp
set_option maxHeartbeats 2000000 in
theorem rball_any (ad : Option Addr) (len cap : Nat) (zs : List Int) (most : Int) (all : Bool) (w : World) (hlen : zs.length = len) (hm : len ≤ 64) (hr : Rd w ad zs) :
    Calls Tryd.prog 13 #[.slice ad len cap, .int .i64 most, .bool all] w fun e w' => e = .returned (.int .u64 (ofL (pickL zs most all len) : Nat)) ∧ Below w.heap.size w w' := by
  obtain ⟨i0, hi, hz0, hz1, hz2⟩ := info_parts Nodes.infoInt
  have HL := Lib.hid hlen
  have HR := Lib.hid hr
  clear hlen hr
  go_enter Tryd.func13, Tryd.ntmps13
  go_wp2_with fail
  go_loopw [7, 8] (fun v i wr => ∃ k : Nat, k ≤ len ∧ i = .int .i64 k ∧ OwnL wr w.heap.size v (pickL zs most all k) ∧ Below w.heap.size w wr) (fun _ i _ => len - (intOf i).toNat)
  case atStart => exact ⟨0, Nat.zero_le _, rfl, World.ownsRow_lit (size := 1) w #[] 0 (Nat.le_refl _) (by unfold maxLen; omega) rfl, (Below.refl _ _).alloc (Nat.le_refl _) _⟩
  case round =>
    obtain ⟨k, hk, rfl, hown, hB⟩ := hrel
    by_cases hlt : k < len
    · have hsz := hB.size
      have hpl := pick_len zs most all k
      obtain ⟨b, off, rfl, hc⟩ := (HR.out.below hB).at (k := k) (by rw [HL.out]; exact hlt)
      have HT := Lib.hid (pick_hit (zs := zs) (most := most) (all := all) (k := k))
      have HF := Lib.hid (pick_miss (zs := zs) (most := most) (all := all) (k := k))
      unfold pickB at HT HF
      obtain ⟨z, hz⟩ : ∃ z, zs.getD k 0 = z := ⟨_, rfl⟩
      rw [hz] at hc HT HF
      clear hz
      by_cases h0 : 0 ≤ z
      · have t1 : decide (0 ≤ z) = true := decide_eq_true h0
        rw [t1] at HT HF
        by_cases h1 : (all || decide (z ≤ most)) = true
        · have HS := Lib.hid (HT.out (by rw [h1]; rfl))
          clear HT HF h0
          cases all with
          | true =>
            clear h1
            go_wp2_with (at_builtin; refine Own.wpList_append2 _ rfl _ _ 30 rfl w.heap.size 3 i0 (.int .i64 0) 1 8 Tryd.underlying30 hi hz0 hz1 hz2 rfl (by decide) _ _ _ rfl (World.ownsRow.alloc hown _) ⟨wr.heap.size, 0, none⟩ 1 1 [.int .i64 k] rfl rfl (cell_one_new _ _ _) (by simp [Value.oneCell']) (by unfold maxLen; omega) (by omega) (by simp; omega) ?_; intro v' w1 hown' hgrow _ _)
            have hB1 := hB.trans (Own.below_append hown hsz hgrow)
            go_roundw
            case rel => exact ⟨k + 1, by omega, by go_num, by rw [HS.out]; exact Nodes.OwnL.snoc hown', hB1⟩
            case measure => simp [intOf]; omega
          | false =>
            have t2 : decide (z ≤ most) = true := by simpa using h1
            clear h1
            go_wp2_with (at_builtin; refine Own.wpList_append2 _ rfl _ _ 30 rfl w.heap.size 3 i0 (.int .i64 0) 1 8 Tryd.underlying30 hi hz0 hz1 hz2 rfl (by decide) _ _ _ rfl (World.ownsRow.alloc hown _) ⟨wr.heap.size, 0, none⟩ 1 1 [.int .i64 k] rfl rfl (cell_one_new _ _ _) (by simp [Value.oneCell']) (by unfold maxLen; omega) (by omega) (by simp; omega) ?_; intro v' w1 hown' hgrow _ _)
            have hB1 := hB.trans (Own.below_append hown hsz hgrow)
            go_roundw
            case rel => exact ⟨k + 1, by omega, by go_num, by rw [HS.out]; exact Nodes.OwnL.snoc hown', hB1⟩
            case measure => simp [intOf]; omega
        · have h1' : (all || decide (z ≤ most)) = false := by simpa using h1
          have HS := Lib.hid (HF.out (by rw [h1']; rfl))
          obtain ⟨rfl, h3⟩ : all = false ∧ decide (z ≤ most) = false := by simpa using h1'
          clear HT HF h0 h1 h1'
          go_wp2_with fail
          go_roundw
          case rel => exact ⟨k + 1, by omega, by go_num, by rw [HS.out]; exact hown, hB⟩
          case measure => simp [intOf]; omega
      · have t1 : decide (0 ≤ z) = false := decide_eq_false h0
        rw [t1] at HT HF
        have HS := Lib.hid (HF.out rfl)
        clear HT HF h0
        go_wp2_with fail
        go_roundw
        case rel => exact ⟨k + 1, by omega, by go_num, by rw [HS.out]; exact hown, hB⟩
        case measure => simp [intOf]; omega
    · obtain rfl : k = len := by omega
      obtain ⟨ad', cap', rfl, -⟩ := Own.shape hown
      have hpl := pick_len zs most all k
      have CO := Lib.hid (Nodes.rof_any ad' (pickL zs most all k).length cap' (pickL zs most all k) wr rfl (by omega) (Nodes.OwnL.rd hown).1)
      have HB := Lib.hid hB
      clear hown hB
      go_wp2_with fail
      refine (CO.out).mono ?_; rintro e w' ⟨rfl, rfl⟩
      go_wp2_with fail
      go_ret
      exact ⟨rfl, HB.out⟩
end Go.Proofs.YtcfdnbdemiokeaaDoor.Rea
