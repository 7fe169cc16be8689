/- The document's own sets (angelusref18.Sets): all numbers below 2^n by how many bits they have. -/
import Derived.Test.YtbgigimapogkcaaDoorCutM
import Derived.Test.YtbgigimapogkcaaDoorReaC
namespace Go.Proofs.YtbgigimapogkcaaDoor.Cut
open Go.RowKit Go.Shelf Go.ChangeShapes Go.WideShapes Go.ChangeAt
open Nodes (Tabs mem memI ret_int)
open Rea (RdU)
set_option linter.unusedVariables false
set_option linter.unusedSimpArgs false
set_option maxRecDepth 100000
theorem infoU64 : (Tryd.prog.info? 25).map (fun i => (i.zero, i.size, i.bytes)) = some (some (.int .u64 0), 1, 8) := by kernel_rfl
/-- A slice of numbers without sign of the call's own. -/
def OwnW (W : World) (base : Nat) (v : Value) (zs : List Nat) : Prop := W.ownsRow base 25 1 v zs.length (zs.map fun z : Nat => Value.int .u64 (z : Int))
theorem OwnW.snoc {W : World} {base : Nat} {v : Value} {zs : List Nat} {x : Nat} (h : W.ownsRow base 25 1 v (zs.length + 1) ((zs.map fun z : Nat => Value.int .u64 (z : Int)) ++ [.int .u64 (x : Int)])) : OwnW W base v (zs ++ [x]) := by
  unfold OwnW
  rw [List.length_append, List.map_append]
  exact h
theorem OwnW.below {W W' : World} {base : Nat} {v : Value} {zs : List Nat} (h : OwnW W base v zs) (hB : Below W.heap.size W W') : OwnW W' base v zs :=
  World.ownsRow.kept h (row := Option.none) ⟨hB.os, hB.tape, hB.output, hB.size, fun j hj _ => hB.block j hj⟩ (by cases hv : Value.ownBlock _ <;> simp)
theorem OwnW.rd {W : World} {base n cap : Nat} {ad : Option Addr} {zs : List Nat} (h : OwnW W base (.slice ad n cap) zs) : RdU W ad zs ∧ n = zs.length := by
  have h' := h
  rcases h'.2 with ⟨hv, hz⟩ | ⟨g, cap', cur, hv, _, hg, _⟩
  · cases hv
    exact ⟨fun i hi => absurd hi (by omega), hz.symm⟩
  · simp only [Value.slice.injEq] at hv
    obtain ⟨rfl, rfl, rfl⟩ := hv
    refine ⟨fun i hi => ⟨g, rfl, (Array.getElem?_eq_some_iff.1 hg).1, ?_⟩, rfl⟩
    have := World.ownsRow.cellAt h i (by omega)
    rw [this]
    simp [hi]
def SetsPost (zs : List Nat) (w : World) (e : Ending) (w' : World) : Prop :=
  ∃ ad cap, e = .returned (.slice ad zs.length cap) ∧ OwnW w' w.heap.size (.slice ad zs.length cap) zs ∧ Below w.heap.size w w'
/-- The sets of k nodes among the first s numbers. -/
def partK (k s : Nat) : List Nat := (List.range s).filter (isK k)
theorem part_hit {k s : Nat} (h : cnt s = k) : partK k (s + 1) = partK k s ++ [s] := by simp [partK, List.range_succ, isK, h]
theorem part_miss {k s : Nat} (h : cnt s ≠ k) : partK k (s + 1) = partK k s := by simp [partK, List.range_succ, isK, h]
theorem part_all (n k : Nat) : partK k (2 ^ n) = setsK n k := rfl
theorem part_len (k s : Nat) : (partK k s).length ≤ s := by have := List.length_filter_le (isK k) (List.range s); simpa [partK] using this
theorem sets_len (n k : Nat) : (setsK n k).length ≤ 2 ^ n := by rw [← part_all]; exact part_len k _
theorem upTo_len (n : Nat) : ∀ m, (upTo n m).length ≤ m * 2 ^ n
  | 0 => by simp [upTo]
  | m + 1 => by
    rw [upTo_succ, List.length_append, Nat.add_mul]
    have := upTo_len n m
    have := sets_len n m
    omega
set_option maxHeartbeats 4000000 in
theorem rsets_any (n : Nat) (hn : n ≤ 12) (most : Int) (h1 : -9223372036854775808 ≤ most) (w : World) :
    Calls Tryd.prog 19 #[.int .i64 (n : Int), .int .i64 most] w (SetsPost (upTo n (min most (n : Int) + 1).toNat) w) := by
  obtain ⟨i0, hi, hz0, hz1, hz2⟩ := info_parts infoU64
  have C := Lib.hid (fun (s : Nat) (hs : s < 18446744073709551616) W => Nodes.rlist_any s hs W)
  have hp : 2 ^ n ≤ 4096 := by
    have : (2 : Nat) ^ n ≤ 2 ^ 12 := Nat.pow_le_pow_right (by decide) hn
    omega
  have hpi : ((2 : Int) ^ n) = ((2 ^ n : Nat) : Int) := by push_cast; rfl
  have HPI : Hid (IntKind.u64.wrap ((2 : Int) ^ n) = ((2 ^ n : Nat) : Int)) := Lib.hid (by
    rw [hpi, IntKind.wrap_u64]
    generalize 2 ^ n = m at *
    omega)
  have HP := Lib.hid hp
  have HU := Lib.hid (fun m => upTo_len n m)
  clear hpi
  go_enter Tryd.func19, Tryd.ntmps19
  go_wp2
  go_loopw [5, 6] (fun v i wr => ∃ k : Nat, k ≤ n + 1 ∧ (k : Int) ≤ max (most + 1) 0 ∧ i = .int .i64 k ∧ OwnW wr w.heap.size v (upTo n k) ∧ Below w.heap.size w wr) (fun _ i _ => n + 1 - (intOf i).toNat)
  case atStart => exact ⟨0, Nat.zero_le _, by omega, rfl, World.ownsRow_lit (size := 1) w #[] 0 (Nat.le_refl _) (by unfold maxLen; omega) rfl, (Below.refl _ _).alloc (Nat.le_refl _) _⟩
  case round =>
    obtain ⟨k, hk, hkm, rfl, hown, hB⟩ := hrel
    by_cases hlt : (k : Int) ≤ most ∧ k ≤ n
    · obtain ⟨hl1, hl2⟩ := hlt
      go_wp2
      generalize wr = w1 at *
      go_loopw [5, 7] (fun v i wr => ∃ s : Nat, s ≤ 2 ^ n ∧ i = .int .u64 s ∧ OwnW wr w.heap.size v (upTo n k ++ partK k s) ∧ Below w.heap.size w wr) (fun _ i _ => 2 ^ n - (intOf i).toNat)
      case atStart => exact ⟨0, Nat.zero_le _, rfl, by rw [show partK k 0 = [] from rfl, List.append_nil]; exact hown, hB⟩
      case round =>
        obtain ⟨s, hs, rfl, hown2, hB2⟩ := hrel
        by_cases hsn : s < 2 ^ n
        · have CS := Lib.hid (C.out s (by omega))
          unfold Nodes.ListPost at CS
          rw [Nodes.memI_len, show (mem s).length = cnt s from rfl] at CS
          have hpl := part_len k s
          have hul := HU.out k
          have hkp : k * 2 ^ n ≤ 13 * 4096 := Nat.mul_le_mul (by omega) hp
          have hsz := hB2.size
          have hsl : (s : Int) < IntKind.u64.wrap (2 ^ n) := by rw [HPI.out]; omega
          by_cases hc : cnt s = k
          · have HS := Lib.hid (part_hit hc)
            rw [hc] at CS
            clear hc
            go_wp2_with fail
            refine (CS.out _).mono ?_; rintro e w2 ⟨ad, cap, rfl, -, hB3⟩
            have hO3 := hown2.below hB3
            have hB4 := hB2.trans (hB3.mono hsz)
            have hs4 := hB4.size
            have hB4' := Lib.hid hB4
            clear hown2 hB2 hB3 hpl hsz
            have hql : (upTo n k ++ partK k s).length ≤ 60000 := by
              rw [List.length_append]
              have := part_len k s
              omega
            generalize hq : upTo n k ++ partK k s = q at *
            unfold OwnW at hO3
            go_wp2_with (at_builtin; refine Own.wpList_append2 _ rfl _ _ 48 rfl w.heap.size 25 i0 (.int .u64 0) 1 8 Tryd.underlying48 hi hz0 hz1 hz2 rfl (by decide) _ _ _ rfl (World.ownsRow.alloc hO3 _) ⟨w2.heap.size, 0, none⟩ 1 1 [.int .u64 (s : Int)] rfl rfl (cell_one_new _ _ _) (by simp [Value.oneCell']) (by unfold maxLen; omega) (by omega) (by simp; omega) ?_; intro v' w3 hown' hgrow _ _)
            have hB5 := hB4.trans (Own.below_append hO3 hs4 hgrow)
            go_roundw
            case rel => exact ⟨s + 1, by omega, by go_num, by rw [HS.out, ← List.append_assoc, hq]; exact OwnW.snoc hown', hB5⟩
            case measure => simp [intOf]; omega
          · have HS := Lib.hid (part_miss hc)
            have hcn : ((cnt s : Int) == (k : Int)) = false := by rw [beq_eq_false_iff_ne]; omega
            have hcl : cnt s ≤ 64 := Nodes.mem_le s
            clear hc
            generalize cnt s = c at *
            go_wp2_with fail
            refine (CS.out _).mono ?_; rintro e w2 ⟨ad, cap, rfl, -, hB3⟩
            have hO3 := hown2.below hB3
            have hB4 := hB2.trans (hB3.mono hsz)
            clear hown2 hB2 hB3
            go_wp2_with fail
            go_roundw
            case rel => exact ⟨s + 1, by omega, by go_num, by rw [HS.out]; exact hO3, hB4⟩
            case measure => simp [intOf]; omega
        · obtain rfl : s = 2 ^ n := by omega
          have hsl : IntKind.u64.wrap (2 ^ n) ≤ ((2 ^ n : Nat) : Int) := by rw [HPI.out]; exact Int.le_refl _
          rw [part_all, ← upTo_succ] at hown2
          have HO := Lib.hid hown2
          have HB := Lib.hid hB2
          clear hown2 hB2 hown hB
          generalize 2 ^ n = P at hsl
          go_wp2_with fail
          refine ⟨⟨k + 1, by omega, by omega, by go_num, HO.out, HB.out⟩, ?_⟩
          simp [intOf]
          omega
    · have hm : (min most (n : Int) + 1).toNat = k := by omega
      have hd : ¬ ((k : Int) ≤ most ∧ k ≤ n) := hlt
      obtain ⟨ad, cap, rfl, _⟩ := Own.shape hown
      have hM := Lib.hid hm
      clear hm
      by_cases hkk : (k : Int) ≤ most
      · have hkn : ¬ ((k : Int) ≤ (n : Int)) := by omega
        have hd2 : decide ((k : Int) ≤ (n : Int)) = false := decide_eq_false_iff_not.2 hkn
        go_wp2_with fail
        go_ret
        rw [hM.out]
        exact ⟨ad, cap, rfl, hown, hB⟩
      · go_wp2_with fail
        go_ret
        rw [hM.out]
        exact ⟨ad, cap, rfl, hown, hB⟩
end Go.Proofs.YtbgigimapogkcaaDoor.Cut
