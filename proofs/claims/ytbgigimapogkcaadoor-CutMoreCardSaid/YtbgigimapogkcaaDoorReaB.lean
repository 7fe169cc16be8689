/- Contracts of package reach (layer 17): the rings round a node (a loop by a label and goto). -/
import Derived.Test.YtbgigimapogkcaaDoorReaA
import Derived.Test.YtbgigimapogkcaaDoorNodesD
import Derived.WalkMore
import Derived.ScopeJumps
import Derived.Deep.Cut
namespace Go.Proofs.YtbgigimapogkcaaDoor.Rea
open Go.RowKit Go.Shelf Go.ChangeShapes Go.WideShapes Go.ChangeAt
open Grf (Pr GR Ok nearP)
open Nodes (Tabs mem ret_int)
set_option linter.unusedVariables false
set_option maxRecDepth 100000
theorem infoSet : (Tryd.prog.info? 31).map (fun i => (i.zero, i.size, i.bytes)) = some (some (.int .u64 0), 1, 8) := by kernel_rfl
/-- A slice of sets of the call's own. -/
def OwnU (W : World) (base : Nat) (v : Value) (zs : List Nat) : Prop := W.ownsRow base 31 1 v zs.length (zs.map fun z : Nat => Value.int .u64 (z : Int))
theorem OwnU.snoc {W : World} {base : Nat} {v : Value} {zs : List Nat} {x : Nat} (h : W.ownsRow base 31 1 v (zs.length + 1) ((zs.map fun z : Nat => Value.int .u64 (z : Int)) ++ [.int .u64 (x : Int)])) : OwnU W base v (zs ++ [x]) := by
  unfold OwnU
  rw [List.length_append, List.map_append]
  exact h
theorem OwnU.below {W W' : World} {base : Nat} {v : Value} {zs : List Nat} (h : OwnU W base v zs) (hB : Below W.heap.size W W') : OwnU W' base v zs :=
  World.ownsRow.kept h (row := Option.none) ⟨hB.os, hB.tape, hB.output, hB.size, fun j hj _ => hB.block j hj⟩ (by cases hv : Value.ownBlock _ <;> simp)
def RingsPost (n S : Nat) (L : List Pr) (i : Nat) (w : World) (e : Ending) (w' : World) : Prop :=
  ∃ c ad cap, e = .returned (.slice ad c cap) ∧ IsCnt n S L i c ∧ OwnU w' w.heap.size (.slice ad c cap) (ringsL n S L i c) ∧ Below w.heap.size w w'
def cntOf : Value → Nat | .slice _ k _ => k | _ => 0
/-- The frame at the label, k rings being there. -/
def RJ (n S : Nat) (L : List Pr) (i : Nat) (p : Option Addr) (z : Int) (w : World) (a : Act) (W : World) : Prop :=
  ∃ (k : Nat) (ad : Option Addr) (cap : Nat) (u10 u11 u12 u13 u14 u15 u16 u17 u18 u19 u20 u21 u22 u23 u24 u25 u26 u27 u28 u29 u30 u31 u32 : Value), a = { tmps := List.toArray (.pointer p :: .int .i64 z :: .int .u64 (S : Int) :: undef :: undef :: undef :: .slice none 0 0 :: .slice ad k cap :: .int .u64 (restN n S L i k : Nat) :: .int .u64 (ringN n S L i k : Nat) :: u10 :: u11 :: u12 :: u13 :: u14 :: u15 :: u16 :: u17 :: u18 :: u19 :: u20 :: u21 :: u22 :: u23 :: u24 :: u25 :: u26 :: u27 :: u28 :: u29 :: u30 :: u31 :: u32 :: []), defers := [] } ∧
    OwnU W w.heap.size (.slice ad k cap) (ringsL n S L i k) ∧ Below w.heap.size w W ∧ (∀ j, j < k → ringN n S L i j ≠ 0) ∧ k ≤ n
set_option maxHeartbeats 4000000 in
theorem rings_any (p : Option Addr) (n : Nat) (L : List Pr) (z : Int) (S : Nat) (hS : S < 18446744073709551616) (w : World) (h : GP w p n L) (hT : Tabs w) :
    Calls Tryd.prog 57 #[.pointer p, .int .i64 z, .int .u64 S] w (RingsPost n S L (src z) w) := by
  obtain ⟨i0, hi, hz0, hz1, hz2⟩ := info_parts infoSet
  have hn := h.le
  have HN := Lib.hid hn
  have C1 := Lib.hid (left_any p n L S hS w h)
  have C2 := Lib.hid (fun W (hr : Nodes.Rd W (some ⟨w.heap.size, 0, none⟩) [z]) => Nodes.of_any (some ⟨w.heap.size, 0, none⟩) 1 1 [z] W rfl (by omega) hr)
  have C3 := Lib.hid (fun T (hT' : T < 18446744073709551616) W (hB : Below w.heap.size w W) => about_any p n L T hT' W (h.below hB) (hT.below hB))
  have HR0 := Lib.hid (ring_zero (L := L) hn hS z)
  have HL0 := Lib.hid (rest_zero (L := L) (i := src z) hn hS)
  have HA0 := Lib.hid (u64_and_nat (Nodes.ofL [z]) (leftN n S) (Nodes.setP_lt _) (left_lt n S))
  clear h hT
  generalize src z = i at *
  go_enter Tryd.func57, Tryd.ntmps57
  go_wp2_with fail
  refine (fun (pass : ∀ a W, RJ n S L i p z w a W → Code.wp Tryd.prog _ (Exit.jump 0 (fun a' W' => RJ n S L i p z w a' W' ∧ 100 - cntOf (a'.tmps.getD 7 undef) < 100 - cntOf (a.tmps.getD 7 undef)) _) a W) => wp_scope_jumps 0 (RJ n S L i p z w) (fun a _ => 100 - cntOf (a.tmps.getD 7 undef)) rfl ?first (fun a W h => wp_seq (wp_skip (pass a W h)))) ?pass
  case first =>
    go_wp2_with fail
    refine (C1.out).mono ?_; rintro e w' ⟨rfl, rfl⟩
    have hB1 : Below w.heap.size w (w.alloc (.cells #[.int .i64 z] 3)) := (Below.refl _ _).alloc (Nat.le_refl _) _
    have hR1 : Nodes.Rd (w.alloc (.cells #[.int .i64 z] 3)) (some ⟨w.heap.size, 0, none⟩) [z] := .inr ⟨w.heap.size, 0, rfl, fun j hj => by
      obtain rfl : j = 0 := by simp at hj; omega
      simp⟩
    have C2' := Lib.hid (C2.out _ hR1)
    go_wp2_with fail
    refine (C2'.out).mono ?_; rintro e w' ⟨rfl, rfl⟩
    go_wp2_with fail
    go_step3
    rename_i K1 hK1
    refine hK1 _ _ (wp_mono (pass _ _ ?_) ?_)
    · rw [HA0.out, HR0.out, ← HL0.out]
      exact ⟨0, none, 0, _, _, _, _, _, _, _, _, _, _, _, _, _, _, _, _, _, _, _, _, _, _, _, rfl, World.ownsRow_nil _ _ _ _, hB1, fun j hj => by omega, by omega⟩
    · intro e a W he
      cases e <;> first | exact he | exact ⟨he.1, he.2.1⟩
  case pass =>
    rintro a W ⟨k, ad, cap, u10, u11, u12, u13, u14, u15, u16, u17, u18, u19, u20, u21, u22, u23, u24, u25, u26, u27, u28, u29, u30, u31, u32, rfl, hown, hB, hne, hk⟩
    have HNE := Lib.hid hne
    have hrl := ring_lt (n := n) (S := S) (L := L) (i := i) k
    have hsl := rest_lt (n := n) (S := S) (L := L) (i := i) k
    have HLEN := rings_len (n := n) (S := S) (L := L) (i := i) k
    clear hne
    by_cases hr0 : ringN n S L i k = 0
    · have HP : Hid (RingsPost n S L i w (.returned (.slice ad k cap)) W) := Lib.hid ⟨k, ad, cap, rfl, cnt_made hn hr0 HNE.out, hown, hB⟩
      rw [hr0]
      clear hown hB hrl hsl HLEN HNE hr0
      go_wp2_with fail
      simp only [Exit.jump]
      go_ret
      exact HP.out
    · obtain ⟨x, hx⟩ := ring_some hn hr0
      have hkn : k + 1 ≤ n := by have := dst_hi (n := n) (S := S) (L := L) i x (by omega); omega
      have hne0 : ((ringN n S L i k : Nat) : Int) ≠ 0 := by omega
      have HRS := Lib.hid (rings_snoc (n := n) (S := S) (L := L) (i := i) k)
      have HX1 := Lib.hid (u64_andNot_nat (restN n S L i k) (ringN n S L i k) hsl hrl)
      have HX2 := Lib.hid (rest_succ (L := L) (S := S) (i := i) hn k)
      have HX3 := Lib.hid (u64_and_nat (aboutL L (mem (ringN n S L i k))) (restN n S L i (k + 1)) (about_lt _) (rest_lt _))
      have HX4 := Lib.hid (ring_succ (L := L) (S := S) (i := i) hn k)
      have HNE2 : Hid (∀ j, j < k + 1 → ringN n S L i j ≠ 0) := Lib.hid (fun j hj => by
        by_cases e : j = k
        · rw [e]; exact hr0
        · exact HNE.out j (by omega))
      have CA := Lib.hid (C3.out (ringN n S L i k) hrl)
      have hsz := hB.size
      have hlen : (ringsL n S L i k).length = k := HLEN
      unfold OwnU at hown
      rw [hlen] at hown
      have HRE := Lib.hid (rfl : ringN n S L i (k + 1) = ringN n S L i (k + 1))
      generalize hre : restN n S L i (k + 1) = re at *
      generalize hrn : ringN n S L i k = rg at *
      clear hr0 hx HLEN
      go_wp2_with (at_builtin; refine Own.wpList_append2 _ rfl _ _ 94 rfl w.heap.size 31 i0 (.int .u64 0) 1 8 Tryd.underlying94 hi hz0 hz1 hz2 rfl (by decide) _ _ _ rfl (World.ownsRow.alloc hown _) ⟨W.heap.size, 0, none⟩ 1 1 [.int .u64 (rg : Int)] rfl rfl (cell_one_new _ _ _) (by simp [Value.oneCell']) (by unfold maxLen; omega) (by omega) (by simp; omega) ?_; intro v' w1 hown' hgrow _ _)
      obtain ⟨g', cap', rfl⟩ := ownsRow_succ hown'
      have hB1 := hB.trans (Own.below_append hown hsz hgrow)
      have CB := Lib.hid (CA.out _ hB1)
      have HO1 : Hid (OwnU w1 w.heap.size (.slice (some ⟨g', 0, none⟩) (k + 1) cap') (ringsL n S L i (k + 1))) := Lib.hid (by
        unfold OwnU
        rw [HRS.out, List.length_append, List.map_append, hlen]
        exact hown')
      have HX5 : Hid (bits .andNot .u64 (restN n S L i k : Nat) rg = (re : Int)) := Lib.hid (by rw [HX1.out, ← HX2.out]; rfl)
      have HX6 : Hid (bits .and .u64 (aboutL L (mem rg) : Nat) re = (ringN n S L i (k + 1) : Int)) := Lib.hid (by rw [HX3.out, HX4.out])
      have HB1 := Lib.hid hB1
      clear hgrow hown hown' hB1 hB HX1 HX2 HX3 HX4
      refine (CB.out).mono ?_; rintro e w2 ⟨rfl, hB2⟩
      rw [HX5.out]
      go_wp2_with fail
      go_step3
      rw [HX6.out]
      refine ⟨rfl, ⟨k + 1, some ⟨g', 0, none⟩, cap', _, _, _, _, _, _, _, _, _, _, _, _, _, _, _, _, _, _, _, _, _, _, _, by rw [hre], HO1.out.below hB2, HB1.out.trans (hB2.mono HB1.out.size), HNE2.out, hkn⟩, ?_⟩
      simp [cntOf]
      omega
end Go.Proofs.YtbgigimapogkcaaDoor.Rea
