/- Contracts of package graph (layer 16): a graph in memory; the empty one, a link's name, how many nodes, is it a node. -/
import Derived.Test.YtlmdandgjapmjaaGrfM
import Derived.Test.YtlmdandgjapmjaaNodX
import Derived.Test.YtlmdandgjapmjaaRowC
import Derived.Test.YtlmdandgjapmjaaTabB
import Derived.Deep.RegionHeldLaw
import Derived.ChangeKeysEq
namespace Go.Proofs.Ytlmdandgjapmjaa.Grf
open Go.ChangeShapes Go.WideShapes Go.ChangeAt Go.RowKit
open Go.WideMaps (KeyLaw)
set_option linter.unusedVariables false
def enc (p : Pr) : List Value := [.int .i64 p.1, .int .i64 p.2]
def pval (p : Pr) : Value := .agg #[.int .i64 p.1, .int .i64 p.2]
theorem enc_len (p : Pr) : (enc p).length = 2 := rfl
theorem pval_inj {x y : Pr} (h : pval x = pval y) : x = y := by
  unfold pval at h
  simp only [Value.agg.injEq, Array.mk.injEq, List.cons.injEq, Value.int.injEq, true_and, and_true] at h
  exact Prod.ext h.1 h.2
def inI (z : Int) : Prop := -9223372036854775808 ≤ z ∧ z ≤ 9223372036854775807
theorem laidOutG : laidOutB Try.prog = true := by kernel_rfl
theorem rowG : (53 : TypeId) < Try.prog.types.size := of_decide_eq_true (by kernel_rfl)
theorem wideG : (match Try.prog.underlying 53 with | some (.array _ _) | some (.struct _) => true | _ => false) = true := by rw [Try.underlying53]
set_option maxRecDepth 100000 in
theorem lawG : KeyLaw Try.prog 53 := deep_law_laid laidOutG (m := 2) (by omega) rowG (by kernel_rfl) wideG
set_option maxRecDepth 100000 in
theorem litsG (a b : Int) (h1 : (Lit.int .i64 a).wf = true) (h2 : (Lit.int .i64 b).wf = true) :
    ∃ kl, Try.prog.keyLits (Try.prog.types.size + 1) 53 [.int .i64 a, .int .i64 b] = some kl := by
  obtain ⟨m, hm⟩ : ∃ m, Try.prog.types.size = m + 1 := Nat.exists_eq_add_one_of_ne_zero (fun h => by have h' := rowG; rw [h] at h'; exact absurd h' (Nat.not_lt_zero _))
  have c0 : Try.prog.cellsOf 53 = 2 := by kernel_rfl
  have c1 : Try.prog.cellsOf 3 = 1 := by kernel_rfl
  rw [hm]
  simp [Program.keyLits, Try.underlying53, Try.underlying3, c0, c1, h1, h2, show List.range 2 = [0, 1] from rfl]
theorem key_read (x : Pr) (h1 : inI x.1) (h2 : inI x.2) : ∃ kl, keyOf Try.prog 53 (pval x) = some kl := by
  obtain ⟨a, b⟩ := x
  unfold inI at h1 h2
  have h1 : (Lit.int .i64 a).wf = true := by simp [Lit.wf, IntKind.min, IntKind.max, IntKind.bits, IntKind.signed]; omega
  have h2 : (Lit.int .i64 b).wf = true := by simp [Lit.wf, IntKind.min, IntKind.max, IntKind.bits, IntKind.signed]; omega
  have hu := Try.underlying53
  have hk : Try.prog.keyType 53 = true := by kernel_rfl
  have hf : (pval (a, b)).formed Try.prog 53 = true := by
    have hc : Try.prog.cellsOf 53 = 2 := by kernel_rfl
    simp [pval, Value.formed, hu, hc]
  obtain ⟨kl, hkl⟩ := litsG a b h1 h2
  unfold keyOf
  rw [hu]
  simp only [hk, hf, Bool.and_self, if_true]
  have : (pval (a, b)).cells.toList = [.int .i64 a, .int .i64 b] := rfl
  rw [this, hkl]
  exact ⟨_, rfl⟩
theorem zeroS (w : World) : (zeroValue 71).run Try.prog w = .ok (.agg #[]) w := by kernel_rfl
/-- The map of a graph, by names of links. -/
def gmap (L : List Pr) : Pr → Option Value := fun x => if x.1 ≤ x.2 ∧ lk L x.1 x.2 = true then some (.agg #[]) else none
def nears (L : List Pr) : List Value := (List.range 64).map fun i : Nat => .int .u64 ((nearP L (i : Int) : Nat) : Int)
def gcells (n b : Nat) (L : List Pr) : Array Value := (.int .i64 (n : Int) :: .map (some b) :: nears L).toArray
/-- A graph in memory. -/
structure GR (w : World) (g b n : Nat) (L : List Pr) : Prop where
  blk : Rw.Blk w g 70 (gcells n b L)
  map : Tb.Is Try.prog 53 pval w b L.length (gmap L)
  ok : Ok n L
  le : n ≤ 64
section
variable {w w' : World} {g b n : Nat} {L : List Pr}
theorem GR.below (h : GR w g b n L) (hB : Below w.heap.size w w') : GR w' g b n L := ⟨h.blk.below hB, h.map.below hB, h.ok, h.le⟩
theorem GR.ne (h : GR w g b n L) : g ≠ b := by
  rintro rfl
  obtain ⟨es, cl, hes, -⟩ := h.map
  have := h.blk.symm.trans hes
  simp at this
theorem GR.c0 (h : GR w g b n L) : w.cell? ⟨g, 0, none⟩ = some (.int .i64 (n : Int)) := by have := h.blk.cell 0; simpa [gcells] using this
theorem GR.c1 (h : GR w g b n L) : w.cell? ⟨g, 1, none⟩ = some (.map (some b)) := by have := h.blk.cell 1; simpa [gcells] using this
theorem gcells_near (n b : Nat) (L : List Pr) (i : Nat) (hi : i < 64) : (gcells n b L)[2 + i]? = some (.int .u64 ((nearP L (i : Int) : Nat) : Int)) := by
  have : (gcells n b L)[i + 2]? = (nears L)[i]? := by unfold gcells; simp
  rw [Nat.add_comm, this]
  unfold nears
  rw [List.getElem?_map, List.getElem?_range hi]
  rfl
theorem GR.cn (h : GR w g b n L) (i : Nat) (hi : i < 64) : w.cell? ⟨g, 2 + i, none⟩ = some (.int .u64 ((nearP L (i : Int) : Nat) : Int)) := (h.blk.cell (2 + i)).trans (gcells_near n b L i hi)
theorem GR.of (h : GR w g b n L) (hb : w'.heap[g]? = w.heap[g]?) (hm : w'.heap[b]? = w.heap[b]?) : GR w' g b n L := ⟨hb.trans h.blk, h.map.of_block hm, h.ok, h.le⟩
end
theorem ret_pair {x y : Pr} (h : x = y) : Ending.returned (pval x) = .returned (pval y) := by rw [h]
theorem gmap_nil : gmap [] = fun _ => none := by
  funext x
  unfold gmap
  rw [if_neg (by rw [lk_nil]; simp)]
theorem nears_nil : nears [] = List.replicate 64 (.int .u64 0) := by
  unfold nears
  simp only [near_nil]
  rfl
theorem GR.made (w w' : World) (n : Nat) (hn : n ≤ 64) (hg : w'.heap[w.heap.size + 1]? = some (.cells (gcells n w.heap.size []) 70 (0, 0))) (hb : w'.heap[w.heap.size]? = some (.map #[] 0)) : GR w' (w.heap.size + 1) w.heap.size n [] :=
  ⟨hg, by
    have h := Tb.Is.made (P := Try.prog) (k := 53) (kv := pval) w
    rw [gmap_nil]
    exact h.of_block (hb.trans (MapKept.heap_alloc w _).1.symm), ok_nil n, hn⟩
theorem zeroG (w : World) : (zeroValue 70).run Try.prog w = .ok (.agg (.int .i64 0 :: .map none :: List.replicate 64 (.int .u64 0)).toArray) w := by kernel_rfl
set_option maxRecDepth 100000 in
theorem empty_any (n : Nat) (hn : n ≤ 64) (w : World) :
    Calls Try.prog 25 #[.int .i64 (n : Int)] w fun e w' => ∃ g b, e = .returned (.pointer (some ⟨g, 0, none⟩)) ∧ GR w' g b n [] ∧ w.heap.size ≤ g ∧ w.heap.size ≤ b ∧ Below w.heap.size w w' := by
  have hmm := @run_makeMap Try.prog
  have hzz := zeroG
  have HP : Hid (∀ cs : Array Value, cs = gcells n w.heap.size [] → GR ((w.alloc (.map #[] 0)).alloc (.cells cs 70)) (w.heap.size + 1) w.heap.size n [] ∧ Below w.heap.size w ((w.alloc (.map #[] 0)).alloc (.cells cs 70))) := Lib.hid (fun cs e => by
    subst e
    refine ⟨GR.made w _ n hn ?_ ?_, ((Below.refl _ _).alloc (Nat.le_refl _) _).alloc (by simp) _⟩
    · have h := (MapKept.heap_alloc (w.alloc (.map #[] 0)) (.cells (gcells n w.heap.size []) 70)).1
      rw [World.size_alloc] at h
      exact h
    · exact (Below.heap_alloc (w.alloc (.map #[] 0)) _ w.heap.size (by simp)).trans (MapKept.heap_alloc w _).1)
  have HC : Hid (gcells n w.heap.size [] = (.int .i64 (n : Int) :: .map (some w.heap.size) :: List.replicate 64 (.int .u64 0)).toArray) := Lib.hid (by unfold gcells; rw [nears_nil])
  generalize List.replicate 64 (Value.int .u64 0) = zs at *
  go_enter Try.func25, Try.ntmps25
  go_wp2_with fail
  go_ret
  obtain ⟨h1, h2⟩ := HP.out _ HC.out.symm
  exact ⟨_, _, rfl, h1, by omega, Nat.le_refl _, h2⟩
theorem pair_any (a b : Int) (w : World) :
    Calls Try.prog 28 #[.int .i64 a, .int .i64 b] w fun e w' => e = .returned (pval (min a b, max a b)) ∧ Below w.heap.size w w' := by
  go_enter Try.func28, Try.ntmps28
  go_wp2_with fail
  go_returns
  refine ⟨rfl, ?_⟩
  go_grown
theorem n_any (g b n : Nat) (L : List Pr) (w : World) (h : GR w g b n L) :
    Calls Try.prog 22 #[.pointer (some ⟨g, 0, none⟩)] w fun e w' => e = .returned (.int .i64 (n : Int)) ∧ w = w' := by
  have c0 := h.c0
  clear h
  go_enter Try.func22, Try.ntmps22
  go_wp2_with fail
  go_ret
  exact ⟨rfl, rfl⟩
theorem n_nil (w : World) :
    Calls Try.prog 22 #[.pointer none] w fun e w' => e = .returned (.int .i64 0) ∧ w = w' := by
  go_enter Try.func22, Try.ntmps22
  go_wp2_with fail
  go_ret
  exact ⟨rfl, rfl⟩
theorem has_all {n : Nat} (hn : n ≤ 64) (z : Int) : Nodes.hasN (Nodes.allN (n : Int)) z = (decide (0 ≤ z) && decide (z < (n : Int))) := by
  unfold Nodes.hasN Nodes.allN
  rw [Nodes.bit_setP, Bool.eq_iff_iff]
  simp only [Bool.and_eq_true, decide_eq_true_iff]
  omega
theorem has_g (g b n : Nat) (L : List Pr) (z : Int) (w : World) (h : GR w g b n L) :
    Calls Try.prog 29 #[.pointer (some ⟨g, 0, none⟩), .int .i64 z] w fun e w' => e = .returned (.bool (decide (0 ≤ z) && decide (z < (n : Int)))) ∧ w = w' := by
  have hn := h.le
  have CN := Lib.hid (n_any g b n L w h)
  have CA := Lib.hid (Nodes.all_any (n : Int) (by omega) (by omega) w)
  have CH := Lib.hid (Nodes.has_any (Nodes.allN (n : Int)) (Nodes.setP_lt _) z w)
  rw [has_all hn z] at CH
  clear h
  go_enter Try.func29, Try.ntmps29
  go_wp2_with fail
  refine (CN.out).mono ?_; rintro e w' ⟨rfl, rfl⟩
  go_wp2_with fail
  refine (CA.out).mono ?_; rintro e w' ⟨rfl, rfl⟩
  go_wp2_with fail
  refine (CH.out).mono ?_; rintro e w' ⟨rfl, rfl⟩
  go_wp2_with fail
  go_ret
  exact ⟨rfl, rfl⟩
theorem has_nil (z : Int) (w : World) :
    Calls Try.prog 29 #[.pointer none, .int .i64 z] w fun e w' => e = .returned (.bool false) ∧ w = w' := by
  have CN := Lib.hid (n_nil w)
  have CA := Lib.hid (Nodes.all_any 0 (by omega) (by omega) w)
  have CH := Lib.hid (Nodes.has_any (Nodes.allN 0) (Nodes.setP_lt _) z w)
  have HA : Nodes.hasN (Nodes.allN 0) z = false := by
    have := has_all (n := 0) (by omega) z
    rw [show ((0 : Nat) : Int) = 0 from rfl] at this
    rw [this, Bool.and_eq_false_iff, decide_eq_false_iff_not, decide_eq_false_iff_not]
    omega
  rw [HA] at CH
  clear HA
  go_enter Try.func29, Try.ntmps29
  go_wp2_with fail
  refine (CN.out).mono ?_; rintro e w' ⟨rfl, rfl⟩
  go_wp2_with fail
  refine (CA.out).mono ?_; rintro e w' ⟨rfl, rfl⟩
  go_wp2_with fail
  refine (CH.out).mono ?_; rintro e w' ⟨rfl, rfl⟩
  go_wp2_with fail
  go_ret
  exact ⟨rfl, rfl⟩
end Go.Proofs.Ytlmdandgjapmjaa.Grf
