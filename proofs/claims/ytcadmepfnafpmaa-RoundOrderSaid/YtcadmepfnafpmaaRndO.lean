/- Two rounds side by side, and readings in two orders (layer 25). -/
import Derived.Test.YtcadmepfnafpmaaRndK
namespace Go.Proofs.Ytcadmepfnafpmaa.Rnd
open Go.ChangeShapes Go.WideShapes Go.ChangeAt Go.RowKit
set_option linter.unusedVariables false
set_option linter.unusedSimpArgs false
def rowA (zs : List Int) (k : Nat) : List Rg := (List.range k).map (fun i : Nat => ((i : Int), zs.getD i 0))
/-- Which one is noted j-th, from behind and turned by T. -/
def ix (n T j : Nat) : Nat := (n - 1 - j + T) % n
def rowB (zs : List Int) (n T k : Nat) : List Rg := (List.range k).map (fun j : Nat => ((ix n T j : Int), zs.getD (ix n T j) 0))
theorem ix_lt {n T j : Nat} (h : j < n) : ix n T j < n := Nat.mod_lt _ (by omega)
theorem ix_ne {n T j k : Nat} (hjk : j < k) (hk : k < n) : ix n T j ≠ ix n T k := fun e => by
  have h := Nat.sub_mod_eq_zero_of_mod_eq (m := n - 1 - j + T) (n := n - 1 - k + T) (k := n) e
  rw [show n - 1 - j + T - (n - 1 - k + T) = k - j by omega, Nat.mod_eq_of_lt (by omega)] at h
  omega
theorem keys_rowA (zs : List Int) (k : Nat) : keysR (rowA zs k) = (List.range k).map (fun i : Nat => (i : Int)) := by simp [keysR, rowA, Function.comp_def]
theorem keys_rowB (zs : List Int) (n T k : Nat) : keysR (rowB zs n T k) = (List.range k).map (fun j : Nat => (ix n T j : Int)) := by simp [keysR, rowB, Function.comp_def]
theorem rowA_len (zs : List Int) (k : Nat) : (rowA zs k).length = k := by simp [rowA]
theorem rowA_step (zs : List Int) {k : Nat} (hk : k < 64) : noteL (rowA zs k) (k : Int) (zs.getD k 0) = rowA zs (k + 1) := by
  have hn : hasR (rowA zs k) (k : Int) = false := by
    rw [hasR_no, keys_rowA]
    intro h
    obtain ⟨i, hi, e⟩ := List.mem_map.1 h
    have := List.mem_range.1 hi
    omega
  unfold noteL
  rw [if_neg (by omega), hn, if_neg (by simp)]
  unfold rowA
  rw [List.range_succ, List.map_append]
  rfl
theorem rowB_step (zs : List Int) {n T k : Nat} (hk : k < n) (hn : n ≤ 64) : noteL (rowB zs n T k) (ix n T k : Int) (zs.getD (ix n T k) 0) = rowB zs n T (k + 1) := by
  have hx := ix_lt (T := T) hk
  have hn : hasR (rowB zs n T k) (ix n T k : Int) = false := by
    rw [hasR_no, keys_rowB]
    intro h
    obtain ⟨i, hi, e⟩ := List.mem_map.1 h
    have hi := List.mem_range.1 hi
    exact ix_ne (T := T) hi hk (by omega)
  unfold noteL
  rw [if_neg (by omega), hn, if_neg (by simp)]
  unfold rowB
  rw [List.range_succ, List.map_append]
  rfl
theorem nodup_ix (n T : Nat) : ((List.range n).map (fun j : Nat => (ix n T j : Int))).Nodup := by
  refine List.pairwise_map.2 (List.pairwise_lt_range.imp_of_mem (fun {i j} hi hj hij e => ?_))
  exact ix_ne (T := T) hij (List.mem_range.1 hj) (by omega)
theorem ix_all {n T a : Nat} (ha : a < n) : (a : Int) ∈ (List.range n).map (fun j : Nat => (ix n T j : Int)) := by
  by_cases h : (a : Int) ∈ (List.range n).map (fun j : Nat => (ix n T j : Int))
  · exact h
  · exfalso
    have := nodup_lenI n (l := (a : Int) :: (List.range n).map (fun j : Nat => (ix n T j : Int))) (List.nodup_cons.2 ⟨h, nodup_ix n T⟩) (fun x hx => by
      rcases List.mem_cons.1 hx with rfl | hx
      · omega
      · obtain ⟨j, hj, rfl⟩ := List.mem_map.1 hx
        have := ix_lt (T := T) (List.mem_range.1 hj)
        omega)
    simp at this
    omega
theorem nodup_up (n : Nat) : ((List.range n).map (fun i : Nat => (i : Int))).Nodup := List.pairwise_map.2 (List.nodup_range.imp (fun h e => h (by omega)))
/-- In whatever order: the same readings. -/
theorem row_perm (zs : List Int) (n T : Nat) : (rowB zs n T n).Perm (rowA zs n) := by
  have h : ((List.range n).map (fun j : Nat => (ix n T j : Int))).Perm ((List.range n).map (fun i : Nat => (i : Int))) := by
    rw [List.perm_iff_count]
    intro a
    rw [(nodup_ix n T).count, (nodup_up n).count]
    have e : a ∈ (List.range n).map (fun j : Nat => (ix n T j : Int)) ↔ a ∈ (List.range n).map (fun i : Nat => (i : Int)) := by
      constructor
      · intro h
        obtain ⟨j, hj, rfl⟩ := List.mem_map.1 h
        exact List.mem_map.2 ⟨ix n T j, List.mem_range.2 (ix_lt (List.mem_range.1 hj)), rfl⟩
      · intro h
        obtain ⟨i, hi, rfl⟩ := List.mem_map.1 h
        exact ix_all (List.mem_range.1 hi)
    by_cases h : a ∈ (List.range n).map (fun i : Nat => (i : Int))
    · rw [if_pos h, if_pos (e.2 h)]
    · rw [if_neg h, if_neg (fun h' => h (e.1 h'))]
  have h2 := h.map (fun i : Int => (i, zs.getD i.toNat 0))
  rw [List.map_map, List.map_map] at h2
  exact h2
/-- A round's box is no map. -/
theorem RR.apart {w : World} {B B' g g' : Nat} {no no' : Int} {mb mb' : Option Nat} {L L' : List Rg} (h : RR w B g no mb L) (h' : RR w B' g' no' mb' L') {b : Nat} (e : mb' = some b) : g ≠ b := by
  rintro rfl
  rcases h'.map with ⟨e', _⟩ | ⟨b', D, e', _, ho, _⟩
  · rw [e'] at e; cases e
  · rw [e'] at e
    cases e
    obtain ⟨es, cl, hes, -⟩ := ho
    have := h.blk.symm.trans hes
    simp at this
/-- Two rounds of the call's own. -/
structure Pair (w wr : World) (ga gb : Nat) (ma mb : Option Nat) (A B : List Rg) : Prop where
  a : RR wr w.heap.size ga 1 ma A
  b : RR wr w.heap.size gb 1 mb B
  ne : ga ≠ gb
  ms : ∀ x, ma = some x → mb ≠ some x
  below : Below w.heap.size w wr
theorem Pair.noteA {w W W' : World} {ga gb : Nat} {ma mb : Option Nat} {A B A' : List Rg} {er : Int} {e : Ending} (h : Pair w W ga gb ma mb A B) (hp : NotePost W w.heap.size ga 1 ma A' er e W') :
    e = .returned (.int .i64 er) ∧ ∃ ma', Pair w W' ga gb ma' mb A' B := by
  obtain ⟨ma', rfl, hr, hm, hs⟩ := hp
  refine ⟨rfl, ma', hr, ?_, h.ne, ?_, ?_⟩
  · refine h.b.of (hs.block _ h.b.lt (fun hf => ?_)) (fun x e => hs.block _ (h.b.map.lt e).1 (fun hf => ?_))
    · rcases hf with hf | hf
      · exact h.ne hf.symm
      · exact h.b.apart h.a hf rfl
    · rcases hf with hf | hf
      · exact h.a.apart h.b e hf.symm
      · exact h.ms x hf e
  · intro x e e'
    rcases hm with rfl | ⟨y, rfl, hy⟩
    · exact h.ms x e e'
    · cases e
      have := (h.b.map.lt e').1
      omega
  · exact h.below.trans (hs.below (fun k hk => by
      rcases hk with rfl | hk
      · exact h.a.ge
      · exact (h.a.map.lt hk).2) h.below.size)
theorem Pair.flip {w W : World} {ga gb : Nat} {ma mb : Option Nat} {A B : List Rg} (h : Pair w W ga gb ma mb A B) : Pair w W gb ga mb ma B A := ⟨h.b, h.a, h.ne.symm, fun x e e' => h.ms x e' e, h.below⟩
theorem Pair.noteB {w W W' : World} {ga gb : Nat} {ma mb : Option Nat} {A B B' : List Rg} {er : Int} {e : Ending} (h : Pair w W ga gb ma mb A B) (hp : NotePost W w.heap.size gb 1 mb B' er e W') :
    e = .returned (.int .i64 er) ∧ ∃ mb', Pair w W' ga gb ma mb' A B' := by
  obtain ⟨e, m, h'⟩ := h.flip.noteA hp
  exact ⟨e, m, h'.flip⟩
theorem Pair.later {w W W' : World} {ga gb : Nat} {ma mb : Option Nat} {A B : List Rg} (h : Pair w W ga gb ma mb A B) (hB : Below W.heap.size W W') : Pair w W' ga gb ma mb A B :=
  ⟨h.a.below hB, h.b.below hB, h.ne, h.ms, h.below.trans (hB.mono h.below.size)⟩
/-- Two rounds, whatever blocks their maps lie in. -/
def Both (w wr : World) (ga gb : Nat) (A B : List Rg) : Prop := ∃ ma mb, Pair w wr ga gb ma mb A B
theorem both_start {w w1 w2 : World} {ga gb : Nat} (ha : RR w1 w.heap.size ga 1 none []) (hB1 : Below w.heap.size w w1) (hb : RR w2 w1.heap.size gb 1 none []) (hB2 : Below w1.heap.size w1 w2) : Both w w2 ga gb [] [] :=
  ⟨none, none, ha.below hB2, ⟨hb.blk, .inl ⟨rfl, rfl⟩, Nat.le_trans hB1.size hb.ge, hb.ok⟩, fun e => by have := ha.lt; have := hb.ge; omega, fun x e => (by cases e), hB1.trans (hB2.mono hB1.size)⟩
theorem mod_ix {n T k : Nat} (hk : k < n) : ((n : Int) - 1 - (k : Int) + (T : Int)) % (n : Int) = (ix n T k : Int) ∧ ((n : Int) - 1 - (k : Int) + (T : Int)).tmod (n : Int) = (ix n T k : Int) := by
  have e : (n : Int) - 1 - (k : Int) + (T : Int) = ((n - 1 - k + T : Nat) : Int) := by omega
  have h : ((n : Int) - 1 - (k : Int) + (T : Int)) % (n : Int) = (ix n T k : Int) := by
    rw [e]
    unfold ix
    rw [Int.natCast_emod]
  exact ⟨h, by rw [Int.tmod_eq_emod_of_nonneg (by omega)]; exact h⟩
end Go.Proofs.Ytcadmepfnafpmaa.Rnd
