/- Contracts (layer 16): lists of links of the call's own; rings and full graphs, the program's and the document's. -/
import Derived.Test.YtlmdandgjapmjaaGrfA
import Derived.Deep.Cut
namespace Go.Proofs.Ytlmdandgjapmjaa.Grf
open Go.ChangeShapes Go.WideShapes Go.ChangeAt Go.RowKit
set_option linter.unusedVariables false
def OwnG (W : World) (base : Nat) (v : Value) (L : List Pr) : Prop := Rw.OwnS enc 2 53 W base v L
def RdG (W : World) (ad : Option Addr) (L : List Pr) : Prop := Rw.Rd enc 2 W ad L
def LPost (L : List Pr) (w : World) (x : Ending) (w' : World) : Prop :=
  ∃ ad cap, x = .returned (.slice ad L.length cap) ∧ OwnG w' w.heap.size (.slice ad L.length cap) L ∧ Below w.heap.size w w'
theorem infoPr : (Try.prog.info? 53).map (fun i => (i.zero, i.size, i.bytes)) = some (some (.agg #[.int .i64 0, .int .i64 0]), 2, 16) := by kernel_rfl
theorem rd_at {w : World} {ad : Option Addr} {L : List Pr} (h : RdG w ad L) {i : Nat} (hi : i < L.length) : ∃ b off, ad = some ⟨b, off, none⟩ ∧ b < w.heap.size ∧
    w.cell? ⟨b, off + i * 2, none⟩ = some (.int .i64 (L.getD i (0, 0)).1) ∧ w.cell? ⟨b, off + i * 2 + 1, none⟩ = some (.int .i64 (L.getD i (0, 0)).2) := by
  obtain ⟨b, off, e, hb, ha⟩ := Rw.Rd.at_ h hi
  exact ⟨b, off, e, hb, ha 0 _ rfl, ha 1 _ rfl⟩
theorem OwnG.rd {W : World} {base n cap : Nat} {ad : Option Addr} {L : List Pr} (h : OwnG W base (.slice ad n cap) L) : RdG W ad L ∧ n = L.length := Rw.OwnS.rd enc_len h
theorem OwnG.below {w w' : World} {base : Nat} {v : Value} {L : List Pr} (h : OwnG w base v L) (hB : Below w.heap.size w w') : OwnG w' base v L := Rw.OwnS.below h hB
theorem RdG.below {w w' : World} {ad : Option Addr} {L : List Pr} (h : RdG w ad L) (hB : Below w.heap.size w w') : RdG w' ad L := Rw.Rd.below h hB
theorem OwnG.shape {w : World} {base : Nat} {v : Value} {L : List Pr} (h : OwnG w base v L) : ∃ ad cap, v = .slice ad L.length cap := by
  obtain ⟨ad, cap, e, _⟩ := Own.shape h
  exact ⟨ad, cap, e⟩
theorem OwnG.nil (w : World) (base : Nat) : OwnG w base (.slice none 0 0) [] := Rw.OwnS.nil w base
theorem OwnG.lit0 (w : World) : OwnG (w.alloc (.cells #[] 53)) w.heap.size (.slice (some ⟨w.heap.size, 0, none⟩) 0 0) [] := Rw.OwnS.lit w [] enc_len (by simp)
theorem tmp_cells (W : World) (x y : Int) (e : TypeId) : ∀ j u, (enc (x, y))[j]? = some u → (W.alloc (.cells #[.int .i64 x, .int .i64 y] e)).cell? ((⟨W.heap.size, 0, none⟩ : Addr).add j) = some u := fun j u h => by
  have := Rw.At.box (enc := enc) (e := e) W (x, y) _ rfl j u h
  rw [Addr.add_lit]
  exact this
/-- An append of one link. -/
theorem app_one {wr : World} {ops : Array Oper} {rest : List Oper} {o : Oper} {a : Act} {Q : Exit → Act → World → Prop} (hgd : o.guard = none) (s x : Operand)
    (ho : o.op = .call { callee := .builtin .append, args := #[s, x], argTypes := #[22, 22] }) (base : Nat) (v : Value) (L : List Pr) (hs : a.eval s = v) (hown : OwnG wr base v L)
    (p q : Int) (hx : a.eval x = .slice (some ⟨wr.heap.size, 0, none⟩) 1 1) (hl : L.length < 1099511627776) (hbase : base ≤ wr.heap.size)
    (h : ∀ v' w', OwnG w' base v' (L ++ [(p, q)]) → Below base wr w' → (∀ k, k < wr.heap.size → some k ≠ v.ownBlock → w'.heap[k]? = wr.heap[k]?) → wpList Try.prog ops Q rest (a.put o.dst v') w') :
    wpList Try.prog ops Q (o :: rest) a (wr.alloc (.cells #[.int .i64 p, .int .i64 q] 53)) := by
  obtain ⟨i0, hi, hz0, hz1, hz2⟩ := info_parts infoPr
  refine Own.wpList_append2 _ hgd s x 22 ho base 53 i0 (.agg #[.int .i64 0, .int .i64 0]) 2 16 Try.underlying22 hi hz0 hz1 hz2 rfl (by decide) v L.length (L.flatMap enc) hs (World.ownsRow.alloc hown _) ⟨wr.heap.size, 0, none⟩ 1 1 (enc (p, q)) hx rfl (tmp_cells wr p q _) (by simp [enc, Value.oneCell']) (by unfold maxLen; omega) (by omega) (by rw [World.size_alloc]; omega) ?_
  intro v' w1 hown' hgrow _ _
  refine h v' w1 (Rw.OwnS.snoc enc_len hown') (Own.below_append hown hbase hgrow) (fun k hk hne => ?_)
  exact (hgrow.block k (by rw [World.size_alloc]; omega) hne).trans (Below.heap_alloc wr _ k hk)
def fullZ (z : Int) : List Pr := if 64 < z then [] else full z.toNat
def ringZ (z : Int) : List Pr := if 64 < z then [] else ring z.toNat
theorem full_len64 {n : Nat} (h : n ≤ 64) (m : Nat) (hm : m ≤ n) : (allU yes n m).length ≤ 4096 := Nat.le_trans (allU_len yes n m) (Nat.le_trans (Nat.mul_le_mul_right n hm) (Nat.mul_le_mul h h))
theorem row_len (q : Nat → Nat → Bool) (a c : Nat) : (rowU q a c).length ≤ c := by
  unfold rowU
  rw [List.length_map]
  have := List.length_filter_le (q a) (List.range' (a + 1) c)
  rw [List.length_range'] at this
  exact this
theorem ringU_len (k : Nat) : (ringU k).length = k := by simp [ringU]
theorem ring_two {n : Nat} (h : 2 < n) : ring n = ringU (n - 1) ++ [(((n - 1 : Nat) : Int), 0)] := by unfold ring; rw [if_pos h]
theorem ring_few {n : Nat} (h : ¬ 2 < n) : ring n = ringU (n - 1) := by unfold ring; rw [if_neg h, List.append_nil]
def ringS (n k : Nat) : List Pr := if k < n then ringU k else ring n
end Go.Proofs.Ytlmdandgjapmjaa.Grf
