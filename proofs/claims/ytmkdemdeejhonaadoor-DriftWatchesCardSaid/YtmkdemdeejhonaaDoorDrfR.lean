/- Layer 28: the cells of a note and of a watch; a row stored into a part of another one. -/
import Derived.Test.YtmkdemdeejhonaaDoorDrfM
import Derived.Test.YtmkdemdeejhonaaDoorRowC
import Derived.Handy
import Derived.Laws.CopyOwn
namespace Go.Proofs.YtmkdemdeejhonaaDoor.Drf
open Go.ChangeShapes Go.WideShapes Go.ChangeAt Go.RowKit
open Go.Proofs.YtmkdemdeejhonaaDoor.Rw
open Nodes (mem mem_mem)
set_option linter.unusedVariables false
/-- A row of 66: a tick, a set, 64 numbers. -/
def row (t : Int) (s : Nat) (f : Nat → Int) : List Value := .int .i64 t :: .int .u64 (s : Int) :: (List.range 64).map fun i => .int .i64 (f i)
theorem row_len (t : Int) (s : Nat) (f : Nat → Int) : (row t s f).length = 66 := by simp [row]
theorem row_at (t : Int) (s : Nat) (f : Nat → Int) {i : Nat} (hi : i < 64) : (row t s f)[2 + i]? = some (.int .i64 (f i)) := by
  rw [show 2 + i = i + 1 + 1 by omega]
  simp [row, hi]
theorem row_one (t : Int) (s : Nat) (f : Nat → Int) : ∀ v ∈ row t s f, v.oneCell' = true := by
  intro v hv
  simp only [row, List.mem_cons, List.mem_map] at hv
  rcases hv with rfl | rfl | ⟨i, _, rfl⟩ <;> rfl
theorem row_congr (t : Int) (s : Nat) {f g : Nat → Int} (h : ∀ i, i < 64 → f i = g i) : row t s f = row t s g := by
  unfold row
  congr 2
  refine List.map_congr_left fun i hi => ?_
  rw [h i (List.mem_range.1 hi)]
theorem row_set (t : Int) (s : Nat) (f : Nat → Int) {i : Nat} (hi : i < 64) (v : Int) : (row t s f).set (2 + i) (.int .i64 v) = row t s (fun j => if j = i then v else f j) := by
  rw [show 2 + i = i + 1 + 1 by omega]
  simp only [row, List.set_cons_succ]
  congr 2
  refine List.ext_getElem (by simp) fun j h1 h2 => ?_
  rw [List.getElem_set]
  simp only [List.length_set, List.length_map, List.length_range] at h1
  by_cases h : i = j
  · subst h; simp
  · rw [if_neg h]
    simp only [List.getElem_map, List.getElem_range]
    rw [if_neg (fun e => h e.symm)]
/-- What is told so far, of these clocks. -/
def part (n : Nt) (l : List Nat) (i : Nat) : Int := if i ∈ l then n.t i else 0
theorem part_nil (n : Nt) (t : Int) (s : Nat) : row t s (part n []) = row t s (fun _ => 0) := row_congr _ _ fun i _ => by simp [part]
theorem part_snoc (n : Nt) (t : Int) (s : Nat) (l : List Nat) (k : Nat) : row t s (fun j => if j = k then n.t k else part n l j) = row t s (part n (l ++ [k])) := row_congr _ _ fun i _ => by
  unfold part
  by_cases h : i = k
  · subst h; simp
  · rw [if_neg h]
    simp [h]
/-- A note as it is kept. -/
def told (n : Nt) : Nat → Int := part n (mem n.s)
theorem told_at {n : Nt} {i : Nat} (h : i ∈ mem n.s) : told n i = n.t i := if_pos h
theorem told_bd (n : Nt) (i : Nat) : 0 ≤ told n i ∧ told n i ≤ 1152921504606846976 := by
  unfold told part
  split
  · exact n.t_bd i
  · omega
def ncells (n : Nt) : List Value := row (kp n.tick) n.s (told n)
theorem ncells_zero : ncells nt0 = row 0 0 (fun _ => 0) := row_congr _ _ fun i _ => by
  have : nt0.s = 0 := by simp [nt0, Nt.s]
  unfold told part
  rw [this, Nodes.mem_zero]
  simp
/-- A note's box. -/
abbrev NC (w : World) (b : Nat) (n : Nt) : Prop := Blk w b 50 (ncells n).toArray
section
variable {w : World} {b : Nat} {n : Nt}
theorem NC.tick (h : NC w b n) : w.cell? ⟨b, 0, none⟩ = some (.int .i64 (kp n.tick)) := by have := h.cell 0; simpa [ncells, row] using this
theorem NC.set (h : NC w b n) : w.cell? ⟨b, 1, none⟩ = some (.int .u64 (n.s : Int)) := by have := h.cell 1; simpa [ncells, row] using this
theorem NC.told (h : NC w b n) {i : Nat} (hi : i < 64) : w.cell? ⟨b, 2 + i, none⟩ = some (.int .i64 (told n i)) := by
  rw [h.cell (2 + i)]
  simpa [ncells] using row_at _ _ _ hi
end
/-- A watch. -/
structure Wt where
  eps : Int
  slow : Int
  fast : Int
  n : Nt
  gap : Int
  tick : Int
  apart : Nat
  pace : Nat
def wrow (a : Wt) : List Value := [.int .i64 a.eps, .int .i64 a.slow, .int .i64 a.fast] ++ (ncells a.n ++ [.int .i64 a.gap, .int .i64 a.tick, .int .i64 (a.apart : Int), .int .i64 (a.pace : Int)])
theorem nc_len (n : Nt) : (ncells n).length = 66 := row_len _ _ _
theorem wrow_len (a : Wt) : (wrow a).length = 73 := by simp [wrow, nc_len]
theorem wrow_lo (a : Wt) {i : Nat} (hi : i < 66) : (wrow a)[3 + i]? = (ncells a.n)[i]? := by
  unfold wrow
  rw [List.getElem?_append_right (by simp), List.getElem?_append_left (by simp [nc_len]; omega)]
  simp
theorem wrow_hi (a : Wt) (i : Nat) : (wrow a)[69 + i]? = ([.int .i64 a.gap, .int .i64 a.tick, .int .i64 (a.apart : Int), .int .i64 (a.pace : Int)] : List Value)[i]? := by
  unfold wrow
  rw [List.getElem?_append_right (by simp; omega), List.getElem?_append_right (by simp [nc_len]; omega)]
  simp [nc_len]
  rw [show 69 + i - 3 - 66 = i by omega]
theorem wrow_put (a : Wt) (i : Nat) (v : Value) : (wrow a).set (69 + i) v = [.int .i64 a.eps, .int .i64 a.slow, .int .i64 a.fast] ++ (ncells a.n ++ ([.int .i64 a.gap, .int .i64 a.tick, .int .i64 (a.apart : Int), .int .i64 (a.pace : Int)] : List Value).set i v) := by
  unfold wrow
  rw [List.set_append_right _ _ (by simp; omega), List.set_append_right _ _ (by simp [nc_len]; omega)]
  simp only [nc_len, List.length_cons, List.length_nil]
  rw [show 69 + i - (0 + 1 + 1 + 1) - 66 = i by omega]
/-- A watch's box. -/
abbrev WC (w : World) (g : Nat) (a : Wt) : Prop := Blk w g 52 (wrow a).toArray
section
variable {w : World} {g : Nat} {a : Wt}
theorem WC.eps (h : WC w g a) : w.cell? ⟨g, 0, none⟩ = some (.int .i64 a.eps) := by have := h.cell 0; simpa [wrow] using this
theorem WC.slow (h : WC w g a) : w.cell? ⟨g, 1, none⟩ = some (.int .i64 a.slow) := by have := h.cell 1; simpa [wrow] using this
theorem WC.fast (h : WC w g a) : w.cell? ⟨g, 2, none⟩ = some (.int .i64 a.fast) := by have := h.cell 2; simpa [wrow] using this
theorem WC.last (h : WC w g a) : w.cell? ⟨g, 3, none⟩ = some (.int .i64 (kp a.n.tick)) := by
  rw [h.cell 3]; simpa [ncells, row] using wrow_lo a (i := 0) (by omega)
theorem WC.set (h : WC w g a) : w.cell? ⟨g, 4, none⟩ = some (.int .u64 (a.n.s : Int)) := by
  rw [h.cell 4]; simpa [ncells, row] using wrow_lo a (i := 1) (by omega)
theorem WC.told (h : WC w g a) {i : Nat} (hi : i < 64) : w.cell? ⟨g, 5 + i, none⟩ = some (.int .i64 (told a.n i)) := by
  rw [h.cell (5 + i)]
  have e := wrow_lo a (i := 2 + i) (by omega)
  rw [show 3 + (2 + i) = 5 + i by omega] at e
  simp only [List.getElem?_toArray, e]
  exact row_at _ _ _ hi
theorem WC.gap (h : WC w g a) : w.cell? ⟨g, 69, none⟩ = some (.int .i64 a.gap) := by rw [h.cell 69]; simpa using wrow_hi a 0
theorem WC.tick (h : WC w g a) : w.cell? ⟨g, 70, none⟩ = some (.int .i64 a.tick) := by rw [h.cell 70]; simpa using wrow_hi a 1
theorem WC.apart (h : WC w g a) : w.cell? ⟨g, 71, none⟩ = some (.int .i64 (a.apart : Int)) := by rw [h.cell 71]; simpa using wrow_hi a 2
theorem WC.pace (h : WC w g a) : w.cell? ⟨g, 72, none⟩ = some (.int .i64 (a.pace : Int)) := by rw [h.cell 72]; simpa using wrow_hi a 3
theorem WC.putGap (h : WC w g a) (z : Int) : WC (w.setCell ⟨g, 69, none⟩ (.int .i64 z)) g { a with gap := z } := by
  have := Blk.put h 69 (.int .i64 z)
  rw [List.setIfInBounds_toArray, wrow_put a 0] at this
  exact this
theorem WC.putTick (h : WC w g a) (z : Int) : WC (w.setCell ⟨g, 70, none⟩ (.int .i64 z)) g { a with tick := z } := by
  have := Blk.put h 70 (.int .i64 z)
  rw [List.setIfInBounds_toArray, wrow_put a 1] at this
  exact this
theorem WC.putApart (h : WC w g a) (k : Nat) : WC (w.setCell ⟨g, 71, none⟩ (.int .i64 (k : Int))) g { a with apart := k } := by
  have := Blk.put h 71 (.int .i64 (k : Int))
  rw [List.setIfInBounds_toArray, wrow_put a 2] at this
  exact this
theorem WC.putPace (h : WC w g a) (k : Nat) : WC (w.setCell ⟨g, 72, none⟩ (.int .i64 (k : Int))) g { a with pace := k } := by
  have := Blk.put h 72 (.int .i64 (k : Int))
  rw [List.setIfInBounds_toArray, wrow_put a 3] at this
  exact this
/-- The last note, put as a whole. -/
def noted (a : Wt) (n : Nt) : List Value := (wrow a).take 3 ++ ncells n ++ (wrow a).drop 69
theorem noted_eq (a : Wt) (n : Nt) : noted a n = wrow { a with n := n } := by
  unfold noted wrow
  rw [List.take_append_of_le_length (by simp), List.drop_append, List.drop_append]
  simp [nc_len]
theorem WC.putNote (h : WC w g a) (n : Nt) : WC (w.setRow g (noted a n).toArray) g { a with n := n } := by
  rw [noted_eq]
  exact Blk.setRow h _
theorem infoN : (Tryd.prog.info? 50).map (·.size) = some 66 := by kernel_rfl
theorem infoE : (Tryd.prog.info? 29).map (·.size) = some 3 := by kernel_rfl
/-- 'w.last = now'. -/
theorem store_note {ops : Array Oper} {rest : List Oper} {o : Oper} {x : Act} {Q : Exit → Act → World → Prop} (hgd : o.guard = none) (p y : Operand) (ho : o.op = .store 50 p y)
    (hx : x.eval p = .pointer (some ⟨g, 3, none⟩)) (n : Nt) (hy : x.eval y = .agg (ncells n).toArray) (h : WC w g a)
    (hK : wpList Tryd.prog ops Q rest (x.put o.dst undef) (w.setRow g (noted a n).toArray)) : wpList Tryd.prog ops Q (o :: rest) x w :=
  wpList_plain hgd fun _ hKK => by
    have hr : (storeVar 50 ⟨g, 3, none⟩ (.agg (ncells n).toArray)).run Tryd.prog w = .ok () (w.setRow g (noted a n).toArray) := by
      have hs := run_storeCells_at Tryd.prog g 3 52 (ncells n) 0 (wrow a).toArray w h (by simp [nc_len, wrow_len]) (row_one _ _ _)
      have hi := infoN
      cases hq : Tryd.prog.info? 50 with
      | none => rw [hq] at hi; cases hi
      | some i =>
        have hz : i.size = 66 := by simpa [hq] using hi
        simp [storeVar, sizeOf, typeInfo, hq, Value.cells, hz, nc_len, noted] at hs ⊢
        exact hs
    unfold Oper.wp execOp
    simp only [ho, hx, hy, Instr.storeAt, Instr.sureAddr, Sem.run_bind, Sem.run_pure, Result.andThen_ok, hr]
    exact hKK _ _ hK
/-- A note's row, loaded. -/
theorem load_note {ops : Array Oper} {rest : List Oper} {o : Oper} {x : Act} {Q : Exit → Act → World → Prop} (hgd : o.guard = none) (p : Operand) (ho : o.op = .load 50 p)
    (b : Nat) (hx : x.eval p = .pointer (some ⟨b, 0, none⟩)) (cs : Array Value) (hs : cs.size = 66) (h : Blk w b 50 cs)
    (hK : wpList Tryd.prog ops Q rest (x.put o.dst (.agg cs)) w) : wpList Tryd.prog ops Q (o :: rest) x w :=
  wpList_load_row hgd 50 p ho b hx 50 cs (0, 0) _ h Tryd.underlying50 rfl (by rw [hs]; exact infoN) hK
end
end Go.Proofs.YtmkdemdeejhonaaDoor.Drf
