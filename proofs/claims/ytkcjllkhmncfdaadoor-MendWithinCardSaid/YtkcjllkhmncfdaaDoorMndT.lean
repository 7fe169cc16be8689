/- The statements' helper turn of layer mend (27): a turn whose errors are within bounds. -/
import Derived.Test.YtkcjllkhmncfdaaDoorMndA
import Derived.Test.YtkcjllkhmncfdaaDoorMndV
import Derived.Test.YtkcjllkhmncfdaaDoorTrmF
import Derived.BigRegion
import Derived.Deep.RegionLaw
import Derived.Deep.Cut
namespace Go.Proofs.YtkcjllkhmncfdaaDoor.Mnd
open Go.ChangeShapes Go.WideShapes Go.ChangeAt Go.RowKit
open I64s (Sl OwnL ListPost app_one)
set_option linter.unusedVariables false
set_option linter.unusedSimpArgs false
/-- An append of one number to a list of one's own, as a step of a region that draws its order. -/
theorem step_num {wr : World} {ops : Array Oper} {o : Oper} {a : Act} {K : Act → World → Prop} {Q : Exit → Act → World → Prop} {E : Prop} (hgd : o.guard = none) (s x : Operand)
    (ho : o.op = .call { callee := .builtin .append, args := #[s, x], argTypes := #[27, 27] }) (base : Nat) (v : Value) (L : List Int) (hs : a.eval s = v) (hown : OwnL wr base v L)
    (p : Int) (hx : a.eval x = .slice (some ⟨wr.heap.size, 0, none⟩) 1 1) (hl : L.length ≤ 1000) (hbase : base ≤ wr.heap.size)
    (h : ∀ v' w', OwnL w' base v' (L ++ [p]) → Below base wr w' → (∀ k, k < wr.heap.size → some k ≠ v.ownBlock → w'.heap[k]? = wr.heap[k]?) → (v'.ownBlock = v.ownBlock ∨ ∀ k, v'.ownBlock = some k → wr.heap.size ≤ k) → K (a.put o.dst v') w') :
    if Region.wanted o (yielded ops a.tmps) = true then Oper.wp Tryd.prog o a (wr.alloc (.cells #[.int .i64 p] 2)).drew K Q else E := by
  refine Trm.step_lit hgd s x ho base v L hs (show OwnL (wr.alloc _).drew base v L from World.ownsRow.alloc hown _) wr.heap.size p hx (Trm.new_cell wr p _) hl (by show base ≤ (wr.alloc _).heap.size; rw [World.size_alloc]; omega) ?_
  intro v' w1 h1 h2 h3
  have hg : (wr.alloc (.cells #[.int .i64 p] 2)).grownBy w1 v.ownBlock := ⟨h2.os, h2.tape, h2.output, h2.size, h2.block⟩
  refine h v' w1 h1 (Own.below_append hown hbase hg) (fun k hk hne => ?_) ?_
  · exact (hg.block k (by rw [World.size_alloc]; omega) hne).trans (Below.heap_alloc wr _ k hk)
  · rcases h3 with e | e
    · exact .inl e
    · refine .inr fun k hk => ?_
      have := e k hk
      have h4 : (wr.alloc (.cells #[.int .i64 p] 2)).drew.heap.size = wr.heap.size + 1 := World.size_alloc wr _
      omega
theorem own_apart {W : World} {b1 b2 e1 e2 s1 s2 m1 m2 : Nat} {v1 v2 : Value} {x1 x2 : List Value} (he : e1 ≠ e2) (h1 : W.ownsRow b1 e1 s1 v1 m1 x1) (h2 : W.ownsRow b2 e2 s2 v2 m2 x2) : v2.ownBlock = none ∨ v2.ownBlock ≠ v1.ownBlock := by
  rcases h2.2 with ⟨rfl, _⟩ | ⟨g2, c2, cur2, rfl, _, hg2, _⟩
  · exact .inl rfl
  · refine .inr fun e => ?_
    rcases h1.2 with ⟨rfl, _⟩ | ⟨g1, c1, cur1, rfl, _, hg1, _⟩
    · simp [Value.ownBlock] at e
    · simp [Value.ownBlock] at e
      subst e
      rw [hg1] at hg2
      simp only [Option.some.injEq, Obj.cells.injEq] at hg2
      exact he hg2.2.1
def rowV (r : Rw) : Value := .slice r.ad r.zs.length r.cap
theorem info_row : (Tryd.prog.info? 27).map (fun i => (i.zero, i.size, i.bytes)) = some (some (.slice none 0 0), 1, 24) := by kernel_rfl
/-- The turn while it is made: the argument's box, the result's, the turn's own, its rows, its drifts. -/
structure TS (w : World) (ac : Array Value) (S : Nat) (ve : Value) (rs : List Rw) (vd : Value) (ds : List Int) (W : World) : Prop where
  boxA : Rw.Blk W w.heap.size 26 ac
  boxR : Rw.Blk W (w.heap.size + 1) 33 #[.int .u64 0, .slice none 0 0, .slice none 0 0]
  boxT : Rw.Blk W (w.heap.size + 2) 33 #[.int .u64 (S : Int), ve, vd]
  ownE : W.ownsRow (w.heap.size + 3) 27 1 ve rs.length (rs.map rowV)
  ownR : ∀ r ∈ rs, OwnL W (w.heap.size + 3) (rowV r) r.zs
  ownD : OwnL W (w.heap.size + 3) vd ds
  apart : ∀ r ∈ rs, (rowV r).ownBlock = none ∨ (rowV r).ownBlock ≠ vd.ownBlock
  below : Below w.heap.size w W
  size : w.heap.size + 3 ≤ W.heap.size
section
variable {w W V W' : World} {ac : Array Value} {S : Nat} {ve vd v' : Value} {rs : List Rw} {ds : List Int} {r : Rw} {q : Int}
theorem kept_b {b e size m : Nat} {v : Value} {xs : List Value} (h : W.ownsRow b e size v m xs) (hB : Below W.heap.size W V) : V.ownsRow b e size v m xs :=
  World.ownsRow.kept h (row := Option.none) ⟨hB.os, hB.tape, hB.output, hB.size, fun j hj _ => hB.block j hj⟩ (by cases hv : Value.ownBlock _ <;> simp)
theorem TS.step (h : TS w ac S ve rs vd ds W) (hB : Below W.heap.size W V) : TS w ac S ve rs vd ds V :=
  ⟨h.boxA.below hB, h.boxR.below hB, h.boxT.below hB, kept_b h.ownE hB, fun r hr => (h.ownR r hr).below hB, h.ownD.below hB, h.apart, h.below.trans (hB.mono h.below.size), Nat.le_trans h.size hB.size⟩
/-- One row more. -/
theorem TS.appE {tmp : Obj} (h : TS w ac S ve rs vd ds W) (hvd : vd.ownBlock = none) (hr : OwnL W (w.heap.size + 3) (rowV r) r.zs)
    (hown : W'.ownsRow (w.heap.size + 3) 27 1 v' (rs.length + 1) (rs.map rowV ++ [rowV r])) (hg : (W.alloc tmp).grownBy W' ve.ownBlock) :
    Rw.Blk W' (w.heap.size + 2) 33 #[.int .u64 (S : Int), ve, vd] ∧ TS w ac S v' (rs ++ [r]) vd ds (W'.setCell ⟨w.heap.size + 2, 1, none⟩ v') := by
  have n1 := Rw.own_ne h.ownE h.boxA (by decide)
  have n2 := Rw.own_ne h.ownE h.boxR (by decide)
  have n3 := Rw.own_ne h.ownE h.boxT (by decide)
  have bA := (h.boxA.alloc tmp).grown hg (fun e => n1 e.symm)
  have bR := (h.boxR.alloc tmp).grown hg (fun e => n2 e.symm)
  have bT := (h.boxT.alloc tmp).grown hg (fun e => n3 e.symm)
  have keep : ∀ {v : Value} {L : List Int}, OwnL W (w.heap.size + 3) v L → OwnL (W'.setCell ⟨w.heap.size + 2, 1, none⟩ v') (w.heap.size + 3) v L := fun {v L} ho => by
    have h1 : OwnL W' (w.heap.size + 3) v L := World.ownsRow.kept (ho.alloc tmp) hg (own_apart (by decide) h.ownE ho)
    have h2 := Rw.own_ne h1 bT (by decide)
    exact World.ownsRow.kept h1 (Rw.setCell_grown W' (w.heap.size + 2) 1 v') (.inr h2)
  have hbl : Below w.heap.size w W' := h.below.trans (Own.below_append (Own.mono h.ownE (show w.heap.size ≤ w.heap.size + 3 by omega)) (by have := h.size; omega) hg)
  refine ⟨bT, bA.far (p := ⟨w.heap.size + 2, 1, none⟩) (by simp) _, bR.far (p := ⟨w.heap.size + 2, 1, none⟩) (by simp) _, ?_, ?_, ?_, keep h.ownD, ?_, hbl.setCell (p := ⟨w.heap.size + 2, 1, none⟩) (by show w.heap.size ≤ w.heap.size + 2; omega) _, ?_⟩
  · have := bT.put 1 v'
    simpa using this
  · have h2 := Rw.own_ne hown bT (by decide)
    rw [List.length_append, List.map_append]
    exact World.ownsRow.kept hown (Rw.setCell_grown W' (w.heap.size + 2) 1 v') (.inr h2)
  · intro x hx
    rcases List.mem_append.1 hx with hx | hx
    · exact keep (h.ownR x hx)
    · rw [List.mem_singleton.1 hx]; exact keep hr
  · intro x hx
    rw [hvd]
    cases hb : (rowV x).ownBlock with
    | none => exact .inl rfl
    | some g => exact .inr (by simp)
  · have h1 := hg.size
    rw [World.size_alloc] at h1
    have h2 := (Rw.setCell_grown W' (w.heap.size + 2) 1 v').size
    have := h.size
    omega
/-- One drift more. -/
theorem TS.appD (h : TS w ac S ve rs vd ds W) (hown : OwnL W' (w.heap.size + 3) v' (ds ++ [q])) (hB : Below (w.heap.size + 3) W W') (hk : ∀ k, k < W.heap.size → some k ≠ vd.ownBlock → W'.heap[k]? = W.heap[k]?)
    (hb : v'.ownBlock = vd.ownBlock ∨ ∀ k, v'.ownBlock = some k → W.heap.size ≤ k) :
    Rw.Blk W' (w.heap.size + 2) 33 #[.int .u64 (S : Int), ve, vd] ∧ TS w ac S ve rs v' (ds ++ [q]) (W'.setCell ⟨w.heap.size + 2, 2, none⟩ v') := by
  have n1 := Rw.own_ne h.ownD h.boxA (by decide)
  have n2 := Rw.own_ne h.ownD h.boxR (by decide)
  have n3 := Rw.own_ne h.ownD h.boxT (by decide)
  have hgr : W.grownBy W' vd.ownBlock := ⟨hB.os, hB.tape, hB.output, hB.size, hk⟩
  have bA := h.boxA.grown hgr (fun e => n1 e.symm)
  have bR := h.boxR.grown hgr (fun e => n2 e.symm)
  have bT := h.boxT.grown hgr (fun e => n3 e.symm)
  have hE : W'.ownsRow (w.heap.size + 3) 27 1 ve rs.length (rs.map rowV) := World.ownsRow.kept h.ownE hgr (own_apart (by decide) h.ownD h.ownE)
  have hR : ∀ r ∈ rs, OwnL W' (w.heap.size + 3) (rowV r) r.zs := fun r hr => World.ownsRow.kept (h.ownR r hr) hgr (h.apart r hr)
  refine ⟨bT, bA.far (p := ⟨w.heap.size + 2, 2, none⟩) (by simp) _, bR.far (p := ⟨w.heap.size + 2, 2, none⟩) (by simp) _, ?_, ?_, ?_, ?_, ?_, (h.below.trans (hB.mono (by omega))).setCell (p := ⟨w.heap.size + 2, 2, none⟩) (by show w.heap.size ≤ w.heap.size + 2; omega) _, ?_⟩
  · have := bT.put 2 v'
    simpa using this
  · exact World.ownsRow.kept hE (Rw.setCell_grown W' (w.heap.size + 2) 2 v') (.inr (Rw.own_ne hE bT (by decide)))
  · intro r hr
    exact World.ownsRow.kept (hR r hr) (Rw.setCell_grown W' (w.heap.size + 2) 2 v') (.inr (Rw.own_ne (hR r hr) bT (by decide)))
  · exact World.ownsRow.kept hown (Rw.setCell_grown W' (w.heap.size + 2) 2 v') (.inr (Rw.own_ne hown bT (by decide)))
  · intro r hr
    rcases hb with e | e
    · rw [e]; exact h.apart r hr
    · cases hv : (rowV r).ownBlock with
      | none => exact .inl rfl
      | some g =>
        refine .inr fun e2 => ?_
        have := e g e2.symm
        have := ((h.ownR r hr).blk hv).2
        omega
  · have h1 := hB.size
    have h2 := (Rw.setCell_grown W' (w.heap.size + 2) 2 v').size
    have := h.size
    omega
theorem TS.rows (h : TS w ac S ve rs vd ds W) : ∃ ad cap, ve = .slice ad rs.length cap ∧ LL W ad rs := by
  obtain ⟨ad, cap, rfl, hn⟩ := Own.shape h.ownE
  refine ⟨ad, cap, rfl, ?_, fun r hr => (h.ownR r hr).sl⟩
  by_cases h0 : rs = []
  · exact .inl h0
  · have hpos : 0 < rs.length := by cases rs <;> simp_all
    rcases h.ownE.2 with ⟨e, hz⟩ | ⟨g, c, cur, e, hb, hg, hcs, hrest⟩
    · omega
    · simp only [Value.slice.injEq, true_and] at e
      obtain ⟨rfl, rfl⟩ := e
      refine .inr ⟨g, 0, rfl, (Array.getElem?_eq_some_iff.1 hg).1, fun i hi => ?_⟩
      rw [Nat.zero_add, h.ownE.cellAt i (by omega)]
      simp [List.getD, hi, rowV]
theorem rows_of {b : Nat} (hE : W.ownsRow b 27 1 ve rs.length (rs.map rowV)) (hR : ∀ r ∈ rs, OwnL W b (rowV r) r.zs) {ad : Option Addr} {n cap : Nat} (e : ve = .slice ad n cap) : LL W ad rs := by
  refine ⟨?_, fun r hr => (hR r hr).sl⟩
  by_cases h0 : rs = []
  · exact .inl h0
  · have hpos : 0 < rs.length := by cases rs <;> simp_all
    rcases hE.2 with ⟨_, hz⟩ | ⟨g, c, cur, e2, hb, hg, hcs, hrest⟩
    · omega
    · rw [e] at e2
      simp only [Value.slice.injEq] at e2
      obtain ⟨rfl, rfl, rfl⟩ := e2
      subst e
      refine .inr ⟨g, 0, rfl, (Array.getElem?_eq_some_iff.1 hg).1, fun i hi => ?_⟩
      rw [Nat.zero_add, hE.cellAt i (by omega)]
      simp [List.getD, hi, rowV]
/-- The result's box filled. -/
theorem TS.done {ea da : Option Addr} {ec dc : Nat} (h : TS w ac S (.slice ea rs.length ec) rs (.slice da ds.length dc) ds W)
    (hV : V = ((W.setCell ⟨w.heap.size + 1, 0, none⟩ (.int .u64 (S : Int))).setCell ⟨w.heap.size + 1, 1, none⟩ (.slice ea rs.length ec)).setCell ⟨w.heap.size + 1, 2, none⟩ (.slice da ds.length dc)) :
    Rw.Blk V (w.heap.size + 1) 33 #[.int .u64 (S : Int), .slice ea rs.length ec, .slice da ds.length dc] ∧ LL V ea rs ∧ Sl V da dc ds ∧ Below w.heap.size w V := by
  have hg : W.grownBy V (some (w.heap.size + 1)) := by
    rw [hV]
    exact ((Rw.setCell_grown W _ 0 _).trans (Rw.setCell_grown _ _ 1 _)).trans (Rw.setCell_grown _ _ 2 _)
  refine ⟨?_, ?_, ?_, ?_⟩
  · rw [hV]
    have := ((h.boxR.put 0 (.int .u64 (S : Int))).put 1 (.slice ea rs.length ec)).put 2 (.slice da ds.length dc)
    simpa using this
  · exact rows_of (World.ownsRow.kept h.ownE hg (.inr (Rw.own_ne h.ownE h.boxR (by decide)))) (fun r hr => World.ownsRow.kept (h.ownR r hr) hg (.inr (Rw.own_ne (h.ownR r hr) h.boxR (by decide)))) rfl
  · exact OwnL.sl (World.ownsRow.kept h.ownD hg (.inr (Rw.own_ne h.ownD h.boxR (by decide))))
  · exact h.below.grown hg h.below.size (fun j e => by cases e; omega)
end
end Go.Proofs.YtkcjllkhmncfdaaDoor.Mnd
