/- How the numbers of layer 26 are reckoned one from another, with their bounds; the box of a configuration beside a box of numbers. -/
import Derived.Test.YtbbenfjfdmnpmaaBndB
import Derived.Test.YtbbenfjfdmnpmaaRowB
import Derived.Handy
import Derived.Deep.Cut
import Derived.Laws.CopyOwn
namespace Go.Proofs.Ytbbenfjfdmnpmaa.Bnd
open Go.ChangeShapes Go.WideShapes Go.ChangeAt Go.RowKit
open Go.Proofs.Ytbbenfjfdmnpmaa.Rw
set_option linter.unusedVariables false
structure Kit (c : Cf) (m : Nm) (x y z ov se j1 j2 : Int) : Prop where
  num : num c = m
  hops : c.n - 1 = m.hops
  fast : Rat.fastV c.rho c.slew = m.fast
  slow : Rat.slowV c.rho c.slew = m.slow
  way : Hop.errV m.hops c.dmin c.dmax c.rho = x
  win : 2 * c.rho * Rat.ticksV (2 * c.window) m.slow = y
  rnd : 2 * c.rho * Rat.ticksV (2 * c.round) m.slow = z
  link : c.dmax * m.fast = m.link
  read : x + y = m.read
  agree : 2 * m.read + 2 = m.agree
  start : m.agree + z = m.start
  eps : m.start + 2 * m.read + 2 + z + 2 * m.fast = m.eps
  most : m.start + m.read + 2 = m.most
  cold : Rdg.rerV c.dmin c.dmax c.rho c.slew = m.cold
  rough : m.eps + m.cold + m.most + z + 4 * m.fast = m.rough
  over : m.hops * (m.link + m.eps) = ov
  delta : ov + 2 * m.fast = m.delta
  settled : 2 * m.eps + 2 * m.delta = se
  down : Rat.ticksV (c.attend + se) m.slow = m.down
  join1 : Rat.ticksV (2 * c.round + 2 * c.window) m.slow = j1
  join2 : Rat.ticksV (2 * c.attend + se) m.slow = j2
  join : 2 * c.dmax + 8 + j1 + j2 = m.join
  hops_ : 1 ≤ m.hops ∧ m.hops ≤ 63
  fast_ : 1025 ≤ m.fast ∧ m.fast ≤ 1344
  slow_ : 704 ≤ m.slow ∧ m.slow ≤ 1023
  link_ : 0 ≤ m.link ∧ m.link ≤ 86016
  way_ : 0 ≤ x ∧ x ≤ 20000000
  win_ : 0 ≤ y ∧ y ≤ 400000000000
  rnd_ : 0 ≤ z ∧ z ≤ 400000000000
  read_ : 0 ≤ m.read ∧ m.read ≤ 401000000000
  agree_ : 0 ≤ m.agree ∧ m.agree ≤ 803000000000
  start_ : 0 ≤ m.start ∧ m.start ≤ 1203000000000
  eps_ : 0 ≤ m.eps ∧ m.eps ≤ 2500000000000
  most_ : 0 ≤ m.most ∧ m.most ≤ 1700000000000
  cold_ : 0 ≤ m.cold ∧ m.cold ≤ 100000
  rough_ : 0 ≤ m.rough ∧ m.rough ≤ 5000000000000
  over_ : 0 ≤ ov ∧ ov ≤ 160000000000000
  delta_ : 0 ≤ m.delta ∧ m.delta ≤ 161000000000000
  settled_ : 0 ≤ se ∧ se ≤ 350000000000000
  down_ : 0 ≤ m.down ∧ m.down ≤ 1000000000000
  join1_ : 0 ≤ j1 ∧ j1 ≤ 1000000000000
  join2_ : 0 ≤ j2 ∧ j2 ≤ 1000000000000
theorem kit_of {c : Cf} (g : Good c) : ∃ m x y z ov se j1 j2, Kit c m x y z ov se j1 j2 := by
  have B := num_bd g
  have hg : Rat.gdR c.rho c.slew = true := by have := g.r0; have := g.r1; have := g.s0; have := g.s1; unfold Rat.gdR; rw [decide_eq_true_iff]; omega
  have hF : Rat.fastV c.rho c.slew = fastC c := if_pos hg
  have hS : Rat.slowV c.rho c.slew = slowC c := if_pos hg
  have hse : 0 ≤ seV c ∧ seV c ≤ 350000000000000 := by
    have h1 := B.eps; have h2 := B.delta
    unfold num at h1 h2
    dsimp only at h1 h2
    unfold seV
    omega
  exact ⟨num c, wayV c, winV c, rndV c, (num c).hops * ((num c).link + (num c).eps), seV c, Rat.ticksV (2 * c.round + 2 * c.window) (num c).slow, Rat.ticksV (2 * c.attend + seV c) (num c).slow,
    rfl, rfl, hF, hS, rfl, rfl, rfl, rfl, rfl, rfl, rfl, rfl, rfl, rfl, rfl, rfl, rfl, rfl, rfl, rfl, rfl, rfl,
    B.hops, B.fast, B.slow, B.link, B.way, B.win, B.rnd, B.read, B.agree, B.start, B.eps, B.most, B.cold, B.rough, B.over, B.delta, hse, B.down, B.join1, B.join2⟩
/-- Two boxes and a third: a configuration, an answer that is not yet told, numbers so far. -/
structure Bx (w W : World) (t : TypeId) (cs zs : Array Value) (g : Nat) (ms : Array Value) : Prop where
  below : Below w.heap.size w W
  conf : Blk W w.heap.size 24 cs
  res : Blk W (w.heap.size + 1) t zs
  num : Blk W g t ms
  far : w.heap.size + 2 ≤ g
variable {w W W' : World} {t : TypeId} {cs zs ms : Array Value} {g : Nat}
theorem Bx.later (h : Bx w W t cs zs g ms) (hB : Below W.heap.size W W') : Bx w W' t cs zs g ms :=
  ⟨h.below.trans (hB.mono h.below.size), h.conf.below hB, h.res.below hB, h.num.below hB, h.far⟩
theorem Bx.put (h : Bx w W t cs zs g ms) (k : Nat) (v : Value) (ms' : Array Value) (hm : ms.setIfInBounds k v = ms') : Bx w (W.setCell ⟨g, k, none⟩ v) t cs zs g ms' := by
  have hf := h.far
  subst hm
  exact ⟨h.below.setCell (show w.heap.size ≤ g by omega) v, h.conf.far (show w.heap.size ≠ g by omega) _, h.res.far (show w.heap.size + 1 ≠ g by omega) _, h.num.put k v, h.far⟩
/-- The configuration's cells. -/
theorem conf15 {w : World} {g : Nat} {t : TypeId} {a0 a1 a2 a3 a4 a5 a6 a7 a8 a9 a10 a11 a12 a13 a14 : Value} (h : Blk w g t #[a0, a1, a2, a3, a4, a5, a6, a7, a8, a9, a10, a11, a12, a13, a14]) :
    w.cell? ⟨g, 0, none⟩ = some a0 ∧ w.cell? ⟨g, 1, none⟩ = some a1 ∧ w.cell? ⟨g, 2, none⟩ = some a2 ∧ w.cell? ⟨g, 3, none⟩ = some a3 ∧ w.cell? ⟨g, 4, none⟩ = some a4 ∧ w.cell? ⟨g, 5, none⟩ = some a5 ∧ w.cell? ⟨g, 6, none⟩ = some a6 ∧ w.cell? ⟨g, 7, none⟩ = some a7 ∧ w.cell? ⟨g, 8, none⟩ = some a8 ∧ w.cell? ⟨g, 9, none⟩ = some a9 ∧ w.cell? ⟨g, 10, none⟩ = some a10 ∧ w.cell? ⟨g, 11, none⟩ = some a11 ∧ w.cell? ⟨g, 12, none⟩ = some a12 ∧ w.cell? ⟨g, 13, none⟩ = some a13 ∧ w.cell? ⟨g, 14, none⟩ = some a14 :=
  ⟨h.cell 0, h.cell 1, h.cell 2, h.cell 3, h.cell 4, h.cell 5, h.cell 6, h.cell 7, h.cell 8, h.cell 9, h.cell 10, h.cell 11, h.cell 12, h.cell 13, h.cell 14⟩
theorem nums14 {w : World} {g : Nat} {t : TypeId} {a0 a1 a2 a3 a4 a5 a6 a7 a8 a9 a10 a11 a12 a13 : Value} (h : Blk w g t #[a0, a1, a2, a3, a4, a5, a6, a7, a8, a9, a10, a11, a12, a13]) :
    w.cell? ⟨g, 0, none⟩ = some a0 ∧ w.cell? ⟨g, 1, none⟩ = some a1 ∧ w.cell? ⟨g, 2, none⟩ = some a2 ∧ w.cell? ⟨g, 3, none⟩ = some a3 ∧ w.cell? ⟨g, 4, none⟩ = some a4 ∧ w.cell? ⟨g, 5, none⟩ = some a5 ∧ w.cell? ⟨g, 6, none⟩ = some a6 ∧ w.cell? ⟨g, 7, none⟩ = some a7 ∧ w.cell? ⟨g, 8, none⟩ = some a8 ∧ w.cell? ⟨g, 9, none⟩ = some a9 ∧ w.cell? ⟨g, 10, none⟩ = some a10 ∧ w.cell? ⟨g, 11, none⟩ = some a11 ∧ w.cell? ⟨g, 12, none⟩ = some a12 ∧ w.cell? ⟨g, 13, none⟩ = some a13 :=
  ⟨h.cell 0, h.cell 1, h.cell 2, h.cell 3, h.cell 4, h.cell 5, h.cell 6, h.cell 7, h.cell 8, h.cell 9, h.cell 10, h.cell 11, h.cell 12, h.cell 13⟩
theorem infoCf : (Try.prog.info? 24).map (·.size) = some 15 := by kernel_rfl
theorem infoNm : (Try.prog.info? 26).map (·.size) = some 14 := by kernel_rfl
theorem infoRn : (Try.prog.info? 32).map (·.size) = some 14 := by kernel_rfl
theorem nm_one (m : Nm) : (ncells m).all (·.oneCell') = true := by simp [ncells, Value.oneCell']
theorem cf_one (c : Cf) : (ccells c).all (·.oneCell') = true := by simp [ccells, Value.oneCell']
/-- Whole rows, loaded and stored. -/
theorem load_cf {ops : Array Oper} {rest : List Oper} {o : Oper} {a : Act} {w : World} {Q : Exit → Act → World → Prop} (hgd : o.guard = none) (x : Operand) (ho : o.op = .load 24 x)
    (g : Nat) (hx : a.eval x = .pointer (some ⟨g, 0, none⟩)) (cs : Array Value) (hs : cs.size = 15) (hg : Blk w g 24 cs)
    (h : wpList Try.prog ops Q rest (a.put o.dst (.agg cs)) w) : wpList Try.prog ops Q (o :: rest) a w :=
  wpList_load_row hgd 24 x ho g hx 24 cs (0, 0) _ hg Try.underlying24 rfl (by rw [hs]; exact infoCf) h
theorem load_nm {ops : Array Oper} {rest : List Oper} {o : Oper} {a : Act} {w : World} {Q : Exit → Act → World → Prop} (hgd : o.guard = none) (x : Operand) (ho : o.op = .load 26 x)
    (g : Nat) (hx : a.eval x = .pointer (some ⟨g, 0, none⟩)) (cs : Array Value) (hs : cs.size = 14) (hg : Blk w g 26 cs)
    (h : wpList Try.prog ops Q rest (a.put o.dst (.agg cs)) w) : wpList Try.prog ops Q (o :: rest) a w :=
  wpList_load_row hgd 26 x ho g hx 26 cs (0, 0) _ hg Try.underlying26 rfl (by rw [hs]; exact infoNm) h
theorem load_rn {ops : Array Oper} {rest : List Oper} {o : Oper} {a : Act} {w : World} {Q : Exit → Act → World → Prop} (hgd : o.guard = none) (x : Operand) (ho : o.op = .load 32 x)
    (g : Nat) (hx : a.eval x = .pointer (some ⟨g, 0, none⟩)) (cs : Array Value) (hs : cs.size = 14) (hg : Blk w g 32 cs)
    (h : wpList Try.prog ops Q rest (a.put o.dst (.agg cs)) w) : wpList Try.prog ops Q (o :: rest) a w :=
  wpList_load_row hgd 32 x ho g hx 32 cs (0, 0) _ hg Try.underlying32 rfl (by rw [hs]; exact infoRn) h
theorem store_cf {ops : Array Oper} {rest : List Oper} {o : Oper} {a : Act} {w : World} {Q : Exit → Act → World → Prop} (hgd : o.guard = none) (x y : Operand) (ho : o.op = .store 24 x y)
    (g : Nat) (cs : Array Value) (hx : a.eval x = .pointer (some ⟨g, 0, none⟩)) (hy : a.eval y = .agg cs) (hs : cs.size = 15) (h1 : cs.all (·.oneCell') = true) (old : Array Value) (hg : Blk w g 24 old) (hold : old.size = 15)
    (h : wpList Try.prog ops Q rest (a.put o.dst undef) (w.setRow g cs)) : wpList Try.prog ops Q (o :: rest) a w :=
  wpList_store_row hgd 24 x y ho g cs hx hy 24 old hg (by rw [hs]; exact infoCf) (by rw [hs, hold]) h1 h
theorem store_nm {ops : Array Oper} {rest : List Oper} {o : Oper} {a : Act} {w : World} {Q : Exit → Act → World → Prop} (hgd : o.guard = none) (x y : Operand) (ho : o.op = .store 26 x y)
    (g : Nat) (cs : Array Value) (hx : a.eval x = .pointer (some ⟨g, 0, none⟩)) (hy : a.eval y = .agg cs) (hs : cs.size = 14) (h1 : cs.all (·.oneCell') = true) (old : Array Value) (hg : Blk w g 26 old) (hold : old.size = 14)
    (h : wpList Try.prog ops Q rest (a.put o.dst undef) (w.setRow g cs)) : wpList Try.prog ops Q (o :: rest) a w :=
  wpList_store_row hgd 26 x y ho g cs hx hy 26 old hg (by rw [hs]; exact infoNm) (by rw [hs, hold]) h1 h
theorem store_rn {ops : Array Oper} {rest : List Oper} {o : Oper} {a : Act} {w : World} {Q : Exit → Act → World → Prop} (hgd : o.guard = none) (x y : Operand) (ho : o.op = .store 32 x y)
    (g : Nat) (cs : Array Value) (hx : a.eval x = .pointer (some ⟨g, 0, none⟩)) (hy : a.eval y = .agg cs) (hs : cs.size = 14) (h1 : cs.all (·.oneCell') = true) (old : Array Value) (hg : Blk w g 32 old) (hold : old.size = 14)
    (h : wpList Try.prog ops Q rest (a.put o.dst undef) (w.setRow g cs)) : wpList Try.prog ops Q (o :: rest) a w :=
  wpList_store_row hgd 32 x y ho g cs hx hy 32 old hg (by rw [hs]; exact infoRn) (by rw [hs, hold]) h1 h
theorem step_load_nm {ops : Array Oper} {o : Oper} {a : Act} {K : Act → World → Prop} {Q : Exit → Act → World → Prop} {E : Prop} {W : World} (hgd : o.guard = none) (x : Operand) (ho : o.op = .load 26 x)
    (g : Nat) (hx : a.eval x = .pointer (some ⟨g, 0, none⟩)) (cs : Array Value) (hs : cs.size = 14) (hg : Blk W g 26 cs)
    (h : K (a.put o.dst (.agg cs)) W) : if Region.wanted o (yielded ops a.tmps) = true then Oper.wp Try.prog o a W K Q else E := by
  have hw : Region.wanted o (yielded ops a.tmps) = true := by simp [Region.wanted, hgd]
  rw [if_pos hw]
  exact wp_load_row 26 x ho g hx 26 cs (0, 0) _ hg Try.underlying26 rfl (by rw [hs]; exact infoNm) h
/-- The end of a function behind a cut: the post behind a letter (else the walk reckons a great row's results by itself, cell by cell). -/
theorem open_end {P : Program} {c : Code} {K : Act → World → Prop} {Q' : Exit → Act → World → Prop} {a : Act} {w : World} (hK : ∀ a w, Code.wp P Code.ret Q' a w → K a w)
    (h : ∀ (Q2 : Exit → Act → World → Prop) (K2 : Act → World → Prop), Hid (∀ a w, Q' Exit.ret a w → Q2 Exit.ret a w) → (∀ a w, Code.wp P Code.ret Q2 a w → K2 a w) → Code.wp P c (Exit.then K2 Q2) a w) : Code.wp P c (Exit.then K Q') a w :=
  h Q' K (Lib.hid (fun _ _ h => h)) hK
/-- Results in cells. -/
theorem results_nm {fn : Func} {i j : Nat} (h : fn.results = #[.cell i 26, .tmp j]) (tmps : Array Value) (w : World) (g : Nat) (cs : Array Value) (v : Value)
    (hp : tmps.getD i undef = .pointer (some ⟨g, 0, none⟩)) (h3 : tmps.getD j undef = v) (hg : Blk w g 26 cs) (hs : cs.size = 14) :
    (results fn tmps).run Try.prog w = .ok (.tuple #[.agg cs, v]) w := by
  have hp' : tmps[i]?.getD undef = .pointer (some ⟨g, 0, none⟩) := by simpa using hp
  have h3' : tmps[j]?.getD undef = v := by simpa using h3
  simp [results, h, hp', h3', asAddr, run_loadVar_row w g 26 _ cs (0, 0) _ hg Try.underlying26 rfl (by rw [hs]; exact infoNm)]
theorem results_cf2 {fn : Func} {i j : Nat} (h : fn.results = #[.cell i 24, .tmp j]) (tmps : Array Value) (w : World) (g : Nat) (cs : Array Value) (v : Value)
    (hp : tmps.getD i undef = .pointer (some ⟨g, 0, none⟩)) (h3 : tmps.getD j undef = v) (hg : Blk w g 24 cs) (hs : cs.size = 15) :
    (results fn tmps).run Try.prog w = .ok (.tuple #[.agg cs, v]) w := by
  have hp' : tmps[i]?.getD undef = .pointer (some ⟨g, 0, none⟩) := by simpa using hp
  have h3' : tmps[j]?.getD undef = v := by simpa using h3
  simp [results, h, hp', h3', asAddr, run_loadVar_row w g 24 _ cs (0, 0) _ hg Try.underlying24 rfl (by rw [hs]; exact infoCf)]
theorem results_cf {fn : Func} {i : Nat} (h : fn.results = #[.cell i 24]) (tmps : Array Value) (w : World) (g : Nat) (cs : Array Value)
    (hp : tmps.getD i undef = .pointer (some ⟨g, 0, none⟩)) (hg : Blk w g 24 cs) (hs : cs.size = 15) :
    (results fn tmps).run Try.prog w = .ok (.agg cs) w :=
  results_cell_row h tmps w g 24 cs (0, 0) _ hp hg Try.underlying24 rfl (by rw [hs]; exact infoCf)
theorem results_rn {fn : Func} {i : Nat} (h : fn.results = #[.cell i 32]) (tmps : Array Value) (w : World) (g : Nat) (cs : Array Value)
    (hp : tmps.getD i undef = .pointer (some ⟨g, 0, none⟩)) (hg : Blk w g 32 cs) (hs : cs.size = 14) :
    (results fn tmps).run Try.prog w = .ok (.agg cs) w :=
  results_cell_row h tmps w g 32 cs (0, 0) _ hp hg Try.underlying32 rfl (by rw [hs]; exact infoRn)
/-- Two boxes that were made one behind the other, and whatever grew behind them. -/
theorem boxes2 {w W : World} {t t' : TypeId} {cs cs' : Array Value} (h : Below ((w.alloc (.cells cs t)).alloc (.cells cs' t')).heap.size ((w.alloc (.cells cs t)).alloc (.cells cs' t')) W) :
    Blk W w.heap.size t cs ∧ Blk W (w.heap.size + 1) t' cs' ∧ Below w.heap.size w W ∧ w.heap.size + 2 ≤ W.heap.size := by
  refine ⟨((Blk.new w _ _).alloc _).below h, ?_, ?_, ?_⟩
  · have := (Blk.new (w.alloc (.cells cs t)) t' cs').below h
    simpa using this
  · have h1 : Below w.heap.size w ((w.alloc (.cells cs t)).alloc (.cells cs' t')) := by go_grown
    exact h1.trans (h.mono h1.size)
  · have := h.size
    simpa using this
theorem quiet_sameB {P : Program} {f : FuncId} {args : Array Value} {w : World} {n : Nat} {v : Value}
    (h : Calls P f args (w.drewN n) fun e w' => e = .returned v ∧ w.drewN n = w') : Calls P f args (w.drewN n) fun e w'' => e = .returned v ∧ ∃ m, w'' = w.drewN m :=
  h.mono fun _ _ ⟨he, hm⟩ => ⟨he, n, hm.symm⟩
theorem still_same {P : Program} {f : FuncId} {args : Array Value} {w : World} {v : Value} (h : Calls P f args w fun e w' => e = .returned v ∧ w = w') : Calls P f args w fun e w'' => e = .returned v ∧ w'' = w :=
  h.mono fun _ _ ⟨he, hm⟩ => ⟨he, hm.symm⟩
end Go.Proofs.Ytbbenfjfdmnpmaa.Bnd
