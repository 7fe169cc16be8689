/- Layer 28's law DriftWatches: notes that came in, the watch beside the last one, what it tells behind a note. -/
import Derived.Test.YtmkdemdeejhonaaDoorDrfK
import Derived.Test.YtmkdemdeejhonaaDoorDrfP
import Derived.Test.YtmkdemdeejhonaaDoorDrfV
import Derived.Test.YtmkdemdeejhonaaDoorDrfW
namespace Go.Proofs.YtmkdemdeejhonaaDoor.Drf
open Go.RowKit Go.ChangeShapes Go.WideShapes Go.ChangeAt
open Go.Proofs.YtmkdemdeejhonaaDoor.Rw
open Nodes (Tabs mem mem_mem)
set_option linter.unusedVariables false
set_option linter.unusedSimpArgs false
/-- A note that came in, as the document has it. -/
def Ne.nt (e : Ne) : Nt := ⟨e.tick, e.lS.take e.lL, e.s.toNat⟩
theorem ne_of {w : World} {e : Ne} (h : OkNe w e) : e.nt.set < 18446744073709551616 ∧ ((e.nt.set : Nat) : Int) = e.s ∧ e.nt.l.length = e.lL ∧ I64s.Sl w e.l e.lC e.nt.l := by
  obtain ⟨s0, s1⟩ := bounds_u64 h.s
  have hl := IntK.RowK.len h.l
  unfold maxLen at hl
  have hlen : e.nt.l.length = e.lL := by
    show (e.lS.take e.lL).length = _
    rw [List.length_take]
    rcases h.l with ⟨_, h1, _, h2⟩ | ⟨x, _, h1, _, h2, _⟩ <;> omega
  refine ⟨by show e.s.toNat < _; omega, by show ((e.s.toNat : Nat) : Int) = _; omega, hlen, ?_⟩
  by_cases h0 : e.lL = 0
  · have hn : e.nt.l = [] := List.eq_nil_of_length_eq_zero (by rw [hlen, h0])
    rw [hn]
    refine ⟨.inl rfl, Nat.zero_le _, by omega, fun ha => ?_⟩
    rcases h.l with ⟨_, _, h1, _⟩ | ⟨x, hx, _⟩
    · exact h1
    · rw [hx] at ha; cases ha
  · obtain ⟨b, off, ha, _, _⟩ := IntK.RowK.at h.l (i := 0) (by omega)
    refine ⟨.inr ⟨b, off, ha, fun i hi => ?_⟩, by rw [hlen]; omega, by omega, fun h => by rw [ha] at h; cases h⟩
    rw [hlen] at hi
    obtain ⟨b', off', ha', hc, _⟩ := IntK.RowK.at h.l (i := i) hi
    rw [ha] at ha'
    cases ha'
    rw [hc w (Below.refl _ _)]
    show _ = some (Value.int .i64 ((e.lS.take e.lL).getD i 0))
    simp [List.getD, hi]
/-- The note number i of a slice that came in: its cells. -/
theorem ne_cell {w : World} {G : Nat} {a : Option Addr} {len cap : Nat} {ts : List Ne} (h : Nes w G a len cap ts) {i : Nat} (hi : i < len) :
    ∃ (b off : Nat) (n : Nt) (ad : Option Addr) (c : Nat), a = some ⟨b, off, none⟩ ∧ n.set < 18446744073709551616 ∧ I64s.Sl w ad c n.l ∧ ∀ W, Below w.heap.size w W →
      W.cell? ⟨b, off + i * 3, none⟩ = some (.int .i64 n.tick) ∧ W.cell? ⟨b, off + i * 3 + 1, none⟩ = some (.slice ad n.l.length c) ∧ W.cell? ⟨b, off + i * 3 + 2, none⟩ = some (.int .u64 (n.set : Int)) := by
  obtain ⟨b, off, ha, hb, hat⟩ := Rw.Rd.at_ h.rd (i := i) (by rw [h.len_]; exact hi)
  have hok := h.ok (ts.getD i default) (by
    have hl : i < ts.length := by rw [h.len_]; exact hi
    simp [List.getD, hl])
  generalize ts.getD i default = t at *
  obtain ⟨h1, h2, h3, h4⟩ := ne_of hok
  obtain ⟨c0, c1, c2⟩ := at_ne hat
  refine ⟨b, off, t.nt, t.l, t.lC, ha, h1, h4, fun W hB => ⟨?_, ?_, ?_⟩⟩
  · exact (hB.cell (p := ⟨b, off + i * 3, none⟩) hb).trans c0
  · rw [h3]; exact (hB.cell (p := ⟨b, off + i * 3 + 1, none⟩) hb).trans c1
  · rw [h2]; exact (hB.cell (p := ⟨b, off + i * 3 + 2, none⟩) hb).trans c2
/-- A watch and the last note's box, both of the call's own. -/
structure OL (w : World) (g : Nat) (a : Wt) (L : Nat) (cs : Array Value) (W : World) : Prop where
  on : On w g a W
  row : Blk W L 29 cs
  own : w.heap.size ≤ L
theorem OL.later {w W W' : World} {g L : Nat} {a : Wt} {cs : Array Value} (h : OL w g a L cs W) (hB : Below W.heap.size W W') : OL w g a L cs W' := ⟨h.on.later hB, h.row.below hB, h.own⟩
theorem OL.ne {w W : World} {g L : Nat} {a : Wt} {cs : Array Value} (h : OL w g a L cs W) : g ≠ L := Blk.ne h.on.wc h.row (by decide)
theorem OL.below {w W : World} {g L : Nat} {a : Wt} {cs : Array Value} (h : OL w g a L cs W) : Below w.heap.size w W := h.on.below
theorem OL.put {w W : World} {g L : Nat} {a : Wt} {cs : Array Value} (h : OL w g a L cs W) (cs' : Array Value) (ht : 0 < w.heap.size) : OL w g a L cs' (W.setRow L cs') := by
  have hx := h.own
  refine ⟨⟨?_, ?_, ?_, h.on.own⟩, h.row.setRow cs', h.own⟩
  · exact (setRow_other W L g cs' h.ne).trans h.on.wc
  · have hb : (W.setRow L cs').heap[0]? = W.heap[0]? := setRow_other W L _ cs' (by omega)
    refine ⟨fun j hj => ?_, Nat.lt_of_lt_of_le h.on.tabs.2 (setRow_grown W L cs').size⟩
    have := h.on.tabs.1 j hj
    unfold World.cell? at this ⊢
    dsimp only at this ⊢
    rw [hb]
    exact this
  · exact h.on.below.grown (setRow_grown W L cs') h.on.below.size (fun k e => by cases e; exact h.own)
theorem ol_note (g : Nat) (a : Wt) (L : Nat) (cs : Array Value) (n : Nt) (ad : Option Addr) (cap : Nat) (hS : n.set < 18446744073709551616) (hS' : a.n.set < 18446744073709551616) (hap : a.apart < 1000000) (hpc : a.pace < 1000000)
    (w W : World) (h : OL w g a L cs W) (hl : I64s.Sl W ad cap n.l) :
    Calls Tryd.prog 9 #[.pointer (some ⟨g, 0, none⟩), .int .i64 n.tick, .slice ad n.l.length cap, .int .u64 (n.set : Int)] W fun e w' => e = .returned (.bool (noteB a n)) ∧ OL w g (nextW a n) L cs w' :=
  (note_any g a n.tick ad cap n.l n.set hS hS' hap hpc W h.on.wc hl h.on.tabs).mono (fun e w' hw => ⟨hw.1, h.on.set hw.2, h.row.stay hw.2.2 (fun e => h.ne e.symm), h.own⟩)
/-- The cells of a note. -/
def ecs (n : Nt) (ad : Option Addr) (cap : Nat) : Array Value := #[.int .i64 n.tick, .slice ad n.l.length cap, .int .u64 (n.set : Int)]
/-- What stands at the loop's head. -/
structure LW (w : World) (g L : Nat) (ep s f : Int) (k : Nat) (a : Wt) (ad : Option Addr) (cap : Nat) (W : World) : Prop where
  ol : OL w g a L (ecs a.n ad cap) W
  sl : I64s.Sl w ad cap a.n.l
  set : a.n.set < 18446744073709551616
  eps : a.eps = ep
  slow : a.slow = s
  fast : a.fast = f
  apart : a.apart ≤ k
  pace : a.pace ≤ 64 * k
theorem lw_next {w W W' : World} {g L : Nat} {ep s f : Int} {k : Nat} {a : Wt} {ad ad' : Option Addr} {cap cap' : Nat} (h : LW w g L ep s f k a ad cap W) (n : Nt) (hs : n.set < 18446744073709551616) (hl : I64s.Sl w ad' cap' n.l) (ho : OL w g (nextW a n) L (ecs n ad' cap') W') :
    LW w g L ep s f (k + 1) (nextW a n) ad' cap' W' := by
  have h1 := h.apart
  have h2 := h.pace
  have h3 := late_le a.n n a.slow a.fast
  have ew : (wide a (gapV n) (kp n.tick)).eps = a.eps ∧ (wide a (gapV n) (kp n.tick)).apart ≤ a.apart + 1 := by
    unfold wide
    dsimp only
    constructor
    · split <;> split <;> rfl
    · split <;> split <;> simp
  obtain ⟨e1, e2, e3, e4⟩ := wide_keeps a (gapV n) (kp n.tick)
  refine ⟨ho, hl, hs, ew.1.trans h.eps, e2.trans h.slow, e3.trans h.fast, ?_, ?_⟩
  · show (wide a (gapV n) (kp n.tick)).apart ≤ k + 1
    omega
  · show a.pace + lateN a.n n a.slow a.fast ≤ 64 * (k + 1)
    omega
theorem next_gap (a : Wt) (n : Nt) : (nextW a n).gap = if a.gap < gapV n then gapV n else a.gap := by
  show (wide a (gapV n) (kp n.tick)).gap = _
  unfold wide
  dsimp only
  split <;> split <;> rfl
theorem next_tick (a : Wt) (n : Nt) : (nextW a n).tick = if a.gap < gapV n then kp n.tick else a.tick := by
  show (wide a (gapV n) (kp n.tick)).tick = _
  unfold wide
  dsimp only
  split <;> split <;> rfl
theorem next_apart (a : Wt) (n : Nt) : (nextW a n).apart = if a.eps < gapV n then a.apart + 1 else a.apart := by
  show (wide a (gapV n) (kp n.tick)).apart = _
  unfold wide
  dsimp only
  split <;> split <;> rfl
theorem next_pace (a : Wt) (n : Nt) : (nextW a n).pace = a.pace + lateN a.n n a.slow a.fast := rfl
theorem store_e {ops : Array Oper} {rest : List Oper} {o : Oper} {a : Act} {w : World} {Q : Exit → Act → World → Prop} (hgd : o.guard = none) (x y : Operand) (ho : o.op = .store 29 x y)
    (g : Nat) (cs : Array Value) (hx : a.eval x = .pointer (some ⟨g, 0, none⟩)) (hy : a.eval y = .agg cs) (hs : cs.size = 3) (h1 : cs.all (·.oneCell') = true) (old : Array Value) (hg : Blk w g 29 old) (hold : old.size = 3)
    (h : wpList Tryd.prog ops Q rest (a.put o.dst undef) (w.setRow g cs)) : wpList Tryd.prog ops Q (o :: rest) a w :=
  wpList_store_row hgd 29 x y ho g cs hx hy 29 old hg (by rw [hs]; exact infoE) (by rw [hs, hold]) h1 h
end Go.Proofs.YtmkdemdeejhonaaDoor.Drf
