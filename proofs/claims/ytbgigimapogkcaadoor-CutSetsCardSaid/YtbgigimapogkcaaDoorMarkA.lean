/- A range over a function inside a plain loop: the marks of all rounds among the activation's deferred calls; a 'make' of full length inside a fence. For every program. -/
import Derived.RangeFuncNested
import Derived.RangeFuncBound
import Derived.RangeFuncCalls
import Derived.RangeFuncLeaves
import Derived.RangeFuncBox
import Derived.OwnWalkIn
import Derived.Laws.OwnMore
import Derived.Below
namespace Go.Proofs.YtbgigimapogkcaaDoor.Mrk
open Go.RowKit
set_option linter.unusedVariables false
variable {F : Fence} {n : Nat} {P : Program}
theorem wpListIn_make_full (w : World) {ops : Array Oper} {rest : List Oper} {o : Oper} {a : Act} {Q : Exit → Act → World → Prop}
    (hg : o.guard = none) (l c : Operand) (t : TypeId) (hop : o.op = Op.makeSlice t l c)
    (base : Nat) (e : TypeId) (i : TypeInfo) (z : Value) (size : Nat) (h1 : P.underlying t = some (.slice e)) (h2 : P.info? e = some i) (h3 : i.zero = some z) (h4 : i.size = size)
    (kl kc : IntKind) (D C : Int) (m : Nat) (hl : a.eval l = .int kl D) (hc : a.eval c = .int kc C) (hD : D = (m : Int)) (hC : C = (m : Int)) (b2 : i.bytes * m ≤ 281474976710656) (b3 : m ≤ maxLen) (b4 : base ≤ w.heap.size)
    (hK : ∀ w', w'.ownsRow base e size (.slice (some ⟨w.heap.size, 0, none⟩) m m) m (madeCells z.cells (m * size)).toList → w.grownBy w' none → wpListIn F n P ops Q rest (a.put o.dst (.slice (some ⟨w.heap.size, 0, none⟩) m m)) w') :
    wpListIn F n P ops Q (o :: rest) a w := by
  refine wpListIn_plain hg fun K hK' => ?_
  obtain ⟨w', hrun, r1, r2⟩ := run_make_full (P := P) w base t e i z size h1 h2 h3 h4 kl kc m b2 b3 b4
  subst hC
  subst hD
  unfold Oper.wpIn
  refine ⟨?_, ?_⟩
  · simp [Oper.about, hop]
  · rw [Oper.semAt_plain F _ _ (by rw [hop]; intro c hc'; cases hc')]
    simp [execOp, hop, hl, hc, hrun, Result.andThen]
    exact hK' _ _ (hK w' r1 r2)
/-- The marks of the ranges that are over: each one's block lies from base on and below top, is another one's, and hands no call over. -/
def Marks (base top : Nat) : List Deferred → World → Prop
  | [], _ => True
  | d :: ds, W => (∃ D, d.target = .collected D ∧ base ≤ D ∧ D < top ∧ W.heap[D]? = some (.deferred (some [])) ∧ ∀ d' ∈ ds, d'.target ≠ .collected D) ∧ Marks base top ds W
theorem Marks.keep {base top : Nat} {W W' : World} : ∀ {ds : List Deferred}, Marks base top ds W → (∀ D, base ≤ D → D < top → W.heap[D]? = some (.deferred (some [])) → (∀ d ∈ ds, d.target = .collected D → W'.heap[D]? = some (.deferred (some [])))) → Marks base top ds W'
  | [], _, _ => trivial
  | d :: ds, ⟨⟨D, h1, h2, h3, h4, h5⟩, h⟩, hk => ⟨⟨D, h1, h2, h3, hk D h2 h3 h4 d (by simp) h1, h5⟩, h.keep fun D' a b c d' hd' e => hk D' a b c d' (List.mem_cons_of_mem _ hd') e⟩
theorem Marks.same {base top : Nat} {W W' : World} {ds : List Deferred} (h : Marks base top ds W) (hs : ∀ D, D < top → W.heap[D]? = some (.deferred (some [])) → W'.heap[D]? = some (.deferred (some []))) : Marks base top ds W' :=
  h.keep fun D _ h2 h3 _ _ _ => hs D h2 h3
theorem Marks.below {base top : Nat} {W W' : World} {ds : List Deferred} (h : Marks base top ds W) (hB : Below W.heap.size W W') : Marks base top ds W' :=
  h.same fun D _ h3 => (hB.block D (Array.getElem?_eq_some_iff.1 h3).1).trans h3
theorem Marks.others {base top : Nat} {W W' : World} {ds : List Deferred} (h : Marks base top ds W) (hk : KeepsOthers W W') : Marks base top ds W' :=
  h.same fun D _ h3 => hk.same D _ h3 rfl
theorem Marks.lt {base top : Nat} {W : World} : ∀ {ds : List Deferred}, Marks base top ds W → ∀ d ∈ ds, ∃ D, d.target = .collected D ∧ D < top
  | d :: ds, ⟨⟨D, h1, _, h3, _, _⟩, h⟩, d', hd' => by
    rcases List.mem_cons.1 hd' with rfl | hd'
    · exact ⟨D, h1, h3⟩
    · exact h.lt d' hd'
theorem Marks.mono {base top top' : Nat} {W : World} (ht : top ≤ top') : ∀ {ds : List Deferred}, Marks base top ds W → Marks base top' ds W
  | [], _ => trivial
  | d :: ds, ⟨⟨D, h1, h2, h3, h4, h5⟩, h⟩ => ⟨⟨D, h1, h2, by omega, h4, h5⟩, h.mono ht⟩
/-- One range more. -/
theorem Marks.push {base top top' D : Nat} {W : World} {ds : List Deferred} (h : Marks base top ds W) (hb : base ≤ D) (ht : top ≤ D) (ht' : D < top') (hK : W.heap[D]? = some (.deferred (some []))) :
    Marks base top' ({ target := .collected D, args := #[] } :: ds) W :=
  ⟨⟨D, rfl, hb, ht', hK, fun d' hd' e => by
    obtain ⟨D', h1, h2⟩ := h.lt d' hd'
    rw [h1] at e
    cases e
    omega⟩, h.mono (by omega)⟩
theorem Marks.from {β : Type} {base top : Nat} {ds : List Deferred} : OwnFrom top (fun (_ : β) W => Marks base top ds W) := fun s A B row hs hg hr =>
  hs.same fun D h1 h2 => (hg.block D (Array.getElem?_eq_some_iff.1 h2).1 (fun e => by have := (hr D e.symm).1; omega)).trans h2
/-- On the way out each mark is shut; whatever abides that holds behind them. -/
theorem marks_leave {fn : Func} {tmps : Array Value} {R : Ending → World → Prop} {base top : Nat} {K : World → Prop}
    (hK : ∀ W D, base ≤ D → W.heap[D]? = some (.deferred (some [])) → K W → K (W.putObj D (.deferred none))) (hR : ∀ W, K W → ∃ v, (results fn tmps).run P W = .ok v W ∧ R (.returned v) W) :
    ∀ (ds : List Deferred) (W : World), Marks base top ds W → K W → LeavesInM F n P fn tmps R ds .returning W
  | [], W, _, hk => hR W hk
  | d :: ds, W, ⟨⟨D, h1, h2, _, h4, h5⟩, h⟩, hk => by
    refine ⟨by simp, .inl ⟨D, _, h1, run_takeDeferred h4, marks_leave hK hR ds _ (h.keep fun D' _ _ h6 d' hd' e => ?_) (hK W D h2 h4 hk)⟩⟩
    rw [World.putObj_heap_other (by rintro rfl; exact h5 d' hd' e)]
    exact h6
end Go.Proofs.YtbgigimapogkcaaDoor.Mrk
