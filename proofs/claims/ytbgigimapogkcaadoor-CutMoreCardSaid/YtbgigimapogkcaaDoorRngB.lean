/- RngA for iterators that go over an iterator themselves: what holds when a round has said 'no more' bears whatever the iterator does in memory of its own, too. For every program. -/
import Derived.RangeFuncWrites
import Derived.RangeFuncBound
import Derived.RangeFuncCalls
import Derived.RangeFuncLeaves
import Derived.RangeFuncBox
import Derived.ControlIn
namespace Go.Proofs.YtbgigimapogkcaaDoor.Rgb
open Go Go.RowKit
set_option linter.unusedVariables false
/-- What lay from B on is as it was. -/
structure KeepNew (B : Nat) (W W' : World) : Prop where
  size : W.heap.size ≤ W'.heap.size
  same : ∀ k, B ≤ k → k < W.heap.size → W'.heap[k]? = W.heap[k]?
theorem KeepNew.refl (B : Nat) (W : World) : KeepNew B W W := ⟨Nat.le_refl _, fun _ _ _ => rfl⟩
theorem KeepNew.trans {B : Nat} {W W1 W2 : World} (h : KeepNew B W W1) (h' : KeepNew B W1 W2) : KeepNew B W W2 :=
  ⟨Nat.le_trans h.size h'.size, fun k hB hk => (h'.same k hB (Nat.lt_of_lt_of_le hk h.size)).trans (h.same k hB hk)⟩
theorem KeepNew.mono {B B' : Nat} {W W' : World} (h : KeepNew B W W') (hb : B ≤ B') : KeepNew B' W W' := ⟨h.size, fun k h1 h2 => h.same k (by omega) h2⟩
theorem KeepNew.alloc (B : Nat) (W : World) (o : Obj) : KeepNew B W (W.alloc o) := ⟨by simp, fun k _ hk => Below.heap_alloc W o k hk⟩
theorem KeepNew.setCell {B : Nat} (W : World) {p : Addr} (hp : p.block < B) (v : Value) : KeepNew B W (W.setCell p v) :=
  ⟨by show W.heap.size ≤ (W.heap.modify _ _).size; rw [Array.size_modify]; exact Nat.le_refl _, fun k hB hk => Below.heap_setCell W p v k (by omega)⟩
theorem KeepNew.drew (B : Nat) (W : World) : KeepNew B W W.drew := ⟨Nat.le_refl _, fun _ _ _ => rfl⟩
variable {F : Fence} {n : Nat} {P : Program}
/-- An iterator of N rounds over what I says of the world between them. -/
def Iter (F : Fence) (n : Nat) (P : Program) (gf : Nat) (lb : Array Value) (N : Nat) (encs : Nat → Array Value) (I : Nat → World → Prop) (W : World) : Prop :=
  ∀ (l : Nat) (J : Nat → World → Prop) (Jx : World → Prop), (∀ i W1, J i W1 → I i W1) → (∀ i W1 W2, J i W1 → Below W.heap.size W1 W2 → J i W2) → (∀ W1 W2, Jx W1 → Below W.heap.size W1 W2 → Jx W2) →
    (∀ i W1, i < N → J i W1 → YieldAt F (n - 1) P l (encs i) W1 fun e W' => (e = .returned (.bool true) ∧ J (i + 1) W' ∧ KeepNew W.heap.size W1 W') ∨ (e = .returned (.bool false) ∧ Jx W' ∧ KeepNew W.heap.size W1 W')) →
    J 0 W → CallsIn F n P gf (#[.func (.yield l) #[] #[]] ++ lb) W fun e W' => (∃ v, e = .returned v) ∧ (J N W' ∨ Jx W')
/-- How the body of a round may be left. -/
def roundTo (B : Nat) (I : Nat → World → Prop) (Ix : Code → World → Prop) (i : Nat) (W : World) : Exit → Act → World → Prop
  | .normal, _, W' => KeepNew B W W' ∧ I (i + 1) W'
  | .ret, _, W' => KeepNew B W W' ∧ Ix .ret W'
  | .exit id, _, W' => KeepNew B W W' ∧ Ix (.exit id) W'
  | .goto t, _, W' => KeepNew B W W' ∧ Ix (.goto t) W'
  | .panic _, _, _ => False
  | .outgrown, _, _ => False
theorem below_put {m l : Nat} (W : World) (o : Obj) (hl : m ≤ l) : Below m W (W.putObj l o) :=
  ⟨rfl, rfl, rfl, by simp, fun k hk => World.putObj_heap_other (by omega)⟩
theorem wpIn_range {g : Operand} {ps : Array Tmp} {assign body : Code} {Q : Exit → Act → World → Prop} {a : Act} {w : World}
    (hro : F.round = none) (h1 : 1 ≤ n) {gf : Nat} {lb : Array Value} (hg : a.eval g = .func (.func gf) #[] lb) (hFg : F.fn gf) (eg : ∀ args w, (callFunc gf args).run P w = .ok (.enter gf args) w)
    {N : Nat} {encs : Nat → Array Value} {I : Nat → World → Prop} {Ix : Code → World → Prop} (hps : ∀ i, (encs i).size = ps.size)
    (hI : ∀ i W W', I i W → Below w.heap.size W W' → I i W') (hIx : ∀ c W W', Ix c W → Below w.heap.size W W' → Ix c W')
    (h0 : I 0 w) (hseq : ∀ W, Below w.heap.size w W → I 0 W → Iter F (n - 1) P gf lb N encs I W)
    (a₁ : Nat → World → Act) (asg : Nat → World → World) (hasg : ∀ i W, Below W.heap.size W (asg i W))
    (hassign : ∀ (l i : Nat) (W : World) (K : Act → World → Prop), K (a₁ i W) (asg i W) →
      assign.wpIn (F.inRound l) (n - 1 - 1) P (Exit.then K (fun _ _ _ => False)) { tmps := (ps.zip (encs i)).foldl (fun t (p, v) => t.setIfInBounds p v) a.tmps, defers := [] } W)
    (hbody : ∀ (l i : Nat) (W W2 : World), i < N → w.heap.size ≤ l → l < W.heap.size → I i W → I i W2 → W2.heap.size = (asg i W).heap.size → (∀ k, k ≠ l → W2.heap[k]? = (asg i W).heap[k]?) →
      body.wpIn (F.inRound l) (n - 1 - 1) P (roundTo w.heap.size I Ix i W2) (a₁ i W) W2)
    (hdone : ∀ (W : World), w.heap.size < W.heap.size → I N W → W.heap[w.heap.size]? = some (.deferred (some [])) → Q .normal { a with defers := { target := .collected w.heap.size, args := #[] } :: a.defers } W)
    (hstop : ∀ (c : Code) (W : World), w.heap.size < W.heap.size → Ix c W → W.heap[w.heap.size]? = some (.deferred (some [])) → c.wpIn F n P Q { a with defers := { target := .collected w.heap.size, args := #[] } :: a.defers } W) :
    (Code.rangeFunc g ps assign body).wpIn F n P Q a w := by
  refine wpIn_rangeFunc ?_
  intro fn hfn
  rw [hro]
  obtain ⟨rc, hrc⟩ : ∃ rc : LoopState → Option Code → Loop, rc = fun st pe => { state := st, pending := pe, fn, tmps := a.tmps, params := ps, assign, body, defers := w.heap.size } := ⟨_, rfl⟩
  obtain ⟨D, hD⟩ : ∃ D, D = w.heap.size := ⟨_, rfl⟩
  obtain ⟨W1, hW1⟩ : ∃ W1, W1 = (w.alloc (.deferred (some []))).alloc (.loop (rc .ready none)) := ⟨_, rfl⟩
  have hsz : W1.heap.size = D + 2 := by rw [hW1, World.size_alloc, World.size_alloc, hD]
  have hB1 : Below D w W1 := by rw [hW1, hD]; exact ((Below.refl _ w).alloc (Nat.le_refl _) _).alloc (by simp) _
  have hL1 : W1.heap[D + 1]? = some (.loop (rc .ready none)) := by
    rw [hW1, hD]
    have := World.alloc_heap_new (w.alloc (.deferred (some []))) (.loop (rc .ready none))
    rwa [World.size_alloc] at this
  have hD1 : W1.heap[D]? = some (.deferred (some [])) := by
    rw [hW1, hD]
    exact (Below.heap_alloc _ _ _ (by simp)).trans (World.alloc_heap_new w _)
  rw [← hD] at hI hIx hbody hdone hstop hseq
  refine ⟨D + 1, [{ target := .collected D, args := #[] }], W1, { target := .fn (.func gf) lb, args := #[.func (.yield (D + 1)) #[] #[]] }, W1, gf, #[.func (.yield (D + 1)) #[] #[]] ++ lb, W1, ?_, ?_, ?_, ?_, fun _ => h1, ?_⟩
  · rw [hW1, hrc, hD]; exact run_enterLoop_outer _ _ _ _ _
  · simp only [resolve, hg]
    simp [go_sem]
  · intro f' hf'
    simp [Target.leads] at hf'
    subst hf'
    exact hFg
  · simp [invoke, go_sem, eg]
  have hI1 : I 0 W1 := hI 0 w W1 h0 hB1
  refine (hseq W1 hB1 hI1 (D + 1)
    (fun i W => I i W ∧ W.heap[D + 1]? = some (.loop (rc .ready none)) ∧ W.heap[D]? = some (.deferred (some [])))
    (fun W => ∃ c, Ix c W ∧ W.heap[D + 1]? = some (.loop (rc .done (some c))) ∧ W.heap[D]? = some (.deferred (some [])))
    (fun i W h => h.1)
    (fun i W W' h hB => ⟨hI i W W' h.1 (hB.mono (by omega)), (hB.block _ (by omega)).trans h.2.1, (hB.block _ (by omega)).trans h.2.2⟩)
    (fun W W' ⟨c, h⟩ hB => ⟨c, hIx c W W' h.1 (hB.mono (by omega)), (hB.block _ (by omega)).trans h.2.1, (hB.block _ (by omega)).trans h.2.2⟩) ?_ ⟨hI1, hL1, hD1⟩).mono ?_
  · rintro i W hiN ⟨hi, hl, hd⟩
    have hlt : D + 1 < W.heap.size := (Array.getElem?_eq_some_iff.1 hl).1
    have hy := run_yield (P := P) (args := encs i) hl (by rw [hrc]; exact hps i)
    rw [hrc] at hy
    refine ⟨fn, _, assign, body, hy, roundIn_of_wpIn hfn (hassign _ i W _ ?_)⟩
    have hA := hasg i W
    have hlA : (asg i W).heap[D + 1]? = some (.loop (rc .ready none)) := (hA.block _ hlt).trans hl
    have hdA : (asg i W).heap[D]? = some (.deferred (some [])) := (hA.block _ (by omega)).trans hd
    have hltA : D + 1 < (asg i W).heap.size := (Array.getElem?_eq_some_iff.1 hlA).1
    refine ⟨_, run_beginRound hlA (by rw [hrc]), ?_⟩
    obtain ⟨W2, hW2⟩ : ∃ W2, W2 = (asg i W).putObj (D + 1) (.loop { rc .ready none with state := .busy }) := ⟨_, rfl⟩
    rw [← hW2]
    have hB2 : Below D W W2 := by rw [hW2]; exact (hA.mono (by omega)).trans (below_put _ _ (by omega))
    have hl2 : W2.heap[D + 1]? = some (.loop { rc .ready none with state := .busy }) := by rw [hW2]; exact World.putObj_heap_same hltA
    have hd2 : W2.heap[D]? = some (.deferred (some [])) := by rw [hW2]; exact (World.putObj_heap_other (by omega)).trans hdA
    have hk2 : KeepNew W1.heap.size W W2 := by
      rw [hW2]
      refine ⟨by simp only [World.putObj_size]; exact hA.size, fun k hk hkl => (World.putObj_heap_other (by omega)).trans (hA.block k hkl)⟩
    refine wpIn_mono (hbody _ i W W2 hiN (by omega) (by omega) hi (hI i W W2 hi hB2) (by rw [hW2]; simp) (fun k hk => by rw [hW2]; exact World.putObj_heap_other hk)) ?_
    have fin : ∀ (jump : Option Code) (W3 : World), KeepNew D W2 W3 →
        (Instr.endRound (D + 1) jump).run P W3 = .ok (.bool jump.isNone) (W3.putObj (D + 1) (.loop (rc (if jump.isNone then .ready else .done) jump))) ∧
        (W3.putObj (D + 1) (.loop (rc (if jump.isNone then .ready else .done) jump))).heap[D + 1]? = some (.loop (rc (if jump.isNone then .ready else .done) jump)) ∧
        (W3.putObj (D + 1) (.loop (rc (if jump.isNone then .ready else .done) jump))).heap[D]? = some (.deferred (some [])) ∧
        KeepNew W1.heap.size W (W3.putObj (D + 1) (.loop (rc (if jump.isNone then .ready else .done) jump))) := fun jump W3 hk3 => by
      have hl3 : W3.heap[D + 1]? = some (.loop { rc .ready none with state := .busy }) := (hk3.same _ (by omega) (by exact (Array.getElem?_eq_some_iff.1 hl2).1)).trans hl2
      have hd3 : W3.heap[D]? = some (.deferred (some [])) := (hk3.same _ (Nat.le_refl _) (by exact (Array.getElem?_eq_some_iff.1 hd2).1)).trans hd2
      have he := run_endRound (P := P) jump hl3
      rw [hrc] at he
      refine ⟨by rw [hrc]; exact he, World.putObj_heap_same (Array.getElem?_eq_some_iff.1 hl3).1, (World.putObj_heap_other (by omega)).trans hd3, ?_⟩
      refine ⟨by simp only [World.putObj_size]; exact Nat.le_trans hk2.size hk3.size, fun k hk hkl => ?_⟩
      exact (World.putObj_heap_other (by omega)).trans ((hk3.same k (by omega) (Nat.lt_of_lt_of_le hkl hk2.size)).trans (hk2.same k hk hkl))
    have put : ∀ {X : World} (o : Obj), Below D X (X.putObj (D + 1) o) := fun o => below_put _ _ (by omega)
    rintro e a3 W3 hp
    cases e with
    | normal =>
      obtain ⟨f1, f2, f3, f4⟩ := fin none W3 hp.1
      exact ⟨_, _, f1, .inl ⟨rfl, ⟨hI _ _ _ hp.2 (put _), f2, f3⟩, f4⟩⟩
    | ret =>
      obtain ⟨f1, f2, f3, f4⟩ := fin (some .ret) W3 hp.1
      exact ⟨_, _, f1, .inr ⟨rfl, ⟨.ret, hIx _ _ _ hp.2 (put _), f2, f3⟩, f4⟩⟩
    | exit id =>
      obtain ⟨f1, f2, f3, f4⟩ := fin (some (.exit id)) W3 hp.1
      exact ⟨_, _, f1, .inr ⟨rfl, ⟨.exit id, hIx _ _ _ hp.2 (put _), f2, f3⟩, f4⟩⟩
    | goto t =>
      obtain ⟨f1, f2, f3, f4⟩ := fin (some (.goto t)) W3 hp.1
      exact ⟨_, _, f1, .inr ⟨rfl, ⟨.goto t, hIx _ _ _ hp.2 (put _), f2, f3⟩, f4⟩⟩
    | panic ch => exact hp.elim
    | outgrown => exact hp.elim
  · rintro e W2 ⟨⟨v, rfl⟩, ⟨hi, hl, hd⟩ | ⟨c, hi, hl, hd⟩⟩
    · have he := run_endLoop (P := P) hl (by rw [hrc]; simp)
      rw [hrc] at he
      have hlt := (Array.getElem?_eq_some_iff.1 hl).1
      refine ⟨none, _, he, ?_⟩
      have hq := hdone (W2.putObj (D + 1) (.loop { (rc .ready none) with state := .exhausted })) (by simp; omega) (hI _ _ _ hi (below_put _ _ (by omega))) ((World.putObj_heap_other (by omega)).trans hd)
      rw [hrc] at hq
      exact hq
    · have he := run_endLoop (P := P) hl (by rw [hrc]; simp)
      rw [hrc] at he
      have hlt := (Array.getElem?_eq_some_iff.1 hl).1
      refine ⟨some c, _, he, ?_⟩
      have hq := hstop c (W2.putObj (D + 1) (.loop { (rc .done (some c)) with state := .exhausted })) (by simp; omega) (hIx _ _ _ hi (below_put _ _ (by omega))) ((World.putObj_heap_other (by omega)).trans hd)
      rw [hrc] at hq
      exact hq
end Go.Proofs.YtbgigimapogkcaaDoor.Rgb
