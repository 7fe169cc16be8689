/- A region that calls no Go function, in the round of a range over a function (for every program): what is shown of it as outside, order by order under a condition on the world, holds inside the round's fence, too. -/
import Derived.Test.YtmkdemdeejhonaaDoorProg
import Derived.OrdersIn
import Derived.Deep.RegionHeld
namespace Go.Proofs.YtmkdemdeejhonaaDoor.Inr
set_option linter.unusedVariables false
/-- An operation that leads into no function. -/
def calm (o : Oper) : Bool := match o.op with
  | .move _ | .assign _ | .load _ _ | .store _ _ _ | .binOp _ _ _ _ _ | .unOp _ _ _ | .convert _ _ _ | .fieldAddr _ _ _ | .field _ _ _ | .indexAddr _ _ _ | .extract _ _ | .alloc _ | .box _ _ | .build _ _ | .nilCheck _ => true
  | .call c => match c.callee with | .builtin .min | .builtin .max | .builtin .len => true | _ => false
  | _ => false
def Plain : Result Next → Prop
  | .ok (.value _) _ | .ok .skip _ | .halt _ _ => True
  | _ => False
theorem plain_v (s : Sem Value) (P : Program) (w : World) : Plain ((do pure (.value (← s)) : Sem Next).run P w) := by
  simp only [Sem.run_bind]
  cases s.run P w <;> simp [Result.andThen, Plain]
theorem plain_u (s : Sem Unit) (P : Program) (w : World) : Plain ((do s; pure .skip : Sem Next).run P w) := by
  simp only [Sem.run_bind]
  cases s.run P w <;> simp [Result.andThen, Plain]
theorem plain_of {o : Oper} (h : calm o = true) (ρ : Operand → Value) (P : Program) (w : World) : Plain ((execOp ρ o).run P w) := by
  cases ho : o.op <;> simp only [calm, ho] at h <;> first
    | (cases h; done)
    | (simp only [execOp, ho]; first | exact plain_v _ P w | exact plain_u _ P w | (simp [Plain]; done))
    | skip
  · simp only [execOp, ho]
    split
    · simp [runtimePanic, Plain]
    · simp [runtimePanic, Plain]
    · simp [runtimePanic, Plain]
    · split
      · simp [runtimePanic, Plain]
      · simp only [Sem.run_bind]
        cases (program).run P w with
        | halt x w' => simp [Result.andThen, Plain]
        | ok p w' =>
          simp only [Result.andThen_ok]
          generalize (nilAhead _ _ _ _).run P w' = r
          cases r with
          | halt x w'' => simp [Result.andThen, Plain]
          | ok q w'' =>
            simp only [Result.andThen_ok]
            split <;> simp [unsupported, Plain, Result.andThen]
      · simp [Plain]
    · simp [Plain]
  · rename_i c
    simp only [execOp, ho, Sem.run_bind, resolve]
    cases hc : c.callee <;> simp only [hc] at h ⊢ <;> first
      | (cases h; done)
      | (rename_i b; cases b <;> first | (cases h; done) | (simp only [Sem.run_pure, Result.andThen_ok, invoke, builtin]; exact plain_v _ P w))
theorem about_none {o : Oper} (h : calm o = true) (ρ : Operand → Value) (P : Program) (w : World) : o.about P w ρ = none := by
  unfold Oper.about
  split
  · rename_i c ho
    simp only [calm, ho] at h
    cases hc : c.callee <;> simp only [hc] at h <;> first
      | (cases h; done)
      | (simp only [resolve, hc, Sem.run_pure, Target.leads])
  · rfl
/-- What says nothing but of the region's own end. -/
def Only (Q : Exit → Act → World → Prop) : Exit → Act → World → Prop
  | .normal, a, w => Q .normal a w
  | _, _, _ => False
theorem only_out {Q : Exit → Act → World → Prop} : ¬ LetsOut (Only Q) := fun ⟨_, _, h⟩ => h
theorem Only.imp {Q : Exit → Act → World → Prop} : ∀ (e : Exit) (a : Act) (w : World), Only Q e a w → Q e a w := fun e a w h => by
  cases e <;> first | exact h | exact (h : False).elim
theorem only_norm {Q : Exit → Act → World → Prop} {a : Act} {w : World} (h : Q .normal a w) : Only Q .normal a w := h
section
variable {F : Fence} {n : Nat} {P : Program} {md : Region.Mode} {ops : Array Oper} {Q : Exit → Act → World → Prop} {S : World → Prop}
theorem in_of {o : Oper} {a : Act} {K : Act → World → Prop} {w : World} (ho : calm o = true) (h : o.wp P a w K (Only Q)) : o.wpIn F n P a w K (Only Q) := by
  refine ⟨fun f hf => (by rw [about_none ho] at hf; cases hf), ?_⟩
  rw [Oper.semAt_eq _ _ _ (fun c hc => by simp [calm, hc] at ho)]
  unfold Oper.wp at h
  have hp := plain_of ho a.eval P w
  generalize (execOp a.eval o).run P w = r at *
  cases r with
  | halt x w' => cases x <;> simp only [Oper.upon, Oper.uponIn] at h ⊢ <;> exact h
  | ok x w' => cases x <;> simp only [Plain] at hp <;> simp only [Oper.upon, Oper.uponIn] at h ⊢ <;> exact h
theorem opIn_of {i : Nat} {a : Act} {K K' : Act → World → Prop} {w : World} (ho : ∀ (j : Nat) (o : Oper), ops[j]? = some o → calm o = true) (hK : ∀ a w, K a w → K' a w)
    (h : wpOp P ops (Only Q) i K a w) : wpOpIn F n P ops (Only Q) i K' a w := by
  unfold wpOp at h
  unfold wpOpIn
  cases e : ops[i]? with
  | none => simp only [e] at h; exact hK _ _ h
  | some o =>
    simp only [e] at h ⊢
    split
    · rename_i hw
      simp only [hw, if_true] at h
      rcases h with h | ⟨_, h⟩
      · exact Oper.wpIn_mono hK (in_of (ho i o e) h)
      · exact absurd h only_out
    · rename_i hw
      simp only [hw] at h
      exact ⟨fun f hf => (by rw [about_none (ho i o e)] at hf; cases hf), hK _ _ h⟩
theorem anyIn_of (ho : ∀ (j : Nat) (o : Oper), ops[j]? = some o → calm o = true) : ∀ (fuel : Nat) (listed : Array Bool) (a : Act) (w : World),
    wpAny P md ops (Only Q) fuel listed a w → wpAnyIn F n P md ops (Only Q) fuel listed a w
  | 0, _, _, _, h => h
  | fuel + 1, _, _, _, h => ⟨h.1, fun i hi => opIn_of ho (fun a' w' h' => anyIn_of ho fuel _ a' w' h') (h.2 i hi)⟩
/-- THE BEGINNING. -/
theorem wpIn_region_held_round {id : Nat} {a : Act} {w : World} {l : List Oper} (hl : l.all calm = true) (hm : P.follows .mixedOrders = true) (hS : S w.drew)
    (h : S w.drew → wpAnyH P .any l.toArray (Only Q) S l.toArray.size (Array.replicate l.toArray.size false) a w.drew) : (Code.region id l.toArray true).wpIn F n P Q a w := by
  have ho : ∀ (j : Nat) (o : Oper), l.toArray[j]? = some o → calm o = true := fun j o hj => List.all_eq_true.1 hl o (by
    rw [List.getElem?_toArray] at hj
    exact List.mem_of_getElem? hj)
  exact wpIn_mono (wpIn_region_any hm (anyIn_of ho _ _ _ _ (wpAny_of_held _ _ _ _ (h hS)))) Only.imp
end
end Go.Proofs.YtmkdemdeejhonaaDoor.Inr
