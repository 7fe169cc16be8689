/- A region that only reads, in the round of a range over a function: one walk in the order of the text serves every order there, too (for every program). An operation that defers nothing is carried out in a round as everywhere. -/
import Derived.Test.YtmkdemdeejhonaaDoorProg
import Derived.Sort.QuietIn
namespace Go.Proofs.YtmkdemdeejhonaaDoor.Qui
section
variable {F : Fence} {n : Nat} {P : Program} {md : Region.Mode} {ops : Array Oper} {C : World → Prop}
def plainB (o : Oper) : Bool := match o.op with | .defer _ => false | _ => true
theorem plainB_spec {o : Oper} (h : plainB o = true) (ρ : Operand → Value) : o.semAt F.round ρ = execOp ρ o :=
  Oper.semAt_eq _ _ _ fun c hc => by simp [plainB, hc] at h
theorem wpIn_of {o : Oper} {a : Act} {K : Act → Prop} {K' : Act → World → Prop} {Q' : Exit → Act → World → Prop} {w : World} (ho : plainB o = true) (hw : C w) (h : ∀ a w', C w' → K a → K' a w')
    (ha : o.askedIn F P a C) (hh : o.quietIn F n P a C K) : o.wpIn F n P a w K' Q' := by
  obtain ⟨v, h1, h2⟩ := hh
  have h3 := h1 w hw
  unfold Oper.quietAtIn at h3
  unfold Oper.wpIn
  rw [plainB_spec ho]
  refine ⟨ha w hw, ?_⟩
  generalize (execOp a.eval o).run P w = r at *
  cases r with
  | halt x w' => exact h3.elim
  | ok x w' =>
    cases x <;> simp only [Oper.quietUponIn] at h3 <;> simp only [Oper.uponIn]
    case value u => rw [h3.1, h3.2]; exact h _ _ hw h2
    case skip => rw [h3.1, ← h3.2]; exact h _ _ hw h2
    case enter f args =>
      rw [h3.1]
      exact ⟨h3.2.1, h3.2.2.mono fun e w'' he => by obtain ⟨e1, e2⟩ := he; subst e1; exact h _ _ e2 h2⟩
theorem wpOpIn_of {i : Nat} {a : Act} {K : Act → Prop} {K' : Act → World → Prop} {Q' : Exit → Act → World → Prop} {w : World} (ho : ∀ (j : Nat) (o : Oper), ops[j]? = some o → plainB o = true) (hC : C w) (h : ∀ a w', C w' → K a → K' a w')
    (hh : qOpIn F n P ops C i K a) : wpOpIn F n P ops Q' i K' a w := by
  unfold qOpIn at hh
  unfold wpOpIn
  cases e : ops[i]? with
  | none => simp only [e] at hh; exact h _ _ hC hh
  | some o =>
    simp only [e] at hh ⊢
    cases hg : Region.wanted o (yielded ops a.tmps) with
    | true => simp only [hg, if_true] at hh ⊢; exact wpIn_of (ho i o e) hC h hh.1 hh.2
    | false => simp only [hg, Bool.false_eq_true, if_false] at hh ⊢; exact ⟨hh.1 w hC, h _ _ hC hh.2⟩
theorem wpAnyIn_of {Q : Act → Prop} {Q' : Exit → Act → World → Prop} (ho : ∀ (j : Nat) (o : Oper), ops[j]? = some o → plainB o = true) (hQ : ∀ a w, C w → Q a → Q' .normal a w) : ∀ (fuel : Nat) (listed : Array Bool) (a : Act) (w : World), C w →
    wpAnyQIn F n P md ops C Q fuel listed a → wpAnyIn F n P md ops Q' fuel listed a w
  | 0, _, _, _, hw, h => ⟨h.1, hQ _ _ hw h.2⟩
  | fuel + 1, _, _, _, hw, h => ⟨fun h0 => hQ _ _ hw (h.1 h0), fun i hi => wpOpIn_of ho hw (fun a' w' hw' => wpAnyIn_of ho hQ fuel _ a' w' hw') (h.2 i hi)⟩
/-- A region whose operations are written out, whatever round it lies in. -/
theorem wpIn_region_quiet_round {id : Nat} {Q : Exit → Act → World → Prop} {a : Act} {w : World} {l : List Oper} (hl : l.all plainB = true) (hm : P.follows .mixedOrders = true) (hB : Region.lexB .any l.toArray = true)
    (h : wpQuietIn F n P l.toArray (fun w' => ∃ n, w' = w.drewN n) (fun a' => ∀ w', (∃ n, w' = w.drewN n) → Q .normal a' w') l a) : (Code.region id l.toArray true).wpIn F n P Q a w := by
  simp only [Region.lexB, Bool.and_eq_true] at hB
  have ho : ∀ (j : Nat) (o : Oper), l.toArray[j]? = some o → plainB o = true := fun j o hj => List.all_eq_true.1 hl o (by
    rw [List.getElem?_toArray] at hj
    exact List.mem_of_getElem? hj)
  refine wpIn_region_any hm (wpAnyIn_of (C := fun w' => ∃ n, w' = w.drewN n) (Q := fun a' => ∀ w', (∃ n, w' = w.drewN n) → Q .normal a' w') ho (fun _ w' hw' h => h w' hw') _ _ _ _ ⟨1, rfl⟩ ?_)
  have := wpAnyQIn_lex (F := F) (n := n) (C := fun w' => ∃ n, w' = w.drewN n) (md := .any) hB.1 l 0 (Array.replicate l.toArray.size false) a (by simp) (by simpa using hB.2) h
  simpa using this
end
end Go.Proofs.YtmkdemdeejhonaaDoor.Qui
