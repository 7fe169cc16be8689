/- A region that draws its order and only reads, some of whose callees make memory: one walk in the order of the text serves every order (for every program). The class of worlds: whatever the callees have added. -/
import Derived.Test.YtmkdemdeejhonaaDoorProg
import Derived.BigQuiet
import Derived.Below
import Derived.Deep.QuietTactic
namespace Go.Proofs.YtmkdemdeejhonaaDoor.Qui
open Go.RowKit
set_option linter.unusedVariables false
section
variable {P : Program}
/-- The worlds that have grown out of one. -/
structure Cls (w : World) where
  V : World
  lies : Below w.heap.size w V
instance (w : World) : Nonempty (Cls w) := ⟨⟨w, Below.refl _ _⟩⟩
theorem wp_region_quiet_below {id : Nat} {Q : Exit → Act → World → Prop} {a : Act} {w : World} {l : List Oper} (hm : P.follows .mixedOrders = true) (hB : Region.lexB .any l.toArray = true)
    (h : wpQuiet P l.toArray (fun w' => ∃ x : Cls w, w' = x.V) (fun a' => ∀ w', (∃ x : Cls w, w' = x.V) → Q .normal a' w') l a) : (Code.region id l.toArray true).wp P Q a w :=
  wp_region_quiet (C := fun w' => ∃ x : Cls w, w' = x.V) hm hB ⟨⟨w.drew, (Below.refl _ _).drew⟩, rfl⟩ (by simpa using h)
theorem cls_same {f : FuncId} {args : Array Value} {w : World} {x : Cls w} {v : Value} (h : Calls P f args x.V fun e w' => e = .returned v ∧ x.V = w') : Calls P f args x.V fun e w'' => e = .returned v ∧ ∃ y : Cls w, w'' = y.V :=
  h.mono fun e w' hp => ⟨hp.1, x, hp.2.symm⟩
theorem cls_below {f : FuncId} {args : Array Value} {w : World} {x : Cls w} {v : Value} (h : Calls P f args x.V fun e w' => e = .returned v ∧ Below x.V.heap.size x.V w') : Calls P f args x.V fun e w'' => e = .returned v ∧ ∃ y : Cls w, w'' = y.V :=
  h.mono fun e w' hp => ⟨hp.1, ⟨w', x.lies.trans (hp.2.mono x.lies.size)⟩, rfl⟩
end
end Go.Proofs.YtmkdemdeejhonaaDoor.Qui
