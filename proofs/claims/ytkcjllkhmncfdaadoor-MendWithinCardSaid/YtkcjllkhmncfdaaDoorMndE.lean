/- Layer 27's laws, plain: clocks behind a turn, how far they are apart; the argument in later worlds. -/
import Derived.Test.YtkcjllkhmncfdaaDoorMndU
import Derived.Test.YtkcjllkhmncfdaaDoorMndB
import Derived.Test.YtkcjllkhmncfdaaDoorMndC
import Derived.Test.YtkcjllkhmncfdaaDoorMndD
import Derived.Test.YtkcjllkhmncfdaaDoorMndK
namespace Go.Proofs.YtkcjllkhmncfdaaDoor.Mnd
open Go.ChangeShapes Go.WideShapes Go.ChangeAt Go.RowKit
open I64s (In64 Sl OwnL ListPost)
open Nodes (Tabs)
set_option linter.unusedVariables false
theorem OkWr.later {w W : World} {a : Wr} (h : OkWr w a) (hB : Below w.heap.size w W) : OkWr W a := ⟨h.e, h.d, h.er.kept hB, Lst.rowK_kept h.dr hB⟩
theorem kp_near {x y B : Int} (h : x - y ≤ B) (h0 : 0 ≤ B) : kp x - kp y ≤ B := by unfold kp; omega
theorem who_255 : ∀ m, m ≤ 8 → (whoL 255 m).length = m := by decide +kernel
theorem who_some {S m : Nat} (hS : S = 255 ∨ S = 85) (h0 : 0 < m) : 0 < (whoL S m).length := by
  have h : 0 ∈ whoL S m := who_mem.2 ⟨by omega, by rcases hS with rfl | rfl <;> decide, h0⟩
  cases hw : whoL S m with
  | nil => rw [hw] at h; cases h
  | cons a l => simp
theorem inR_map {E : Int} {rs : List Rw} (h : InR E rs) : ∀ r ∈ rs.map Rw.zs, ∀ x ∈ r, -E ≤ x ∧ x ≤ E := fun r hr => by
  obtain ⟨q, hq, rfl⟩ := List.mem_map.1 hr
  exact h q hq
/-- How far they are apart behind a turn. -/
theorem near_end {c : List Int} {S : Nat} {rs : List Rw} {ds : List Int} {f E D : Int} (hS : S = 255 ∨ S = 85) (hc : c.length ≤ 8) (hE : 0 ≤ E ∧ E ≤ 65535) (hD : 0 ≤ D ∧ D ≤ 65535) (he : InR E rs) (hd : In D ds) :
    sprV (oneL c S (rs.map Rw.zs) ds f) (whoL 255 c.length) ≤ 2 * E + 2 * D ∧ sprB (whoL 255 c.length) = decide (0 < c.length) := by
  refine ⟨spr_le _ _ _ (by omega) (fun p hp q hq => ?_), by unfold sprB; rw [who_255 _ hc]⟩
  have hpm := (who_mem.1 hp).2.2
  have hqm := (who_mem.1 hq).2.2
  have hat : ∀ k, k < c.length → tld (oneL c S (rs.map Rw.zs) ds f) k = kp (oneAt c S (rs.map Rw.zs) ds f k) := fun k hk => by
    unfold tld
    rw [if_pos (by rw [oneL_len]; exact hk)]
    congr 1
    unfold oneL
    simp [List.getD, hk]
  rw [hat p hpm, hat q hqm]
  exact kp_near (one_near (by omega) (by omega) (inR_map he) hd (who_some hS (by omega)) p q) (by omega)
end Go.Proofs.YtkcjllkhmncfdaaDoor.Mnd
