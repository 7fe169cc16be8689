/- append(l, l...) of a slice of the call's own: behind it both slices read as they should. For every program. -/
import Derived.Test.YtepcbklokcfbfaaOwnA
namespace Go.Proofs.Ytepcbklokcfbfaa.Own
open Go.RowKit
variable {P : Program} {w : World} {base : Nat} {e : TypeId} {size : Nat}
theorem run_append_twice (t ty : TypeId) (i : TypeInfo) (z : Value) (bytes : Nat) (ht : P.underlying t = some (.slice e)) (hi : P.info? e = some i) (hz : i.zero = some z)
    (hsize : i.size = size) (hby : i.bytes = bytes) (hzs : z.cells.size = size) (hsz : 0 < size)
    (v : Value) (n : Nat) (xs : List Value) (hown : w.ownsRow base e size v n xs) (h1 : ∀ u ∈ xs, u.oneCell' = true)
    (h63 : n + n ≤ maxLen) (hbytes : (n + n) * bytes ≤ 140737488355328) (hbase : base ≤ w.heap.size) :
    ∃ v' w', (Builtin.append_ #[t, t] ty #[v, v]).run P w = .ok v' w' ∧ w'.ownsRow base e size v' (n + n) (xs ++ xs) ∧ w'.ownsRow base e size v n xs ∧ w.grownBy w' v.ownBlock := by
  rcases hown.2 with ⟨rfl, rfl⟩ | ⟨g, cap, cur, rfl, hb, hg, hnc, hcm, hcs, htake⟩
  · have hx : xs = [] := List.eq_nil_of_length_eq_zero (by simpa using hown.1)
    subst hx
    have hr := run_append_owned_none (P := P) w base t ty e i size ht hi _ 0 [] hown
    exact ⟨_, w, hr, hown, hown, World.grownBy.refl _ _⟩
  · have hnews : ∀ j u, xs[j]? = some u → w.cell? ((⟨g, 0, none⟩ : Addr).add j) = some u := fun j u hj => hown.cells (g := g) rfl j u hj
    by_cases hroom : n + n ≤ cap
    · obtain ⟨w', hr, h2, h3⟩ := run_append_fits (P := P) w base t ty e i size ht hi hsize g n cap xs hown ⟨g, 0, none⟩ n cap xs hown.1 hnews h1 hroom
      refine ⟨_, w', hr, h2, ⟨hown.1, ?_⟩, h3⟩
      rcases h2.2 with ⟨h, _⟩ | ⟨g', cap', cur', hv, hb', hg', hnc', hcm', hcs', htake'⟩
      · cases h
      · cases hv
        refine .inr ⟨g, cap, cur', rfl, hb, hg', hnc, hcm, hcs', ?_⟩
        have hle : n * size ≤ (n + n) * size := Nat.mul_le_mul_right _ (by omega)
        have : (cur'.toList.take ((n + n) * size)).take (n * size) = cur'.toList.take (n * size) := by rw [List.take_take, Nat.min_eq_left hle]
        rw [← this, htake', List.take_left' hown.1]
    · obtain ⟨v', w', hr, h2, h3⟩ := run_append_arg_grows (P := P) (w := w) t ty e i z size bytes ht hi hz hsize hby hzs hsz ⟨g, 0, none⟩ n cap xs hown.1 hnews ⟨g, 0, none⟩ n cap xs hown.1 hnews (by omega) h63 hbytes
      refine ⟨v', w', hr, mono h2 hbase, ⟨hown.1, .inr ⟨g, cap, cur, rfl, hb, ?_, hnc, hcm, hcs, htake⟩⟩, ⟨h3.os, h3.tape, h3.output, h3.size, fun k hk _ => h3.block k hk (by simp)⟩⟩
      have hlt : g < w.heap.size := (Array.getElem?_eq_some_iff.1 hg).1
      rw [h3.block g hlt (by simp), hg]
theorem wpList_append_twice (w : World) {ops : Array Oper} {rest : List Oper} {o : Oper} {a : Act} {Q : Exit → Act → World → Prop} (hgd : Region.wanted o (yielded ops a.tmps) = true) (s x : Operand) (t : TypeId)
    (ho : o.op = .call { callee := .builtin .append, args := #[s, x], argTypes := #[t, t] })
    (base : Nat) (e : TypeId) (i : TypeInfo) (z : Value) (size bytes : Nat) (ht : P.underlying t = some (.slice e)) (hi : P.info? e = some i) (hz : i.zero = some z)
    (hsize : i.size = size) (hby : i.bytes = bytes) (hzs : z.cells.size = size) (hsz : 0 < size)
    (v : Value) (n : Nat) (xs : List Value) (hs : a.eval s = v) (hx : a.eval x = v) (hown : w.ownsRow base e size v n xs) (h1 : ∀ u ∈ xs, u.oneCell' = true)
    (h63 : n + n ≤ maxLen) (hbytes : (n + n) * bytes ≤ 140737488355328) (hbase : base ≤ w.heap.size)
    (h : ∀ v' w', w'.ownsRow base e size v' (n + n) (xs ++ xs) → w'.ownsRow base e size v n xs → w.grownBy w' v.ownBlock → wpList P ops Q rest (a.put o.dst v') w') : wpList P ops Q (o :: rest) a w := by
  refine wpList_step fun K hK' => ?_
  rw [if_pos hgd]
  obtain ⟨v', w', hrun, r1, r2, r3⟩ := run_append_twice (P := P) (w := w) (base := base) (e := e) (size := size) t o.type i z bytes ht hi hz hsize hby hzs hsz v n xs hown h1 h63 hbytes hbase
  unfold Oper.wp
  simp [execOp, ho, resolve, invoke, builtin, hs, hx, hrun, Result.andThen]
  exact hK' _ _ (h v' w' r1 r2 r3)
end Go.Proofs.Ytepcbklokcfbfaa.Own
