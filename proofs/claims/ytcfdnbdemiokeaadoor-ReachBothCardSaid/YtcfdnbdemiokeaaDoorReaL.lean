/- A list of lists of distances in memory (layer 17's law): each row the call's own. -/
import Derived.Test.YtcfdnbdemiokeaaDoorReaJ
namespace Go.Proofs.YtcfdnbdemiokeaaDoor.Rea
open Go.ChangeShapes Go.WideShapes Go.ChangeAt Go.RowKit
open Grf (Pr lk)
set_option linter.unusedVariables false
theorem infoRow : (Tryd.prog.info? 30).map (fun i => (i.zero, i.size, i.bytes)) = some (some (.slice none 0 0), 1, 24) := by kernel_rfl
def rowV (n : Nat) (r : Nat × Nat) : Value := .slice (some ⟨r.1, 0, none⟩) n r.2
/-- The first k rows: their slices in an own row, each one's numbers in an own one. -/
structure DD (base n S : Nat) (L : List Pr) (k : Nat) (v : Value) (rows : List (Nat × Nat)) (W : World) : Prop where
  len : rows.length = k
  own : W.ownsRow base 30 1 v k (rows.map (rowV n))
  each : ∀ i, i < k → W.ownsRow base 3 1 (rowV n (rows.getD i (0, 0))) n ((dstL n S L i).map (Value.int .i64))
section
variable {base n S k : Nat} {L : List Pr} {v : Value} {rows : List (Nat × Nat)} {W V : World}
theorem DD.start (w : World) : DD w.heap.size n S L 0 (.slice (some ⟨w.heap.size, 0, none⟩) 0 0) [] (w.alloc (.cells #[] 30)) :=
  ⟨rfl, World.ownsRow_lit (size := 1) w #[] 0 (Nat.le_refl _) (by unfold maxLen; omega) rfl, fun i hi => by omega⟩
theorem kept_none {W V : World} {b e size m : Nat} {v : Value} {xs : List Value} (h : W.ownsRow b e size v m xs) (hB : Below W.heap.size W V) : V.ownsRow b e size v m xs :=
  World.ownsRow.kept h (row := Option.none) ⟨hB.os, hB.tape, hB.output, hB.size, fun j hj _ => hB.block j hj⟩ (by cases hv : Value.ownBlock _ <;> simp)
theorem DD.below (h : DD base n S L k v rows W) (hB : Below W.heap.size W V) : DD base n S L k v rows V := ⟨h.len, kept_none h.own hB, fun i hi => kept_none (h.each i hi) hB⟩
theorem own_types {W : World} {b1 b2 e1 e2 s1 s2 m1 m2 g : Nat} {v : Value} {c : Nat} {x1 x2 : List Value} (he : e1 ≠ e2) (h1 : W.ownsRow b1 e1 s1 v m1 x1) (h2 : W.ownsRow b2 e2 s2 (.slice (some ⟨g, 0, none⟩) m2 c) m2 x2) : some g ≠ v.ownBlock := fun e => by
  rcases h1.2 with ⟨rfl, _⟩ | ⟨g1, cap, cur, rfl, _, hg, _⟩
  · cases e
  · obtain rfl : g = g1 := by simpa [Value.ownBlock] using e
    rcases h2.2 with ⟨e2, _⟩ | ⟨g2, cap2, cur2, e2, _, hg2, _⟩
    · cases e2
    · simp only [Value.slice.injEq, Option.some.injEq, Addr.mk.injEq, and_true, true_and] at e2
      obtain ⟨rfl, rfl⟩ := e2
      rw [hg] at hg2
      simp only [Option.some.injEq, Obj.cells.injEq] at hg2
      exact he hg2.2.1
theorem DD.app {g cap : Nat} {v' : Value} {tmp : Obj} {V : World} (h : DD base n S L k v rows W) (hnew : W.ownsRow base 3 1 (.slice (some ⟨g, 0, none⟩) n cap) n ((dstL n S L k).map (Value.int .i64)))
    (hown' : V.ownsRow base 30 1 v' (k + 1) (rows.map (rowV n) ++ [.slice (some ⟨g, 0, none⟩) n cap])) (hgrow : (W.alloc tmp).grownBy V v.ownBlock) : DD base n S L (k + 1) v' (rows ++ [(g, cap)]) V := by
  have keep : ∀ {g2 c2 : Nat} {xs : List Value}, W.ownsRow base 3 1 (.slice (some ⟨g2, 0, none⟩) n c2) n xs → V.ownsRow base 3 1 (.slice (some ⟨g2, 0, none⟩) n c2) n xs := fun hr =>
    World.ownsRow.kept (hr.alloc tmp) hgrow (.inr fun e => own_types (by decide) h.own hr (by simpa [Value.ownBlock] using e))
  refine ⟨by rw [List.length_append, h.len]; rfl, by rw [List.map_append]; exact hown', fun i hi => ?_⟩
  by_cases hik : i < k
  · have e : (rows ++ [(g, cap)]).getD i (0, 0) = rows.getD i (0, 0) := by
      simp only [List.getD, List.getElem?_append_left (show i < rows.length by rw [h.len]; exact hik)]
    rw [e]
    exact keep (h.each i hik)
  · obtain rfl : i = k := by omega
    have e : (rows ++ [(g, cap)]).getD i (0, 0) = (g, cap) := by
      simp only [List.getD, ← h.len, List.getElem?_concat_length]; rfl
    rw [e]
    exact keep hnew
theorem DD.row (h : DD base n S L k v rows W) {i : Nat} (hi : i < k) : ∃ gd cd b c, v = .slice (some ⟨gd, 0, none⟩) k cd ∧ W.cell? ⟨gd, i, none⟩ = some (.slice (some ⟨b, 0, none⟩) n c) ∧ ∀ x, x < n → W.cell? ⟨b, x, none⟩ = some (.int .i64 (dst n S L i x)) := by
  rcases h.own.2 with ⟨_, h0⟩ | ⟨gd, cd, cur, rfl, _⟩
  · omega
  · refine ⟨gd, cd, (rows.getD i (0, 0)).1, (rows.getD i (0, 0)).2, rfl, ?_, fun x hx => ?_⟩
    · have hl : i < rows.length := by rw [h.len]; exact hi
      rw [h.own.cellAt i (by omega)]
      simp [hl, rowV]
    · have hr := h.each i hi
      unfold rowV at hr
      rw [hr.cellAt x (by omega)]
      simp [dstL, hx]
end
theorem quiet_same {P : Program} {f : FuncId} {args : Array Value} {w : World} {n : Nat} {v : Value} (h : Calls P f args (w.drewN n) fun e w' => e = .returned v ∧ w.drewN n = w') : Calls P f args (w.drewN n) fun e w'' => e = .returned v ∧ ∃ m, w'' = w.drewN m :=
  h.mono fun e w' hp => ⟨hp.1, n, hp.2.symm⟩
theorem dst_at_link {n S : Nat} {L : List Pr} (i : Nat) {j : Nat} (hj : j < L.length) (hok : Grf.Ok n L) (h1 : S.testBit (L.getD j (0, 0)).1.toNat = false) (h2 : S.testBit (L.getD j (0, 0)).2.toNat = false) :
    dst n S L i (L.getD j (0, 0)).1.toNat - dst n S L i (L.getD j (0, 0)).2.toNat ≤ 1 ∧ dst n S L i (L.getD j (0, 0)).2.toNat - dst n S L i (L.getD j (0, 0)).1.toNat ≤ 1 := by
  have hm : L.getD j (0, 0) ∈ L := Grf.getD_memG hj
  obtain ⟨m1, m2, m3, m4, _⟩ := hok.1 _ hm
  generalize L.getD j (0, 0) = p at *
  obtain ⟨x, y⟩ := p
  simp only at *
  obtain ⟨xn, rfl⟩ := Int.eq_ofNat_of_zero_le m1
  obtain ⟨yn, rfl⟩ := Int.eq_ofNat_of_zero_le m3
  simp only [Int.toNat_natCast] at *
  have ha : adj n S L xn yn = true := adj_iff.2 ⟨here_iff.2 ⟨by omega, h1⟩, here_iff.2 ⟨by omega, h2⟩, Grf.lk_iff.2 (.inl hm)⟩
  have l1 := dst_link (i := i) ha
  rw [adj_comm] at ha
  have l2 := dst_link (i := i) ha
  have k1 := dst_lo (n := n) (S := S) (L := L) i xn
  have k2 := dst_lo (n := n) (S := S) (L := L) i yn
  by_cases h : 0 ≤ dst n S L i xn
  · have := l1.2 h
    have := l2.2 this.1
    omega
  · have := l1.1 (by omega)
    omega
end Go.Proofs.YtcfdnbdemiokeaaDoor.Rea
