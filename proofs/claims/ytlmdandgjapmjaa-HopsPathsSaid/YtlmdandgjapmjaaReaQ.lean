/- The law's world that came in (layer 17): a number and a slice of links. -/
import Derived.Test.YtlmdandgjapmjaaReaK
import Derived.Test.YtlmdandgjapmjaaReaC
import Derived.Deep.Slices
import Derived.Deep.Fields
import Derived.OpenShut
import Derived.Laws.IdiomArrays
namespace Go.Proofs.Ytlmdandgjapmjaa.Rea
open Go.ChangeShapes Go.WideShapes Go.ChangeAt Go.RowKit Go.Deep
open Grf (Pr Links open_links)
set_option linter.unusedVariables false
set_option linter.unusedSimpArgs false
structure Wd where
  num : Int
  ad : Option Addr
  len : Nat
  cap : Nat
  ts : List Pr
def wval (a : Wd) : Value := .agg #[.int .i64 a.num, .slice a.ad a.len a.cap]
structure OkW (w : World) (a : Wd) : Prop where
  num : -9223372036854775808 ≤ a.num ∧ a.num ≤ 9223372036854775807
  links : Links w w.heap.size a.ad a.len a.cap a.ts
section
variable {H : Type} {enc0 : TypeId × Value → H} {w : World}
theorem cellsW : Try.prog.cellsOf 24 = 2 := by kernel_rfl
set_option maxRecDepth 100000 in
theorem open_world {r : Reach} {b0 : Nat} {v : Value} {d : DataW H} {pl : List MemPlace} (hv : Value.okWide Try.prog w r b0 24 v) (h : DataW.Trod enc0 Try.prog w 0 (fun _ => true) true 24 v d pl) : ∃ a : Wd, v = wval a ∧ OkW w a := by
  obtain ⟨cs, rfl, hs⟩ := okWide_struct Try.underlying24 hv
  obtain ⟨n, hn⟩ := h
  obtain ⟨ys, n', _, _, hlen, hys, hf⟩ := DataW.trod_struct Try.underlying24 hn
  rw [cellsW] at hlen
  obtain ⟨cs⟩ := cs
  match cs, hlen, ys, hys with
  | [c0, c1], _, [y0, y1], _ =>
    have h0 : DataW.trod enc0 Try.prog w 0 (fun _ => true) true n' 3 (([c0, c1].drop 0).take (Try.prog.cellsOf 3)) = some y0 := hf 0 _ rfl
    rw [show Try.prog.cellsOf 3 = 1 from by kernel_rfl] at h0
    simp only [List.drop_succ_cons, List.drop_zero, List.take_succ_cons, List.take_zero] at h0
    have h1 : DataW.trod enc0 Try.prog w 0 (fun _ => true) true n' 22 (([c0, c1].drop 1).take (Try.prog.cellsOf 22)) = some y1 := hf 1 _ rfl
    rw [show Try.prog.cellsOf 22 = 1 from by kernel_rfl] at h1
    simp only [List.drop_succ_cons, List.drop_zero, List.take_succ_cons, List.take_zero] at h1
    obtain ⟨k, e0, _, w0⟩ := DataW.trod_int Try.underlying3 h0
    have hsl : ∃ (a : Option Addr) (len cap : Nat), c1 = .slice a len cap := by
      rcases open_slice Try.underlying22 h1 with ⟨hcs, _⟩ | ⟨ad, l, c, m, n'', D, Pl, hcs, _⟩
      · exact ⟨none, 0, 0, by simpa using hcs⟩
      · exact ⟨some ad, l, c, by simpa using hcs⟩
    obtain ⟨a, len, cap, rfl⟩ := hsl
    obtain ⟨ts, hl⟩ := open_links rfl h1
    simp only [List.cons.injEq, and_true] at e0
    subst e0
    exact ⟨⟨k, a, len, cap, ts⟩, rfl, bounds_i64 w0, hl⟩
end
theorem mk_any (a : Wd) (w : World) (h : OkW w a) : ∃ n L, Hid (1 ≤ n ∧ n ≤ 10) ∧ Hid (Grf.Ok n L) ∧ Hid (L.length ≤ 60) ∧ Hid (∀ W, Below w.heap.size w W → Calls Try.prog 7 #[wval a] W (MadePost n L W)) := by
  refine ⟨numOf a.num, madeK (numOf a.num) (a.ts.take 60) (a.ts.take 60).length, Lib.hid (num_range _), Lib.hid (made_ok _ _ _), Lib.hid ?_, Lib.hid fun W hB => made_any a.num h.num.1 h.num.2 a.ad a.len a.cap a.ts W h.links.len_ h.links.le h.links.max (h.links.rd.below hB) h.links.nil⟩
  have := made_len (numOf a.num) (a.ts.take 60) (a.ts.take 60).length
  rw [List.length_take] at this ⊢
  omega
theorem mk_anyC (a : Wd) (w : World) (h : OkW w a) : ∃ n L, Hid (1 ≤ n ∧ n ≤ 10) ∧ Hid (Grf.Ok n L) ∧ Hid (L.length ≤ 60) ∧ Hid (∀ W, Below w.heap.size w W → Calls Try.prog 7 #[wval a] W (MadePostC n L W)) := by
  refine ⟨numOf a.num, madeK (numOf a.num) (a.ts.take 60) (a.ts.take 60).length, Lib.hid (num_range _), Lib.hid (made_ok _ _ _), Lib.hid ?_, Lib.hid fun W hB => made_anyC a.num h.num.1 h.num.2 a.ad a.len a.cap a.ts W h.links.len_ h.links.le h.links.max (h.links.rd.below hB) h.links.nil⟩
  have := made_len (numOf a.num) (a.ts.take 60) (a.ts.take 60).length
  rw [List.length_take] at this ⊢
  omega
/-- A graph without nodes. -/
theorem dst_nil (S : Nat) (L : List Pr) (i x : Nat) : dst 0 S L i x = -1 := by
  rcases dst_cases (n := 0) (S := S) (L := L) i x with ⟨h, _⟩ | ⟨k, _, _, h⟩
  · exact h
  · omega
theorem from_nil (S : Nat) (L : List Pr) (i : Nat) : fromN 0 S L i = 0 := (Nodes.eq_setP (by omega) fun j hj => by simp [dst_nil]).symm
theorem ball_nil (S : Nat) (L : List Pr) (i : Nat) (m : Int) : ballN 0 S L i m = 0 := (Nodes.eq_setP (by omega) fun j hj => by simp [dst_nil]).symm
theorem whole_nil (S : Nat) (L : List Pr) : ¬ wholeP 0 S L := by
  rintro ⟨⟨x, hx⟩, _⟩
  have := here_lt hx
  omega
/-- There is a width. -/
theorem wide_is (n S : Nat) (L : List Pr) : ∃ u, IsWide n S L u := by
  by_cases hw : wholeP n S L
  · have key : ∀ k : Nat, (∃ x y, hereB n S x = true ∧ hereB n S y = true ∧ (n : Int) ≤ dst n S L x y + (k : Int)) → ∃ u, (∃ x y, hereB n S x = true ∧ hereB n S y = true ∧ dst n S L x y = u) ∧ ∀ x y, hereB n S x = true → hereB n S y = true → dst n S L x y ≤ u := by
      intro k
      induction k with
      | zero =>
        rintro ⟨x, y, hx, hy, h⟩
        have h1 := dst_lo (n := n) (S := S) (L := L) x y
        have h2 := dst_hi (n := n) (S := S) (L := L) x y (by omega)
        omega
      | succ k ih =>
        rintro ⟨x, y, hx, hy, h⟩
        by_cases hb : ∃ x' y', hereB n S x' = true ∧ hereB n S y' = true ∧ dst n S L x y < dst n S L x' y'
        · obtain ⟨x', y', hx', hy', h'⟩ := hb
          exact ih ⟨x', y', hx', hy', by omega⟩
        · refine ⟨dst n S L x y, ⟨x, y, hx, hy, rfl⟩, fun x' y' hx' hy' => ?_⟩
          rcases Int.lt_or_le (dst n S L x y) (dst n S L x' y') with hlt | hle
          · exact absurd ⟨x', y', hx', hy', hlt⟩ hb
          · exact hle
    have hw2 := hw
    obtain ⟨⟨x, hx⟩, _⟩ := hw2
    obtain ⟨u, h1, h2⟩ := key n ⟨x, x, hx, hx, by rw [dst_zero.2 ⟨rfl, hx⟩]; omega⟩
    exact ⟨u, .inr ⟨hw, h1, h2⟩⟩
  · exact ⟨-1, .inl ⟨hw, rfl⟩⟩
theorem wide_whole {n S : Nat} {L : List Pr} {u : Int} (h : IsWide n S L u) : wholeB n S L = decide (0 ≤ u) := by
  rw [Bool.eq_iff_iff, wholeB_iff, decide_eq_true_iff]
  rcases h with ⟨h1, rfl⟩ | ⟨h1, ⟨x, y, hx, hy, rfl⟩, _⟩
  · exact ⟨fun h => absurd h h1, fun h => by omega⟩
  · exact ⟨fun h => h.2 x y hx hy, fun _ => h1⟩
end Go.Proofs.Ytlmdandgjapmjaa.Rea
