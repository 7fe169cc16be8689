/- A slice of readings that came in, opened (layer 25). -/
import Derived.Test.YtcadmepfnafpmaaRndR
import Derived.Test.YtcadmepfnafpmaaProg
import Derived.WalkKit
import Derived.ProofKit
import Derived.ChangeArms
import Derived.Deep.Slices
import Derived.Deep.Fields
import Derived.OpenShut
namespace Go.Proofs.Ytcadmepfnafpmaa.Rnd
open Go.ChangeShapes Go.WideShapes Go.ChangeAt Go.RowKit Go.Deep
open Go.Proofs.Ytcadmepfnafpmaa.Rw
set_option linter.unusedVariables false
def okR (a : Rg) : Prop := in64 a.1 ∧ in64 a.2
structure Rds (w : World) (G : Nat) (a : Option Addr) (len cap : Nat) (ts : List Rg) : Prop where
  len_ : ts.length = len
  le : len ≤ cap
  max : cap ≤ 9223372036854775807
  nil : a = none → cap = 0
  ok : ∀ t ∈ ts, okR t
  rd : Rw.Rd encR 2 w a ts
theorem cellsR25 : Try.prog.cellsOf 28 = 2 := by kernel_rfl
theorem at25 {w : World} {b o : Nat} {r : Rg} (h : Rw.At encR w b o r) : w.cell? ⟨b, o, none⟩ = some (.int .i64 r.1) ∧ w.cell? ⟨b, o + 1, none⟩ = some (.int .i64 r.2) := ⟨h 0 _ rfl, h 1 _ rfl⟩
section
variable {H : Type} {enc0 : TypeId × Value → H} {w : World}
set_option maxRecDepth 100000 in
theorem open_cell25 {n : Nat} {cs : List Value} {x : DataW H × List MemPlace} (h : DataW.trod enc0 Try.prog w 0 (fun _ => true) true n 28 cs = some x) : ∃ t : Rg, cs = encR t ∧ okR t := by
  obtain ⟨ys, n', _, _, hlen, hys, hf⟩ := DataW.trod_struct Try.underlying28 h
  rw [cellsR25] at hlen
  match cs, hlen, ys, hys with
  | [c0, c1], _, [y0, y1], _ =>
    have h0 : DataW.trod enc0 Try.prog w 0 (fun _ => true) true n' 3 (([c0, c1].drop 0).take (Try.prog.cellsOf 3)) = some y0 := hf 0 _ rfl
    rw [show Try.prog.cellsOf 3 = 1 from by kernel_rfl] at h0
    simp only [List.drop_zero, List.take_succ_cons, List.take_zero] at h0
    have h1 : DataW.trod enc0 Try.prog w 0 (fun _ => true) true n' 2 (([c0, c1].drop 1).take (Try.prog.cellsOf 2)) = some y1 := hf 1 _ rfl
    rw [show Try.prog.cellsOf 2 = 1 from by kernel_rfl] at h1
    simp only [List.drop_succ_cons, List.drop_zero, List.take_succ_cons, List.take_zero] at h1
    obtain ⟨a, e0, _, w0⟩ := DataW.trod_int Try.underlying3 h0
    have ha := bounds_i64 w0
    obtain ⟨k, e1, _, w1⟩ := DataW.trod_int Try.underlying2 h1
    have hb := bounds_i64 w1
    refine ⟨(a, k), ?_, ha, hb⟩
    simp only [List.cons.injEq, and_true] at e0 e1
    rw [e0, e1]
    rfl
theorem open_rds {n : Nat} {v : Value} {x : DataW H × List MemPlace} {a : Option Addr} {len cap : Nat} (hv : v = .slice a len cap) (h : DataW.trod enc0 Try.prog w 0 (fun _ => true) true n 22 [v] = some x) :
    ∃ ts, Rds w w.heap.size a len cap ts := by
  subst hv
  rcases open_slice Try.underlying22 h with ⟨hcs, _⟩ | ⟨ad, l, c, m, n', D, Pl, hcs, _, hl, hm, hmm, _, hi⟩
  · simp at hcs
    obtain ⟨rfl, rfl, rfl⟩ := hcs
    exact ⟨[], ⟨rfl, Nat.le_refl _, by omega, fun _ => rfl, fun t ht => (by cases ht), .inl rfl⟩⟩
  · simp at hcs
    obtain ⟨rfl, rfl, rfl⟩ := hcs
    simp only [if_true] at hmm
    subst hmm
    unfold maxLen at hm
    have each : ∀ i, i < len → ∃ t : Rg, okR t ∧ ∀ j u, (encR t)[j]? = some u → w.cell? ((ad.add (i * 2)).add j) = some u := fun i hil => by
      obtain ⟨cs', hc, ht⟩ := hi i (by omega)
      obtain ⟨t, hcs, hok⟩ := open_cell25 ht
      rw [cellsR25] at hc
      obtain ⟨_, hcl, hat⟩ := World.cells?_some hc
      refine ⟨t, hok, fun j u hu => ?_⟩
      rw [← hcs] at hu
      have hj : j < 2 := by rw [← hcl]; exact (List.getElem?_eq_some_iff.1 hu).1
      rw [hat j hj, hu]
    obtain ⟨T, hT⟩ := choose_lt each
    refine ⟨(List.range len).map T, ⟨by simp, hl, by omega, (fun h => by cases h), fun t ht => ?_, ?_⟩⟩
    · obtain ⟨i, hi', rfl⟩ := List.mem_map.1 ht
      exact (hT i (List.mem_range.1 hi')).1
    · by_cases h0 : len = 0
      · exact .inl (by rw [h0]; rfl)
      · obtain ⟨b, off, spot⟩ := ad
        have h00 := (hT 0 (by omega)).2 0 _ rfl
        have hspot : spot = none := by simpa [Addr.add] using World.cell?_spot h00
        subst hspot
        refine .inr ⟨b, off, rfl, ?_, fun i hil => ?_⟩
        · simp only [Addr.add_lit] at h00
          by_cases hb : b < w.heap.size
          · exact hb
          · rw [World.cell?, Array.getElem?_eq_none (show w.heap.size ≤ b by omega)] at h00
            simp at h00
        · rw [List.length_map, List.length_range] at hil
          have e : ((List.range len).map T).getD i default = T i := by simp [List.getD, hil]
          rw [e]
          have hc := (hT i hil).2
          simp only [Addr.add_lit] at hc
          exact fun j u hu => hc j u hu
end
end Go.Proofs.Ytcadmepfnafpmaa.Rnd
