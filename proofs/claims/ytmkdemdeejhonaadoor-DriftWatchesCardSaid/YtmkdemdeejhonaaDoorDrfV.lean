/- Notes that came in (layer 28's law). -/
import Derived.Test.YtmkdemdeejhonaaDoorRowA
import Derived.Test.YtmkdemdeejhonaaDoorIntK
import Derived.Test.YtmkdemdeejhonaaDoorI64A
import Derived.Test.YtmkdemdeejhonaaDoorProg
import Derived.WalkKit
import Derived.ProofKit
import Derived.ChangeArms
import Derived.Deep.Slices
import Derived.Deep.Fields
import Derived.OpenShut
namespace Go.Proofs.YtmkdemdeejhonaaDoor.Drf
open Go.ChangeShapes Go.WideShapes Go.ChangeAt Go.RowKit Go.Deep
set_option linter.unusedVariables false
set_option linter.unusedSimpArgs false
structure Ne where
  tick : Int
  l : Option Addr
  lL : Nat
  lC : Nat
  lS : List Int
  s : Int
instance : Inhabited Ne := ⟨⟨0, none, 0, 0, [], 0⟩⟩
def encNe (a : Ne) : List Value := [.int .i64 a.tick, .slice a.l a.lL a.lC, .int .u64 a.s]
structure OkNe (w : World) (a : Ne) : Prop where
  tick : (Lit.int .i64 a.tick).wf = true
  l : IntK.RowK .i64 w a.l a.lL a.lC a.lS
  s : (Lit.int .u64 a.s).wf = true
theorem at_ne {w : World} {b o : Nat} {a : Ne} (h : Rw.At encNe w b o a) : w.cell? ⟨b, o, none⟩ = some (.int .i64 a.tick) ∧ w.cell? ⟨b, o + 1, none⟩ = some (.slice a.l a.lL a.lC) ∧ w.cell? ⟨b, o + 2, none⟩ = some (.int .u64 a.s) := ⟨h 0 _ rfl, h 1 _ rfl, h 2 _ rfl⟩
structure Nes (w : World) (G : Nat) (a : Option Addr) (len cap : Nat) (ts : List Ne) : Prop where
  len_ : ts.length = len
  le : len ≤ cap
  max : cap ≤ 9223372036854775807
  nil : a = none → cap = 0
  ok : ∀ t ∈ ts, OkNe w t
  rd : Rw.Rd encNe 3 w a ts
section
variable {H : Type} {enc0 : TypeId × Value → H} {w : World}
theorem cellsNe : Tryd.prog.cellsOf 29 = 3 := by kernel_rfl
set_option maxRecDepth 100000 in
theorem open_cell_ne {n : Nat} {cs : List Value} {x : DataW H × List MemPlace} (h : DataW.trod enc0 Tryd.prog w 0 (fun _ => true) true n 29 cs = some x) : ∃ t : Ne, cs = encNe t ∧ OkNe w t := by
  obtain ⟨ys, n', _, _, hlen, hys, hf⟩ := DataW.trod_struct Tryd.underlying29 h
  rw [cellsNe] at hlen
  match cs, hlen, ys, hys with
  | [c0, c1, c2], _, [y0, y1, y2], _ =>
    have h0 : DataW.trod enc0 Tryd.prog w 0 (fun _ => true) true n' 2 (([c0, c1, c2].drop 0).take (Tryd.prog.cellsOf 2)) = some y0 := hf 0 _ rfl
    rw [show Tryd.prog.cellsOf 2 = 1 from by kernel_rfl] at h0
    simp only [List.drop_succ_cons, List.drop_zero, List.take_succ_cons, List.take_zero] at h0
    have h1 : DataW.trod enc0 Tryd.prog w 0 (fun _ => true) true n' 26 (([c0, c1, c2].drop 1).take (Tryd.prog.cellsOf 26)) = some y1 := hf 1 _ rfl
    rw [show Tryd.prog.cellsOf 26 = 1 from by kernel_rfl] at h1
    simp only [List.drop_succ_cons, List.drop_zero, List.take_succ_cons, List.take_zero] at h1
    have h2 : DataW.trod enc0 Tryd.prog w 0 (fun _ => true) true n' 27 (([c0, c1, c2].drop 2).take (Tryd.prog.cellsOf 27)) = some y2 := hf 2 _ rfl
    rw [show Tryd.prog.cellsOf 27 = 1 from by kernel_rfl] at h2
    simp only [List.drop_succ_cons, List.drop_zero, List.take_succ_cons, List.take_zero] at h2
    obtain ⟨x0, e0, _, o0⟩ := DataW.trod_int Tryd.underlying2 h0
    simp only [List.cons.injEq, and_true] at e0
    subst e0
    have s1 : ∃ (a : Option Addr) (len cap : Nat) (zs : List Int), c1 = .slice a len cap ∧ IntK.RowK .i64 w a len cap zs := by
      rcases open_ints Tryd.underlying26 Tryd.underlying2 (by kernel_rfl) h1 with ⟨hcs, _⟩ | ⟨x, l, c, zs, hcs, _, hl, hm, hz, _, hcell, hwz⟩
      · exact ⟨none, 0, 0, [], by simpa using hcs, .inl ⟨rfl, rfl, rfl, rfl⟩⟩
      · exact ⟨some x, l, c, zs, by simpa using hcs, .inr ⟨x, rfl, hl, hm, by simpa using hz, hcell, hwz⟩⟩
    obtain ⟨x1, l1, q1, z1, rfl, o1⟩ := s1
    obtain ⟨x2, e2, _, o2⟩ := DataW.trod_int Tryd.underlying27 h2
    simp only [List.cons.injEq, and_true] at e2
    subst e2
    exact ⟨⟨x0, x1, l1, q1, z1, x2⟩, rfl, ⟨o0, o1, o2⟩⟩
theorem open_nes {n : Nat} {v : Value} {x : DataW H × List MemPlace} {a : Option Addr} {len cap : Nat} (hv : v = .slice a len cap) (h : DataW.trod enc0 Tryd.prog w 0 (fun _ => true) true n 23 [v] = some x) :
    ∃ ts, Nes w w.heap.size a len cap ts := by
  subst hv
  rcases open_slice Tryd.underlying23 h with ⟨hcs, _⟩ | ⟨ad, l, c, m, n', D, Pl, hcs, _, hl, hm, hmm, _, hi⟩
  · simp at hcs
    obtain ⟨rfl, rfl, rfl⟩ := hcs
    exact ⟨[], ⟨rfl, Nat.le_refl _, by omega, fun _ => rfl, fun t ht => (by cases ht), .inl rfl⟩⟩
  · simp at hcs
    obtain ⟨rfl, rfl, rfl⟩ := hcs
    simp only [if_true] at hmm
    subst hmm
    unfold maxLen at hm
    have each : ∀ i, i < len → ∃ t : Ne, OkNe w t ∧ ∀ j u, (encNe t)[j]? = some u → w.cell? ((ad.add (i * 3)).add j) = some u := fun i hil => by
      obtain ⟨cs', hc, ht⟩ := hi i (by omega)
      obtain ⟨t, hcs, hok⟩ := open_cell_ne ht
      rw [cellsNe] at hc
      obtain ⟨_, hcl, hat⟩ := World.cells?_some hc
      refine ⟨t, hok, fun j u hu => ?_⟩
      rw [← hcs] at hu
      have hj : j < 3 := by rw [← hcl]; exact (List.getElem?_eq_some_iff.1 hu).1
      rw [hat j hj, hu]
    obtain ⟨T, hT⟩ := choose_lt each
    refine ⟨(List.range len).map T, ⟨by simp, hl, by omega, (fun h => by cases h), fun t ht => ?_, ?_⟩⟩
    · obtain ⟨i, hi', rfl⟩ := List.mem_map.1 ht
      exact (hT i (List.mem_range.1 hi')).1
    · by_cases h0 : len = 0
      · exact .inl (by rw [h0]; rfl)
      · obtain ⟨b, off, spot⟩ := ad
        have h00 := (hT 0 (by omega)).2 0 _ rfl
        have hspot : spot = none := by simpa [Addr.add] using World.cell?_spot h00
        subst hspot
        refine .inr ⟨b, off, rfl, ?_, fun i hil => ?_⟩
        · simp only [Addr.add_lit] at h00
          by_cases hb : b < w.heap.size
          · exact hb
          · rw [World.cell?, Array.getElem?_eq_none (show w.heap.size ≤ b by omega)] at h00
            simp at h00
        · rw [List.length_map, List.length_range] at hil
          have e : ((List.range len).map T).getD i default = T i := by simp [List.getD, hil]
          rw [e]
          have hc := (hT i hil).2
          simp only [Addr.add_lit] at hc
          exact fun j u hu => hc j u hu
end
end Go.Proofs.YtmkdemdeejhonaaDoor.Drf
