/- Slices of slices of integers of any kind that came in, for every layer (the types' names stand in the openers alone). -/
import Derived.Test.YtkcjllkhmncfdaaDoorIntK
import Derived.WalkKit
import Derived.Below
import Derived.Lib.Hide
import Derived.ChangeOld
import Derived.Deep.Slices
import Derived.Deep.Fields
import Derived.OpenShut
namespace Go.Proofs.YtkcjllkhmncfdaaDoor.Lst
open Go.ChangeShapes Go.WideShapes Go.RowKit Go.Deep
set_option linter.unusedVariables false
/-- One row: its slice, and what lies in it. -/
structure Ro where
  ad : Option Addr
  len : Nat
  cap : Nat
  zs : List Int
instance : Inhabited Ro := ⟨⟨none, 0, 0, []⟩⟩
def rov (r : Ro) : Value := .slice r.ad r.len r.cap
structure Ros (k : IntKind) (w : World) (a : Option Addr) (len cap : Nat) (rs : List Ro) : Prop where
  len_ : rs.length = len
  le : len ≤ cap
  max : cap ≤ 9223372036854775807
  nil : a = none → cap = 0
  each : ∀ r ∈ rs, IntK.RowK k w r.ad r.len r.cap r.zs
  rd : rs = [] ∨ ∃ b off, a = some ⟨b, off, none⟩ ∧ b < w.heap.size ∧ ∀ i, i < rs.length → w.cell? ⟨b, off + i, none⟩ = some (rov (rs.getD i default))
theorem getD_memR {rs : List Ro} {i : Nat} (hi : i < rs.length) : rs.getD i default ∈ rs := by
  have : rs.getD i default = rs[i] := by simp [List.getD, hi]
  rw [this]; exact List.getElem_mem hi
/-- One row, in every world that has grown out of this one. -/
theorem Ros.at {k : IntKind} {w : World} {a : Option Addr} {len cap : Nat} {rs : List Ro} (h : Ros k w a len cap rs) {i : Nat} (hi : i < len) :
    ∃ b off, a = some ⟨b, off, none⟩ ∧ (∀ W, Below w.heap.size w W → W.cell? ⟨b, off + i, none⟩ = some (.slice (rs.getD i default).ad (rs.getD i default).len (rs.getD i default).cap)) ∧ IntK.RowK k w (rs.getD i default).ad (rs.getD i default).len (rs.getD i default).cap (rs.getD i default).zs := by
  have hl := h.len_
  rcases h.rd with rfl | ⟨b, off, e, hb, hc⟩
  · simp at hl; omega
  · exact ⟨b, off, e, fun W hB => (hB.cell (p := ⟨b, off + i, none⟩) hb).trans (hc i (by omega)), h.each _ (getD_memR (by omega))⟩
section
variable {H : Type} {enc0 : TypeId × Value → H} {w : World}
theorem rowK_kept {k : IntKind} {w W : World} {a : Option Addr} {len cap : Nat} {zs : List Int} (h : IntK.RowK k w a len cap zs) (hB : Below w.heap.size w W) : IntK.RowK k W a len cap zs := by
  rcases h with h | ⟨x, e, h1, h2, h3, hc, h4⟩
  · exact .inl h
  · refine .inr ⟨x, e, h1, h2, h3, fun i hi => ?_, h4⟩
    have h0 := hc i hi
    refine (hB.cell (p := x.add i) ?_).trans h0
    by_cases hb : (x.add i).block < w.heap.size
    · exact hb
    · rw [World.cell?, Array.getElem?_eq_none (show w.heap.size ≤ (x.add i).block by omega)] at h0
      simp at h0
theorem Ros.kept {k : IntKind} {w W : World} {a : Option Addr} {len cap : Nat} {rs : List Ro} (h : Ros k w a len cap rs) (hB : Below w.heap.size w W) : Ros k W a len cap rs := by
  refine ⟨h.len_, h.le, h.max, h.nil, fun r hr => rowK_kept (h.each r hr) hB, ?_⟩
  rcases h.rd with e | ⟨b, off, e, hb, hc⟩
  · exact .inl e
  · exact .inr ⟨b, off, e, Nat.lt_of_lt_of_le hb hB.size, fun i hi => (hB.cell (p := ⟨b, off + i, none⟩) hb).trans (hc i hi)⟩
/-! The openers (gen/lst_open.py). -/
theorem open_rows_i32 {n : Nat} {v : Value} {x : DataW H × List MemPlace} {a : Option Addr} {len cap : Nat} (hv : v = .slice a len cap) (h : DataW.trod enc0 Tryd.prog w 0 (fun _ => true) true n 24 [v] = some x) :
    ∃ rs, Ros .i32 w a len cap rs := by
  subst hv
  rcases open_slice Tryd.underlying24 h with ⟨hcs, _⟩ | ⟨ad, l, c, m, n', D, Pl, hcs, _, hl, hm, hmm, _, hi⟩
  · simp at hcs
    obtain ⟨rfl, rfl, rfl⟩ := hcs
    exact ⟨[], ⟨rfl, Nat.le_refl _, by omega, fun _ => rfl, fun t ht => (by cases ht), .inl rfl⟩⟩
  · simp at hcs
    obtain ⟨rfl, rfl, rfl⟩ := hcs
    simp only [if_true] at hmm
    subst hmm
    unfold maxLen at hm
    have each : ∀ i, i < len → ∃ r : Ro, IntK.RowK .i32 w r.ad r.len r.cap r.zs ∧ w.cell? (ad.add i) = some (rov r) := fun i hil => by
      obtain ⟨cs', hc, ht⟩ := hi i (by omega)
      rw [show Tryd.prog.cellsOf 22 = 1 from by kernel_rfl] at hc
      obtain ⟨_, hcl, hat⟩ := World.cells?_some hc
      have h0 := hat 0 (by omega)
      rw [Nat.mul_one] at h0
      rcases open_ints Tryd.underlying22 Tryd.underlying21 (by kernel_rfl) ht with ⟨hcs, _⟩ | ⟨x, l2, c2, zs, hcs, _, hl2, hm2, hz2, _, hcell, hwz⟩
      · subst hcs
        exact ⟨⟨none, 0, 0, []⟩, .inl ⟨rfl, rfl, rfl, rfl⟩, by simpa [rov, Addr.add] using h0⟩
      · subst hcs
        exact ⟨⟨some x, l2, c2, zs⟩, .inr ⟨x, rfl, hl2, hm2, by simpa using hz2, hcell, hwz⟩, by simpa [rov, Addr.add] using h0⟩
    obtain ⟨T, hT⟩ := choose_lt each
    refine ⟨(List.range len).map T, ⟨by simp, hl, by omega, (fun h => by cases h), fun t ht => ?_, ?_⟩⟩
    · obtain ⟨i, hi', rfl⟩ := List.mem_map.1 ht
      exact (hT i (List.mem_range.1 hi')).1
    · by_cases h0 : len = 0
      · exact .inl (by rw [h0]; rfl)
      · obtain ⟨b, off, spot⟩ := ad
        have h00 := (hT 0 (by omega)).2
        have hspot : spot = none := by simpa [Addr.add] using World.cell?_spot h00
        subst hspot
        refine .inr ⟨b, off, rfl, ?_, fun i hil => ?_⟩
        · simp only [Addr.add_lit] at h00
          by_cases hb : b < w.heap.size
          · exact hb
          · rw [World.cell?, Array.getElem?_eq_none (show w.heap.size ≤ b by omega)] at h00
            simp at h00
        · rw [List.length_map, List.length_range] at hil
          have e : ((List.range len).map T).getD i default = T i := by simp [List.getD, hil]
          rw [e]
          have hc := (hT i hil).2
          simp only [Addr.add_lit] at hc
          exact hc
theorem open_rows_i64 {n : Nat} {v : Value} {x : DataW H × List MemPlace} {a : Option Addr} {len cap : Nat} (hv : v = .slice a len cap) (h : DataW.trod enc0 Tryd.prog w 0 (fun _ => true) true n 31 [v] = some x) :
    ∃ rs, Ros .i64 w a len cap rs := by
  subst hv
  rcases open_slice Tryd.underlying31 h with ⟨hcs, _⟩ | ⟨ad, l, c, m, n', D, Pl, hcs, _, hl, hm, hmm, _, hi⟩
  · simp at hcs
    obtain ⟨rfl, rfl, rfl⟩ := hcs
    exact ⟨[], ⟨rfl, Nat.le_refl _, by omega, fun _ => rfl, fun t ht => (by cases ht), .inl rfl⟩⟩
  · simp at hcs
    obtain ⟨rfl, rfl, rfl⟩ := hcs
    simp only [if_true] at hmm
    subst hmm
    unfold maxLen at hm
    have each : ∀ i, i < len → ∃ r : Ro, IntK.RowK .i64 w r.ad r.len r.cap r.zs ∧ w.cell? (ad.add i) = some (rov r) := fun i hil => by
      obtain ⟨cs', hc, ht⟩ := hi i (by omega)
      rw [show Tryd.prog.cellsOf 27 = 1 from by kernel_rfl] at hc
      obtain ⟨_, hcl, hat⟩ := World.cells?_some hc
      have h0 := hat 0 (by omega)
      rw [Nat.mul_one] at h0
      rcases open_ints Tryd.underlying27 Tryd.underlying2 (by kernel_rfl) ht with ⟨hcs, _⟩ | ⟨x, l2, c2, zs, hcs, _, hl2, hm2, hz2, _, hcell, hwz⟩
      · subst hcs
        exact ⟨⟨none, 0, 0, []⟩, .inl ⟨rfl, rfl, rfl, rfl⟩, by simpa [rov, Addr.add] using h0⟩
      · subst hcs
        exact ⟨⟨some x, l2, c2, zs⟩, .inr ⟨x, rfl, hl2, hm2, by simpa using hz2, hcell, hwz⟩, by simpa [rov, Addr.add] using h0⟩
    obtain ⟨T, hT⟩ := choose_lt each
    refine ⟨(List.range len).map T, ⟨by simp, hl, by omega, (fun h => by cases h), fun t ht => ?_, ?_⟩⟩
    · obtain ⟨i, hi', rfl⟩ := List.mem_map.1 ht
      exact (hT i (List.mem_range.1 hi')).1
    · by_cases h0 : len = 0
      · exact .inl (by rw [h0]; rfl)
      · obtain ⟨b, off, spot⟩ := ad
        have h00 := (hT 0 (by omega)).2
        have hspot : spot = none := by simpa [Addr.add] using World.cell?_spot h00
        subst hspot
        refine .inr ⟨b, off, rfl, ?_, fun i hil => ?_⟩
        · simp only [Addr.add_lit] at h00
          by_cases hb : b < w.heap.size
          · exact hb
          · rw [World.cell?, Array.getElem?_eq_none (show w.heap.size ≤ b by omega)] at h00
            simp at h00
        · rw [List.length_map, List.length_range] at hil
          have e : ((List.range len).map T).getD i default = T i := by simp [List.getD, hil]
          rw [e]
          have hc := (hT i hil).2
          simp only [Addr.add_lit] at hc
          exact hc
end
end Go.Proofs.YtkcjllkhmncfdaaDoor.Lst
