/- Small arrays of numbers that came in, and slices of such. Written by gen/arr_open.py 2:i64:int64 3:u32:uint32 2:u8:uint8 s:3:u8:uint8. -/
import Derived.Test.YtmkdemdeejhonaaDoorRowA
import Derived.Test.YtmkdemdeejhonaaDoorProg
import Derived.WalkKit
import Derived.ProofKit
import Derived.ChangeArms
import Derived.Deep.Slices
import Derived.Deep.Fields
import Derived.OpenShut
import Derived.Deep.WholeRow
namespace Go.Proofs.YtmkdemdeejhonaaDoor.Drf
open Go.ChangeShapes Go.WideShapes Go.ChangeAt Go.RowKit Go.Deep
set_option linter.unusedVariables false
set_option linter.unusedSimpArgs false
section
variable {H : Type} {enc0 : TypeId × Value → H} {w : World}
def c2_i64 (t : Int × Int) : List Value := [.int .i64 t.1, .int .i64 t.2]
def v2_i64 (t : Int × Int) : Value := .agg #[.int .i64 t.1, .int .i64 t.2]
def ok2_i64 (t : Int × Int) : Prop := (Lit.int .i64 t.1).wf = true ∧ (Lit.int .i64 t.2).wf = true
theorem cells2_i64 : Tryd.prog.cellsOf 22 = 2 := by kernel_rfl
set_option maxRecDepth 100000 in
theorem cell2_i64 {n : Nat} {l : List Value} {x : DataW H × List MemPlace} (hs : l.length = 2) (hn : DataW.trod enc0 Tryd.prog w 0 (fun _ => true) true n 22 l = some x) : ∃ t : Int × Int, l = c2_i64 t ∧ ok2_i64 t := by
  match l, hs with
  | [c0, c1], _ =>
    obtain ⟨ys, n', _, _, hlen, hys, hf⟩ := DataW.trod_array Tryd.underlying22 hn
    rw [show Tryd.prog.cellsOf 2 = 1 from by kernel_rfl] at hf
    match ys, hys with
    | [y0, y1], _ =>
      have h0 : DataW.trod enc0 Tryd.prog w 0 (fun _ => true) true n' 2 [c0] = some y0 := hf 0 (by omega)
      have h1 : DataW.trod enc0 Tryd.prog w 0 (fun _ => true) true n' 2 [c1] = some y1 := hf 1 (by omega)
      obtain ⟨x0, e0, _, o0⟩ := DataW.trod_int Tryd.underlying2 h0
      simp only [List.cons.injEq, and_true] at e0
      subst e0
      obtain ⟨x1, e1, _, o1⟩ := DataW.trod_int Tryd.underlying2 h1
      simp only [List.cons.injEq, and_true] at e1
      subst e1
      exact ⟨(x0, x1), rfl, ⟨o0, o1⟩⟩
theorem open2_i64 {r : Reach} {b0 : Nat} {v : Value} {d : DataW H} {p : List MemPlace} (hv : Value.okWide Tryd.prog w r b0 22 v) (h : DataW.Trod enc0 Tryd.prog w 0 (fun _ => true) true 22 v d p) : ∃ t : Int × Int, v = v2_i64 t ∧ ok2_i64 t := by
  simp only [Value.okWide, Tryd.underlying22] at hv
  obtain ⟨cs, rfl, hs, _⟩ := hv
  rw [cells2_i64] at hs
  obtain ⟨n, hn⟩ := h
  obtain ⟨l⟩ := cs
  obtain ⟨t, ht, ho⟩ := cell2_i64 (by simpa using hs) (show DataW.trod enc0 Tryd.prog w 0 (fun _ => true) true n 22 l = some (d, p) from hn)
  subst ht
  exact ⟨t, rfl, ho⟩
theorem box2_i64 (w w0 : World) (t : Int × Int) (h : w0 = w.alloc (.cells #[.int .i64 t.1, .int .i64 t.2] 22)) : Below w.heap.size w w0 ∧ w0.heap.size = w.heap.size + 1 ∧ ∀ W, Below w0.heap.size w0 W → W.cell? ⟨w.heap.size, 0, none⟩ = some (.int .i64 t.1) ∧ W.cell? ⟨w.heap.size, 1, none⟩ = some (.int .i64 t.2) := by
  subst h
  refine ⟨(Below.refl _ _).alloc (Nat.le_refl _) _, by simp, fun W hB => ?_⟩
  have hs : w.heap.size < (w.alloc (.cells #[.int .i64 t.1, .int .i64 t.2] 22)).heap.size := by rw [World.size_alloc]; omega
  have hb := (hB.block w.heap.size hs).trans (heap_alloc_last w _)
  exact ⟨by rw [cell_of_row W _ 0 _ _ _ hb]; rfl, by rw [cell_of_row W _ 1 _ _ _ hb]; rfl⟩
def c3_u32 (t : Int × Int × Int) : List Value := [.int .u32 t.1, .int .u32 t.2.1, .int .u32 t.2.2]
def v3_u32 (t : Int × Int × Int) : Value := .agg #[.int .u32 t.1, .int .u32 t.2.1, .int .u32 t.2.2]
def ok3_u32 (t : Int × Int × Int) : Prop := (Lit.int .u32 t.1).wf = true ∧ (Lit.int .u32 t.2.1).wf = true ∧ (Lit.int .u32 t.2.2).wf = true
theorem cells3_u32 : Tryd.prog.cellsOf 42 = 3 := by kernel_rfl
set_option maxRecDepth 100000 in
theorem cell3_u32 {n : Nat} {l : List Value} {x : DataW H × List MemPlace} (hs : l.length = 3) (hn : DataW.trod enc0 Tryd.prog w 0 (fun _ => true) true n 42 l = some x) : ∃ t : Int × Int × Int, l = c3_u32 t ∧ ok3_u32 t := by
  match l, hs with
  | [c0, c1, c2], _ =>
    obtain ⟨ys, n', _, _, hlen, hys, hf⟩ := DataW.trod_array Tryd.underlying42 hn
    rw [show Tryd.prog.cellsOf 41 = 1 from by kernel_rfl] at hf
    match ys, hys with
    | [y0, y1, y2], _ =>
      have h0 : DataW.trod enc0 Tryd.prog w 0 (fun _ => true) true n' 41 [c0] = some y0 := hf 0 (by omega)
      have h1 : DataW.trod enc0 Tryd.prog w 0 (fun _ => true) true n' 41 [c1] = some y1 := hf 1 (by omega)
      have h2 : DataW.trod enc0 Tryd.prog w 0 (fun _ => true) true n' 41 [c2] = some y2 := hf 2 (by omega)
      obtain ⟨x0, e0, _, o0⟩ := DataW.trod_int Tryd.underlying41 h0
      simp only [List.cons.injEq, and_true] at e0
      subst e0
      obtain ⟨x1, e1, _, o1⟩ := DataW.trod_int Tryd.underlying41 h1
      simp only [List.cons.injEq, and_true] at e1
      subst e1
      obtain ⟨x2, e2, _, o2⟩ := DataW.trod_int Tryd.underlying41 h2
      simp only [List.cons.injEq, and_true] at e2
      subst e2
      exact ⟨(x0, x1, x2), rfl, ⟨o0, o1, o2⟩⟩
theorem open3_u32 {r : Reach} {b0 : Nat} {v : Value} {d : DataW H} {p : List MemPlace} (hv : Value.okWide Tryd.prog w r b0 42 v) (h : DataW.Trod enc0 Tryd.prog w 0 (fun _ => true) true 42 v d p) : ∃ t : Int × Int × Int, v = v3_u32 t ∧ ok3_u32 t := by
  simp only [Value.okWide, Tryd.underlying42] at hv
  obtain ⟨cs, rfl, hs, _⟩ := hv
  rw [cells3_u32] at hs
  obtain ⟨n, hn⟩ := h
  obtain ⟨l⟩ := cs
  obtain ⟨t, ht, ho⟩ := cell3_u32 (by simpa using hs) (show DataW.trod enc0 Tryd.prog w 0 (fun _ => true) true n 42 l = some (d, p) from hn)
  subst ht
  exact ⟨t, rfl, ho⟩
theorem box3_u32 (w w0 : World) (t : Int × Int × Int) (h : w0 = w.alloc (.cells #[.int .u32 t.1, .int .u32 t.2.1, .int .u32 t.2.2] 42)) : Below w.heap.size w w0 ∧ w0.heap.size = w.heap.size + 1 ∧ ∀ W, Below w0.heap.size w0 W → W.cell? ⟨w.heap.size, 0, none⟩ = some (.int .u32 t.1) ∧ W.cell? ⟨w.heap.size, 1, none⟩ = some (.int .u32 t.2.1) ∧ W.cell? ⟨w.heap.size, 2, none⟩ = some (.int .u32 t.2.2) := by
  subst h
  refine ⟨(Below.refl _ _).alloc (Nat.le_refl _) _, by simp, fun W hB => ?_⟩
  have hs : w.heap.size < (w.alloc (.cells #[.int .u32 t.1, .int .u32 t.2.1, .int .u32 t.2.2] 42)).heap.size := by rw [World.size_alloc]; omega
  have hb := (hB.block w.heap.size hs).trans (heap_alloc_last w _)
  exact ⟨by rw [cell_of_row W _ 0 _ _ _ hb]; rfl, by rw [cell_of_row W _ 1 _ _ _ hb]; rfl, by rw [cell_of_row W _ 2 _ _ _ hb]; rfl⟩
def c2_u8 (t : Int × Int) : List Value := [.int .u8 t.1, .int .u8 t.2]
def v2_u8 (t : Int × Int) : Value := .agg #[.int .u8 t.1, .int .u8 t.2]
def ok2_u8 (t : Int × Int) : Prop := (Lit.int .u8 t.1).wf = true ∧ (Lit.int .u8 t.2).wf = true
theorem cells2_u8 : Tryd.prog.cellsOf 43 = 2 := by kernel_rfl
set_option maxRecDepth 100000 in
theorem cell2_u8 {n : Nat} {l : List Value} {x : DataW H × List MemPlace} (hs : l.length = 2) (hn : DataW.trod enc0 Tryd.prog w 0 (fun _ => true) true n 43 l = some x) : ∃ t : Int × Int, l = c2_u8 t ∧ ok2_u8 t := by
  match l, hs with
  | [c0, c1], _ =>
    obtain ⟨ys, n', _, _, hlen, hys, hf⟩ := DataW.trod_array Tryd.underlying43 hn
    rw [show Tryd.prog.cellsOf 5 = 1 from by kernel_rfl] at hf
    match ys, hys with
    | [y0, y1], _ =>
      have h0 : DataW.trod enc0 Tryd.prog w 0 (fun _ => true) true n' 5 [c0] = some y0 := hf 0 (by omega)
      have h1 : DataW.trod enc0 Tryd.prog w 0 (fun _ => true) true n' 5 [c1] = some y1 := hf 1 (by omega)
      obtain ⟨x0, e0, _, o0⟩ := DataW.trod_int Tryd.underlying5 h0
      simp only [List.cons.injEq, and_true] at e0
      subst e0
      obtain ⟨x1, e1, _, o1⟩ := DataW.trod_int Tryd.underlying5 h1
      simp only [List.cons.injEq, and_true] at e1
      subst e1
      exact ⟨(x0, x1), rfl, ⟨o0, o1⟩⟩
theorem open2_u8 {r : Reach} {b0 : Nat} {v : Value} {d : DataW H} {p : List MemPlace} (hv : Value.okWide Tryd.prog w r b0 43 v) (h : DataW.Trod enc0 Tryd.prog w 0 (fun _ => true) true 43 v d p) : ∃ t : Int × Int, v = v2_u8 t ∧ ok2_u8 t := by
  simp only [Value.okWide, Tryd.underlying43] at hv
  obtain ⟨cs, rfl, hs, _⟩ := hv
  rw [cells2_u8] at hs
  obtain ⟨n, hn⟩ := h
  obtain ⟨l⟩ := cs
  obtain ⟨t, ht, ho⟩ := cell2_u8 (by simpa using hs) (show DataW.trod enc0 Tryd.prog w 0 (fun _ => true) true n 43 l = some (d, p) from hn)
  subst ht
  exact ⟨t, rfl, ho⟩
theorem box2_u8 (w w0 : World) (t : Int × Int) (h : w0 = w.alloc (.cells #[.int .u8 t.1, .int .u8 t.2] 43)) : Below w.heap.size w w0 ∧ w0.heap.size = w.heap.size + 1 ∧ ∀ W, Below w0.heap.size w0 W → W.cell? ⟨w.heap.size, 0, none⟩ = some (.int .u8 t.1) ∧ W.cell? ⟨w.heap.size, 1, none⟩ = some (.int .u8 t.2) := by
  subst h
  refine ⟨(Below.refl _ _).alloc (Nat.le_refl _) _, by simp, fun W hB => ?_⟩
  have hs : w.heap.size < (w.alloc (.cells #[.int .u8 t.1, .int .u8 t.2] 43)).heap.size := by rw [World.size_alloc]; omega
  have hb := (hB.block w.heap.size hs).trans (heap_alloc_last w _)
  exact ⟨by rw [cell_of_row W _ 0 _ _ _ hb]; rfl, by rw [cell_of_row W _ 1 _ _ _ hb]; rfl⟩
def c3_u8 (t : Int × Int × Int) : List Value := [.int .u8 t.1, .int .u8 t.2.1, .int .u8 t.2.2]
def v3_u8 (t : Int × Int × Int) : Value := .agg #[.int .u8 t.1, .int .u8 t.2.1, .int .u8 t.2.2]
def ok3_u8 (t : Int × Int × Int) : Prop := (Lit.int .u8 t.1).wf = true ∧ (Lit.int .u8 t.2.1).wf = true ∧ (Lit.int .u8 t.2.2).wf = true
theorem cells3_u8 : Tryd.prog.cellsOf 45 = 3 := by kernel_rfl
set_option maxRecDepth 100000 in
theorem cell3_u8 {n : Nat} {l : List Value} {x : DataW H × List MemPlace} (hs : l.length = 3) (hn : DataW.trod enc0 Tryd.prog w 0 (fun _ => true) true n 45 l = some x) : ∃ t : Int × Int × Int, l = c3_u8 t ∧ ok3_u8 t := by
  match l, hs with
  | [c0, c1, c2], _ =>
    obtain ⟨ys, n', _, _, hlen, hys, hf⟩ := DataW.trod_array Tryd.underlying45 hn
    rw [show Tryd.prog.cellsOf 5 = 1 from by kernel_rfl] at hf
    match ys, hys with
    | [y0, y1, y2], _ =>
      have h0 : DataW.trod enc0 Tryd.prog w 0 (fun _ => true) true n' 5 [c0] = some y0 := hf 0 (by omega)
      have h1 : DataW.trod enc0 Tryd.prog w 0 (fun _ => true) true n' 5 [c1] = some y1 := hf 1 (by omega)
      have h2 : DataW.trod enc0 Tryd.prog w 0 (fun _ => true) true n' 5 [c2] = some y2 := hf 2 (by omega)
      obtain ⟨x0, e0, _, o0⟩ := DataW.trod_int Tryd.underlying5 h0
      simp only [List.cons.injEq, and_true] at e0
      subst e0
      obtain ⟨x1, e1, _, o1⟩ := DataW.trod_int Tryd.underlying5 h1
      simp only [List.cons.injEq, and_true] at e1
      subst e1
      obtain ⟨x2, e2, _, o2⟩ := DataW.trod_int Tryd.underlying5 h2
      simp only [List.cons.injEq, and_true] at e2
      subst e2
      exact ⟨(x0, x1, x2), rfl, ⟨o0, o1, o2⟩⟩
theorem open3_u8 {r : Reach} {b0 : Nat} {v : Value} {d : DataW H} {p : List MemPlace} (hv : Value.okWide Tryd.prog w r b0 45 v) (h : DataW.Trod enc0 Tryd.prog w 0 (fun _ => true) true 45 v d p) : ∃ t : Int × Int × Int, v = v3_u8 t ∧ ok3_u8 t := by
  simp only [Value.okWide, Tryd.underlying45] at hv
  obtain ⟨cs, rfl, hs, _⟩ := hv
  rw [cells3_u8] at hs
  obtain ⟨n, hn⟩ := h
  obtain ⟨l⟩ := cs
  obtain ⟨t, ht, ho⟩ := cell3_u8 (by simpa using hs) (show DataW.trod enc0 Tryd.prog w 0 (fun _ => true) true n 45 l = some (d, p) from hn)
  subst ht
  exact ⟨t, rfl, ho⟩
theorem box3_u8 (w w0 : World) (t : Int × Int × Int) (h : w0 = w.alloc (.cells #[.int .u8 t.1, .int .u8 t.2.1, .int .u8 t.2.2] 45)) : Below w.heap.size w w0 ∧ w0.heap.size = w.heap.size + 1 ∧ ∀ W, Below w0.heap.size w0 W → W.cell? ⟨w.heap.size, 0, none⟩ = some (.int .u8 t.1) ∧ W.cell? ⟨w.heap.size, 1, none⟩ = some (.int .u8 t.2.1) ∧ W.cell? ⟨w.heap.size, 2, none⟩ = some (.int .u8 t.2.2) := by
  subst h
  refine ⟨(Below.refl _ _).alloc (Nat.le_refl _) _, by simp, fun W hB => ?_⟩
  have hs : w.heap.size < (w.alloc (.cells #[.int .u8 t.1, .int .u8 t.2.1, .int .u8 t.2.2] 45)).heap.size := by rw [World.size_alloc]; omega
  have hb := (hB.block w.heap.size hs).trans (heap_alloc_last w _)
  exact ⟨by rw [cell_of_row W _ 0 _ _ _ hb]; rfl, by rw [cell_of_row W _ 1 _ _ _ hb]; rfl, by rw [cell_of_row W _ 2 _ _ _ hb]; rfl⟩
structure S3_u8 (w : World) (G : Nat) (a : Option Addr) (len cap : Nat) (ts : List (Int × Int × Int)) : Prop where
  len_ : ts.length = len
  le : len ≤ cap
  max : cap ≤ 9223372036854775807
  nil : a = none → cap = 0
  ok : ∀ t ∈ ts, ok3_u8 t
  rd : Rw.Rd c3_u8 3 w a ts
theorem at3_u8 {w : World} {b o : Nat} {t : Int × Int × Int} (h : Rw.At c3_u8 w b o t) : w.cell? ⟨b, o, none⟩ = some (.int .u8 t.1) ∧ w.cell? ⟨b, o + 1, none⟩ = some (.int .u8 t.2.1) ∧ w.cell? ⟨b, o + 2, none⟩ = some (.int .u8 t.2.2) := ⟨h 0 _ rfl, h 1 _ rfl, h 2 _ rfl⟩
theorem opens3_u8 {n : Nat} {v : Value} {x : DataW H × List MemPlace} {a : Option Addr} {len cap : Nat} (hv : v = .slice a len cap) (h : DataW.trod enc0 Tryd.prog w 0 (fun _ => true) true n 44 [v] = some x) :
    ∃ ts, S3_u8 w w.heap.size a len cap ts := by
  subst hv
  rcases open_slice Tryd.underlying44 h with ⟨hcs, _⟩ | ⟨ad, l, c, m, n', D, Pl, hcs, _, hl, hm, hmm, _, hi⟩
  · simp at hcs
    obtain ⟨rfl, rfl, rfl⟩ := hcs
    exact ⟨[], ⟨rfl, Nat.le_refl _, by omega, fun _ => rfl, fun t ht => (by cases ht), .inl rfl⟩⟩
  · simp at hcs
    obtain ⟨rfl, rfl, rfl⟩ := hcs
    simp only [if_true] at hmm
    subst hmm
    unfold maxLen at hm
    have each : ∀ i, i < len → ∃ t : Int × Int × Int, ok3_u8 t ∧ ∀ j u, (c3_u8 t)[j]? = some u → w.cell? ((ad.add (i * 3)).add j) = some u := fun i hil => by
      obtain ⟨cs', hc, ht⟩ := hi i (by omega)
      rw [cells3_u8] at hc
      obtain ⟨_, hcl, hat⟩ := World.cells?_some hc
      obtain ⟨t, hcs, hok⟩ := cell3_u8 hcl ht
      refine ⟨t, hok, fun j u hu => ?_⟩
      rw [← hcs] at hu
      have hj : j < 3 := by rw [← hcl]; exact (List.getElem?_eq_some_iff.1 hu).1
      rw [hat j hj, hu]
    obtain ⟨T, hT⟩ := choose_lt each
    refine ⟨(List.range len).map T, ⟨by simp, hl, by omega, (fun h => by cases h), fun t ht => ?_, ?_⟩⟩
    · obtain ⟨i, hi', rfl⟩ := List.mem_map.1 ht
      exact (hT i (List.mem_range.1 hi')).1
    · by_cases h0 : len = 0
      · exact .inl (by rw [h0]; rfl)
      · obtain ⟨b, off, spot⟩ := ad
        have h00 := (hT 0 (by omega)).2 0 _ rfl
        have hspot : spot = none := by simpa [Addr.add] using World.cell?_spot h00
        subst hspot
        refine .inr ⟨b, off, rfl, ?_, fun i hil => ?_⟩
        · simp only [Addr.add_lit] at h00
          by_cases hb : b < w.heap.size
          · exact hb
          · rw [World.cell?, Array.getElem?_eq_none (show w.heap.size ≤ b by omega)] at h00
            simp at h00
        · rw [List.length_map, List.length_range] at hil
          have e : ((List.range len).map T).getD i default = T i := by simp [List.getD, hil]
          rw [e]
          have hc := (hT i hil).2
          simp only [Addr.add_lit] at hc
          exact fun j u hu => hc j u hu
end
end Go.Proofs.YtmkdemdeejhonaaDoor.Drf
