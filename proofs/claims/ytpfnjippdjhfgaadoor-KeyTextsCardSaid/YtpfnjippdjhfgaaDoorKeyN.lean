/- Keys, arrays and slices of keys that came in, opened. -/
import Derived.Test.YtpfnjippdjhfgaaDoorKeyJ
import Derived.Deep.Slices
import Derived.Deep.Fields
import Derived.OpenShut
import Derived.Laws.IdiomArrays
import Derived.ChangeKeysEq
namespace Go.Proofs.YtpfnjippdjhfgaaDoor.Key
open Go.ChangeShapes Go.WideShapes Go.ChangeAt Go.RowKit Go.Deep
set_option linter.unusedVariables false
/-- A slice of keys that came in. -/
structure Keys (w : World) (G : Nat) (a : Option Addr) (len cap : Nat) (ts : List Ky) : Prop where
  len_ : ts.length = len
  le : len ≤ cap
  max : cap ≤ 9223372036854775807
  nil : a = none → cap = 0
  ok : ∀ t ∈ ts, ok t
  rd : RdK w a ts
theorem cellsK : Tryd.prog.cellsOf 24 = 3 := by kernel_rfl
theorem cellsA : Tryd.prog.cellsOf 29 = 3 := by kernel_rfl
section
variable {H : Type} {enc0 : TypeId × Value → H} {w : World}
set_option maxRecDepth 100000 in
theorem open_cells {n : Nat} {cs : List Value} {x : DataW H × List MemPlace} (h : DataW.trod enc0 Tryd.prog w 0 (fun _ => true) true n 24 cs = some x) : ∃ t : Ky, cs = enc t ∧ ok t := by
  obtain ⟨ys, n', _, _, hlen, hys, hf⟩ := DataW.trod_struct Tryd.underlying24 h
  rw [cellsK] at hlen
  match cs, hlen, ys, hys with
  | [c0, c1, c2], _, [y0, y1, y2], _ =>
    have h0 : DataW.trod enc0 Tryd.prog w 0 (fun _ => true) true n' 2 (([c0, c1, c2].drop 0).take (Tryd.prog.cellsOf 2)) = some y0 := hf 0 _ rfl
    rw [show Tryd.prog.cellsOf 2 = 1 from by kernel_rfl] at h0
    simp only [List.drop_zero, List.take_succ_cons, List.take_zero] at h0
    have h1 : DataW.trod enc0 Tryd.prog w 0 (fun _ => true) true n' 3 (([c0, c1, c2].drop 1).take (Tryd.prog.cellsOf 3)) = some y1 := hf 1 _ rfl
    rw [show Tryd.prog.cellsOf 3 = 1 from by kernel_rfl] at h1
    simp only [List.drop_succ_cons, List.drop_zero, List.take_succ_cons, List.take_zero] at h1
    have h2 : DataW.trod enc0 Tryd.prog w 0 (fun _ => true) true n' 22 (([c0, c1, c2].drop 2).take (Tryd.prog.cellsOf 22)) = some y2 := hf 2 _ rfl
    rw [show Tryd.prog.cellsOf 22 = 1 from by kernel_rfl] at h2
    simp only [List.drop_succ_cons, List.drop_zero, List.take_succ_cons, List.take_zero] at h2
    obtain ⟨a, e0, _, w0⟩ := DataW.trod_int Tryd.underlying2 h0
    obtain ⟨b, e1, _, w1⟩ := DataW.trod_int Tryd.underlying3 h1
    obtain ⟨c, e2, _, w2⟩ := DataW.trod_int Tryd.underlying22 h2
    obtain ⟨k0, k1⟩ := bounds_i64 w0
    obtain ⟨x0, x1⟩ := bounds_i64 w1
    obtain ⟨m0, m1⟩ := bounds_u32 w2
    refine ⟨(a, b, c), ?_, ⟨k0, k1⟩, ⟨x0, x1⟩, m0, by simp only; omega⟩
    simp only [List.cons.injEq, and_true] at e0 e1 e2
    rw [e0, e1, e2]
    rfl
theorem open_key {r : Reach} {b0 : Nat} {v : Value} {d : DataW H} {p : List MemPlace} (hv : Value.okWide Tryd.prog w r b0 24 v) (h : DataW.Trod enc0 Tryd.prog w 0 (fun _ => true) true 24 v d p) : ∃ t : Ky, v = kval t ∧ ok t := by
  obtain ⟨cs, rfl, hs⟩ := okWide_struct Tryd.underlying24 hv
  obtain ⟨n, hn⟩ := h
  obtain ⟨t, ht, hok⟩ := open_cells hn
  refine ⟨t, ?_, hok⟩
  unfold kval
  congr 1
  exact Array.toList_inj.1 ht
theorem open_arr3 {r : Reach} {b0 : Nat} {v : Value} {d : DataW H} {p : List MemPlace} (hv : Value.okWide Tryd.prog w r b0 29 v) (h : DataW.Trod enc0 Tryd.prog w 0 (fun _ => true) true 29 v d p) :
    ∃ t : Int × Int × Int, v = aval t.1 t.2.1 t.2.2 ∧ (-9223372036854775808 ≤ t.1 ∧ t.1 ≤ 9223372036854775807) ∧ (-9223372036854775808 ≤ t.2.1 ∧ t.2.1 ≤ 9223372036854775807) ∧ (-9223372036854775808 ≤ t.2.2 ∧ t.2.2 ≤ 9223372036854775807) := by
  simp only [Value.okWide, Tryd.underlying29] at hv
  obtain ⟨cs, rfl, hs, _⟩ := hv
  rw [cellsA] at hs
  obtain ⟨n, hn⟩ := h
  obtain ⟨l⟩ := cs
  match l, hs with
  | [c0, c1, c2], _ =>
    obtain ⟨ys, n', _, _, hlen, hys, hf⟩ := DataW.trod_array Tryd.underlying29 hn
    rw [show Tryd.prog.cellsOf 2 = 1 from by kernel_rfl] at hf
    match ys, hys with
    | [y0, y1, y2], _ =>
      have h0 : DataW.trod enc0 Tryd.prog w 0 (fun _ => true) true n' 2 [c0] = some y0 := hf 0 (by omega)
      have h1 : DataW.trod enc0 Tryd.prog w 0 (fun _ => true) true n' 2 [c1] = some y1 := hf 1 (by omega)
      have h2 : DataW.trod enc0 Tryd.prog w 0 (fun _ => true) true n' 2 [c2] = some y2 := hf 2 (by omega)
      obtain ⟨a, e0, _, w0⟩ := DataW.trod_int Tryd.underlying2 h0
      obtain ⟨b, e1, _, w1⟩ := DataW.trod_int Tryd.underlying2 h1
      obtain ⟨c, e2, _, w2⟩ := DataW.trod_int Tryd.underlying2 h2
      simp only [List.cons.injEq, and_true] at e0 e1 e2
      subst e0 e1 e2
      exact ⟨(a, b, c), rfl, bounds_i64 w0, bounds_i64 w1, bounds_i64 w2⟩
theorem open_keys {n : Nat} {v : Value} {x : DataW H × List MemPlace} {a : Option Addr} {len cap : Nat} (hv : v = .slice a len cap) (h : DataW.trod enc0 Tryd.prog w 0 (fun _ => true) true n 34 [v] = some x) :
    ∃ ts, Keys w w.heap.size a len cap ts := by
  subst hv
  rcases open_slice Tryd.underlying34 h with ⟨hcs, _⟩ | ⟨ad, l, c, m, n', D, Pl, hcs, _, hl, hm, hmm, _, hi⟩
  · simp at hcs
    obtain ⟨rfl, rfl, rfl⟩ := hcs
    exact ⟨[], ⟨rfl, Nat.le_refl _, by omega, fun _ => rfl, fun t ht => (by cases ht), .inl rfl⟩⟩
  · simp at hcs
    obtain ⟨rfl, rfl, rfl⟩ := hcs
    simp only [if_true] at hmm
    subst hmm
    unfold maxLen at hm
    have each : ∀ i, i < len → ∃ t : Ky, ok t ∧ ∀ j u, (enc t)[j]? = some u → w.cell? ((ad.add (i * 3)).add j) = some u := fun i hil => by
      obtain ⟨cs', hc, ht⟩ := hi i (by omega)
      obtain ⟨t, hcs, hok⟩ := open_cells ht
      rw [cellsK] at hc
      obtain ⟨_, hcl, hat⟩ := World.cells?_some hc
      refine ⟨t, hok, fun j u hu => ?_⟩
      rw [← hcs] at hu
      have hj : j < 3 := by rw [← hcl]; exact (List.getElem?_eq_some_iff.1 hu).1
      rw [hat j hj, hu]
    obtain ⟨T, hT⟩ := choose_lt each
    refine ⟨(List.range len).map T, ⟨by simp, hl, by omega, (fun h => by cases h), fun t ht => ?_, ?_⟩⟩
    · obtain ⟨i, hi', rfl⟩ := List.mem_map.1 ht
      exact (hT i (List.mem_range.1 hi')).1
    · by_cases h0 : len = 0
      · exact .inl (by rw [h0]; rfl)
      · obtain ⟨b, off, spot⟩ := ad
        have h00 := (hT 0 (by omega)).2 0 _ rfl
        have hspot : spot = none := by simpa [Addr.add] using World.cell?_spot h00
        subst hspot
        refine .inr ⟨b, off, rfl, ?_, fun i hil => ?_⟩
        · simp only [Addr.add_lit] at h00
          by_cases hb : b < w.heap.size
          · exact hb
          · rw [World.cell?, Array.getElem?_eq_none (show w.heap.size ≤ b by omega)] at h00
            simp at h00
        · rw [List.length_map, List.length_range] at hil
          have e : ((List.range len).map T).getD i default = T i := by simp [List.getD, hil]
          rw [e]
          have hc := (hT i hil).2
          simp only [Addr.add_lit] at hc
          exact fun j u hu => hc j u hu
end
end Go.Proofs.YtpfnjippdjhfgaaDoor.Key
namespace Go.Proofs.YtpfnjippdjhfgaaDoor.Key
open Go.ChangeShapes Go.WideShapes Go.ChangeAt Go.RowKit Go.Deep
theorem cmp_val (x y : Ky) : cmpK x y = if ltK x y then -1 else if ltK y x then 1 else 0 := by
  unfold cmpK orI cI ltK
  simp only [decide_eq_true_eq]
  repeat' split
  all_goals omega
/-- A key that the call laid, in whatever world comes of it. -/
theorem one_box (w w0 : World) (x : Ky) (h : w0 = w.alloc (.cells #[.int .i64 x.1, .int .i64 x.2.1, .int .u32 x.2.2] 24)) :
    Below w.heap.size w w0 ∧ ∀ W, Below w0.heap.size w0 W → W.cell? ⟨w.heap.size, 0, none⟩ = some (.int .i64 x.1) ∧ W.cell? ⟨w.heap.size, 1, none⟩ = some (.int .i64 x.2.1) ∧ W.cell? ⟨w.heap.size, 2, none⟩ = some (.int .u32 x.2.2) := by
  subst h
  refine ⟨box_below _ _, fun W hB => ?_⟩
  have h1 := at3 ((Rw.At.box (enc := enc) (e := 24) w x _ rfl).below hB (by rw [World.size_alloc]; omega))
  simp only [Nat.zero_add] at h1
  exact h1
theorem two_box (w w0 : World) (x y : Ky) (h : w0 = (w.alloc (.cells #[.int .i64 x.1, .int .i64 x.2.1, .int .u32 x.2.2] 24)).alloc (.cells #[.int .i64 y.1, .int .i64 y.2.1, .int .u32 y.2.2] 24)) :
    Below w.heap.size w w0 ∧ ∀ W, Below w0.heap.size w0 W → (W.cell? ⟨w.heap.size, 0, none⟩ = some (.int .i64 x.1) ∧ W.cell? ⟨w.heap.size, 1, none⟩ = some (.int .i64 x.2.1) ∧ W.cell? ⟨w.heap.size, 2, none⟩ = some (.int .u32 x.2.2)) ∧
      (W.cell? ⟨w.heap.size + 1, 0, none⟩ = some (.int .i64 y.1) ∧ W.cell? ⟨w.heap.size + 1, 1, none⟩ = some (.int .i64 y.2.1) ∧ W.cell? ⟨w.heap.size + 1, 2, none⟩ = some (.int .u32 y.2.2)) := by
  subst h
  refine ⟨(((Gr.refl w).alloc _).alloc _).below, fun W hB => ?_⟩
  have h1 := at3 (((Rw.At.box (enc := enc) (e := 24) w x _ rfl).below (box_below _ _) (by rw [World.size_alloc]; omega)).below hB (by rw [World.size_alloc, World.size_alloc]; omega))
  have h2 := Rw.At.box (enc := enc) (e := 24) (w.alloc (.cells #[.int .i64 x.1, .int .i64 x.2.1, .int .u32 x.2.2] 24)) y _ rfl
  rw [World.size_alloc] at h2
  have h3 := at3 (h2.below hB (by rw [World.size_alloc, World.size_alloc]; omega))
  simp only [Nat.zero_add] at h1 h3
  exact ⟨h1, h3⟩
end Go.Proofs.YtpfnjippdjhfgaaDoor.Key
namespace Go.Proofs.YtpfnjippdjhfgaaDoor.Key
open Go.ChangeShapes Go.WideShapes Go.ChangeAt Go.RowKit Go.Deep
/-- A key's variable that the call laid. -/
def Fst (W : World) (g : Nat) (p : Ky) : Prop := W.heap[g]? = some (.cells #[.int .i64 p.1, .int .i64 p.2.1, .int .u32 p.2.2] 24 (0, 0))
theorem Fst.made (W : World) (p : Ky) : Fst (W.alloc (.cells #[.int .i64 p.1, .int .i64 p.2.1, .int .u32 p.2.2] 24)) W.heap.size p := (MapKept.heap_alloc W _).1
theorem Fst.lt {W : World} {g : Nat} {p : Ky} (h : Fst W g p) : g < W.heap.size := (Array.getElem?_eq_some_iff.1 h).1
theorem Fst.below {W W' : World} {g n : Nat} {p : Ky} (h : Fst W g p) (hB : Below n W W') (hn : g < n) : Fst W' g p := (hB.block g hn).trans h
theorem Fst.cells {W : World} {g : Nat} {p : Ky} (h : Fst W g p) : W.cell? ⟨g, 0, none⟩ = some (.int .i64 p.1) ∧ W.cell? ⟨g, 1, none⟩ = some (.int .i64 p.2.1) ∧ W.cell? ⟨g, 2, none⟩ = some (.int .u32 p.2.2) :=
  ⟨by rw [cell_of_row W g 0 _ _ _ h]; rfl, by rw [cell_of_row W g 1 _ _ _ h]; rfl, by rw [cell_of_row W g 2 _ _ _ h]; rfl⟩
theorem Fst.free {W : World} {g : Nat} {p : Ky} (h : Fst W g p) (i : Nat) : W.frozen? ⟨g, i, none⟩ = false := frozen_of_row W g i _ _ h
theorem Fst.put {W : World} {g : Nat} {p : Ky} (h : Fst W g p) (a b c : Int) : Fst (((W.setCell ⟨g, 0, none⟩ (.int .i64 a)).setCell ⟨g, 1, none⟩ (.int .i64 b)).setCell ⟨g, 2, none⟩ (.int .u32 c)) g (a, b, c) := by
  have h1 := heap_setCell_same W g 0 _ _ (.int .i64 a) h
  have h2 := heap_setCell_same _ g 1 _ _ (.int .i64 b) h1
  have h3 := heap_setCell_same _ g 2 _ _ (.int .u32 c) h2
  exact h3
theorem two_succ (l : List Ky) (x : Ky) : twoK [] (l ++ [x]) = (if (!(twoK [] l).2 && inK l x) then x else (twoK [] l).1, ((twoK [] l).2 || inK l x)) := by
  rw [two_snoc, List.nil_append]
  cases h : (twoK [] l).2 with
  | true => simp only [if_true, Bool.not_true, Bool.false_and, Bool.false_eq_true, if_false, Bool.true_or]; rw [← h]
  | false =>
    cases hi : inK l x with
    | true => simp
    | false => simp [two_none l [] h]
end Go.Proofs.YtpfnjippdjhfgaaDoor.Key
namespace Go.Proofs.YtpfnjippdjhfgaaDoor.Key
open Go.ChangeShapes Go.WideShapes Go.ChangeAt Go.RowKit Go.Deep
theorem eq3 (a b c : Int) (w : World) : (Op.equalIn 10000 29 (.agg #[.int .i64 a, .int .i64 b, .int .i64 c]) (.agg #[.int .i64 a, .int .i64 b, .int .i64 c])).run Tryd.prog w = .ok true w := by
  obtain ⟨i, hi⟩ := Option.isSome_iff_exists.1 (show (Tryd.prog.info? 2).isSome = true from by kernel_rfl)
  rw [run_equalIn_array w 9999 _ _ Tryd.underlying29 hi]
  rw [show List.range 3 = [0,1,2] from rfl, show Tryd.prog.cellsOf 2 = 1 from by kernel_rfl]
  simp [Op.eqItems, part, go_sem]
theorem arr_box (w w0 : World) (a b c : Int) (y : Ky) (h : w0 = (w.alloc (.cells #[.int .i64 a, .int .i64 b, .int .i64 c] 29)).alloc (.cells #[.int .i64 y.1, .int .i64 y.2.1, .int .u32 y.2.2] 24)) :
    w0.heap.size = w.heap.size + 2 ∧ Below w.heap.size w w0 ∧ ∀ W, Below w0.heap.size w0 W → (W.cell? ⟨w.heap.size, 0, none⟩ = some (.int .i64 a) ∧ W.cell? ⟨w.heap.size, 1, none⟩ = some (.int .i64 b) ∧ W.cell? ⟨w.heap.size, 2, none⟩ = some (.int .i64 c)) ∧
      (W.cell? ⟨w.heap.size + 1, 0, none⟩ = some (.int .i64 y.1) ∧ W.cell? ⟨w.heap.size + 1, 1, none⟩ = some (.int .i64 y.2.1) ∧ W.cell? ⟨w.heap.size + 1, 2, none⟩ = some (.int .u32 y.2.2)) := by
  subst h
  refine ⟨by rw [World.size_alloc, World.size_alloc], (((Gr.refl w).alloc _).alloc _).below, fun W hB => ?_⟩
  have h1 : ((w.alloc (.cells #[.int .i64 a, .int .i64 b, .int .i64 c] 29)).alloc (.cells #[.int .i64 y.1, .int .i64 y.2.1, .int .u32 y.2.2] 24)).heap[w.heap.size]? = some (.cells #[.int .i64 a, .int .i64 b, .int .i64 c] 29 (0, 0)) := by
    rw [(box_below _ _).block _ (by rw [World.size_alloc]; omega)]
    exact (MapKept.heap_alloc w _).1
  have h0 := (hB.block _ (by rw [World.size_alloc, World.size_alloc]; omega)).trans h1
  have h2 := Rw.At.box (enc := enc) (e := 24) (w.alloc (.cells #[.int .i64 a, .int .i64 b, .int .i64 c] 29)) y _ rfl
  rw [World.size_alloc] at h2
  have h3 := at3 (h2.below hB (by rw [World.size_alloc, World.size_alloc]; omega))
  simp only [Nat.zero_add] at h3
  exact ⟨⟨by rw [cell_of_row W _ 0 _ _ _ h0]; rfl, by rw [cell_of_row W _ 1 _ _ _ h0]; rfl, by rw [cell_of_row W _ 2 _ _ _ h0]; rfl⟩, h3⟩
end Go.Proofs.YtpfnjippdjhfgaaDoor.Key
