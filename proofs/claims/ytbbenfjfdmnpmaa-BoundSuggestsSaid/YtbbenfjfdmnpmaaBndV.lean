/- A configuration that came in (layer 26). Written by gen/bnd_open.py. -/
import Derived.Test.YtbbenfjfdmnpmaaRows
import Derived.WalkKit
import Derived.Below
import Derived.Lib.Hide
import Derived.ProofKit
import Derived.OpenShut
import Derived.ShutString
import Derived.Deep.Slices
import Derived.Deep.Fields
import Derived.SizedLaws
namespace Go.Proofs.Ytbbenfjfdmnpmaa.Bnd
open Go.ChangeShapes Go.WideShapes Go.ChangeAt Go.RowKit Go.Deep
set_option linter.unusedVariables false
set_option linter.unusedSimpArgs false
/-- A slice of pairs that came in: its cells, one after another. -/
structure Lk (w : World) (ad : Option Addr) (len cap : Nat) (es : List Value) : Prop where
  size : es.length = len * 2
  le : len ≤ cap
  max : cap ≤ 9223372036854775807
  nil : ad = none → cap = 0
  one : ∀ u ∈ es, u.oneCell' = true
  rd : es = [] ∨ ∃ b off, ad = some ⟨b, off, none⟩ ∧ b < w.heap.size ∧ ∀ j u, es[j]? = some u → w.cell? ⟨b, off + j, none⟩ = some u
theorem Lk.below {w w' : World} {ad : Option Addr} {len cap : Nat} {es : List Value} (h : Lk w ad len cap es) (hB : Below w.heap.size w w') : Lk w' ad len cap es :=
  ⟨h.size, h.le, h.max, h.nil, h.one, h.rd.imp id fun ⟨b, off, e, hb, hc⟩ => ⟨b, off, e, Nat.lt_of_lt_of_le hb hB.size, fun j u hj => (hB.cell (p := ⟨b, _, none⟩) hb).trans (hc j u hj)⟩⟩
structure Cf where
  n : Int
  links : Option Addr
  linksL : Nat
  linksC : Nat
  linksS : List Value
  f : Int
  dmin : Int
  dmax : Int
  rho : Int
  slew : Int
  round : Int
  window : Int
  attend : Int
  seen : Int
  hist : Int
  fly : Int
  quota : Int
  body : Int
@[reducible] def ccells (a : Cf) : Array Value := #[.int .i64 a.n, .slice a.links a.linksL a.linksC, .int .i64 a.f, .int .i64 a.dmin, .int .i64 a.dmax, .int .i64 a.rho, .int .i64 a.slew, .int .i64 a.round, .int .i64 a.window, .int .i64 a.attend, .int .i64 a.seen, .int .i64 a.hist, .int .i64 a.fly, .int .i64 a.quota, .int .i64 a.body]
@[reducible] def cval (a : Cf) : Value := .agg (ccells a)
structure OkCf (w : World) (a : Cf) : Prop where
  n : -9223372036854775808 ≤ a.n ∧ a.n ≤ 9223372036854775807
  links : Lk w a.links a.linksL a.linksC a.linksS
  f : -9223372036854775808 ≤ a.f ∧ a.f ≤ 9223372036854775807
  dmin : -9223372036854775808 ≤ a.dmin ∧ a.dmin ≤ 9223372036854775807
  dmax : -9223372036854775808 ≤ a.dmax ∧ a.dmax ≤ 9223372036854775807
  rho : -9223372036854775808 ≤ a.rho ∧ a.rho ≤ 9223372036854775807
  slew : -9223372036854775808 ≤ a.slew ∧ a.slew ≤ 9223372036854775807
  round : -9223372036854775808 ≤ a.round ∧ a.round ≤ 9223372036854775807
  window : -9223372036854775808 ≤ a.window ∧ a.window ≤ 9223372036854775807
  attend : -9223372036854775808 ≤ a.attend ∧ a.attend ≤ 9223372036854775807
  seen : -9223372036854775808 ≤ a.seen ∧ a.seen ≤ 9223372036854775807
  hist : -9223372036854775808 ≤ a.hist ∧ a.hist ≤ 9223372036854775807
  fly : -9223372036854775808 ≤ a.fly ∧ a.fly ≤ 9223372036854775807
  quota : -9223372036854775808 ≤ a.quota ∧ a.quota ≤ 9223372036854775807
  body : -9223372036854775808 ≤ a.body ∧ a.body ≤ 9223372036854775807
section
variable {H : Type} {enc0 : TypeId × Value → H} {w : World}
theorem cellsCf : Try.prog.cellsOf 24 = 15 := by kernel_rfl
theorem cells2 : Try.prog.cellsOf 50 = 2 := by kernel_rfl
theorem cells1 : Try.prog.cellsOf 3 = 1 := by kernel_rfl
theorem open_two {n : Nat} {cs : List Value} {x : DataW H × List MemPlace} (h : DataW.trod enc0 Try.prog w 0 (fun _ => true) true n 50 cs = some x) : ∃ p q : Int, cs = [.int .i64 p, .int .i64 q] := by
  obtain ⟨ys, n', _, _, hlen, hys, hf⟩ := DataW.trod_array Try.underlying50 h
  rw [cells2] at hlen
  rw [cells1] at hf
  match cs, hlen, ys, hys with
  | [c0, c1], _, [y0, y1], _ =>
    have h0 : DataW.trod enc0 Try.prog w 0 (fun _ => true) true n' 3 [c0] = some y0 := hf 0 (by omega)
    have h1 : DataW.trod enc0 Try.prog w 0 (fun _ => true) true n' 3 [c1] = some y1 := hf 1 (by omega)
    obtain ⟨a, e0, _, w0⟩ := DataW.trod_int Try.underlying3 h0
    obtain ⟨b, e1, _, w1⟩ := DataW.trod_int Try.underlying3 h1
    simp only [List.cons.injEq, and_true] at e0 e1
    subst e0 e1
    exact ⟨a, b, rfl⟩
theorem flat2_at (E : Nat → List Value) (hE : ∀ i, (E i).length = 2) : ∀ (m i j : Nat), i < m → j < 2 → ((List.range m).flatMap E)[i * 2 + j]? = (E i)[j]? := by
  intro m
  induction m with
  | zero => intro i j h; omega
  | succ m ih =>
    intro i j hi hj
    have hl : ((List.range m).flatMap E).length = m * 2 := by
      clear ih hi
      induction m with
      | zero => rfl
      | succ k ik => rw [List.range_succ, List.flatMap_append, List.length_append, ik]; simp [hE]; omega
    rw [List.range_succ, List.flatMap_append]
    by_cases hm : i < m
    · rw [List.getElem?_append_left (by rw [hl]; omega)]; exact ih i j hm hj
    · obtain rfl : i = m := by omega
      rw [List.getElem?_append_right (by rw [hl]; omega), hl]
      simp
theorem flat2_len (E : Nat → List Value) (hE : ∀ i, (E i).length = 2) (m : Nat) : ((List.range m).flatMap E).length = m * 2 := by
  induction m with
  | zero => rfl
  | succ k ik => rw [List.range_succ, List.flatMap_append, List.length_append, ik]; simp [hE]; omega
theorem open_lk {n : Nat} {v : Value} {x : DataW H × List MemPlace} (h : DataW.trod enc0 Try.prog w 0 (fun _ => true) true n 22 [v] = some x) :
    ∃ a len cap es, v = .slice a len cap ∧ Lk w a len cap es := by
  rcases open_slice Try.underlying22 h with ⟨hcs, _⟩ | ⟨ad, l, c, m, n', D, Pl, hcs, _, hl, hm, hmm, _, hi⟩
  · exact ⟨none, 0, 0, [], by simpa using hcs, ⟨rfl, Nat.le_refl _, by omega, fun _ => rfl, fun t ht => (by cases ht), .inl rfl⟩⟩
  · simp only [if_true] at hmm
    rw [hmm] at hi
    unfold maxLen at hm
    have each : ∀ i, i < l → ∃ t : Int × Int, ∀ j u, ([.int .i64 t.1, .int .i64 t.2] : List Value)[j]? = some u → w.cell? ((ad.add (i * 2)).add j) = some u := fun i hil => by
      obtain ⟨cs', hc, ht⟩ := hi i (by omega)
      obtain ⟨p, q, hcs'⟩ := open_two ht
      rw [cells2] at hc
      obtain ⟨_, hcl, hat⟩ := World.cells?_some hc
      refine ⟨(p, q), fun j u hu => ?_⟩
      rw [← hcs'] at hu
      have hj : j < 2 := by rw [← hcl]; exact (List.getElem?_eq_some_iff.1 hu).1
      rw [hat j hj, hu]
    obtain ⟨T, hT⟩ := choose_lt each
    refine ⟨some ad, l, c, (List.range l).flatMap (fun i => [.int .i64 (T i).1, .int .i64 (T i).2]), by simpa using hcs, ⟨flat2_len _ (fun _ => rfl) l, hl, by omega, (fun h => by cases h), fun t ht => ?_, ?_⟩⟩
    · obtain ⟨i, _, hi'⟩ := List.mem_flatMap.1 ht
      simp only [List.mem_cons, List.not_mem_nil, or_false] at hi'
      rcases hi' with rfl | rfl <;> rfl
    · by_cases h0 : l = 0
      · subst h0; exact .inl rfl
      · obtain ⟨b, off, spot⟩ := ad
        have h00 := hT 0 (by omega) 0 _ rfl
        have hspot : spot = none := by simpa [Addr.add] using World.cell?_spot h00
        subst hspot
        refine .inr ⟨b, off, rfl, ?_, fun k u hk => ?_⟩
        · simp only [Addr.add_lit] at h00
          by_cases hb : b < w.heap.size
          · exact hb
          · rw [World.cell?, Array.getElem?_eq_none (show w.heap.size ≤ b by omega)] at h00
            simp at h00
        · have hkl : k < l * 2 := by
            have := (List.getElem?_eq_some_iff.1 hk).1
            rwa [flat2_len _ (fun _ => rfl)] at this
          have e1 : k = k / 2 * 2 + k % 2 := by omega
          rw [e1, flat2_at _ (fun _ => rfl) l _ _ (by omega) (by omega)] at hk
          have := hT (k / 2) (by omega) (k % 2) u hk
          simp only [Addr.add_lit] at this
          rw [← this]
          congr 2
          omega
set_option maxRecDepth 100000 in
theorem open_cf {r : Reach} {b0 : Nat} {v : Value} {d : DataW H} {pl : List MemPlace} (hv : Value.okWide Try.prog w r b0 24 v) (h : DataW.Trod enc0 Try.prog w 0 (fun _ => true) true 24 v d pl) : ∃ a : Cf, v = cval a ∧ OkCf w a := by
  obtain ⟨cs, rfl, hs⟩ := okWide_struct Try.underlying24 hv
  obtain ⟨n, hn⟩ := h
  obtain ⟨ys, n', _, _, hlen, hys, hf⟩ := DataW.trod_struct Try.underlying24 hn
  rw [cellsCf] at hlen
  obtain ⟨cs⟩ := cs
  match cs, hlen, ys, hys with
  | [c0, c1, c2, c3, c4, c5, c6, c7, c8, c9, c10, c11, c12, c13, c14], _, [y0, y1, y2, y3, y4, y5, y6, y7, y8, y9, y10, y11, y12, y13, y14], _ =>
    have h0 : DataW.trod enc0 Try.prog w 0 (fun _ => true) true n' 3 (([c0, c1, c2, c3, c4, c5, c6, c7, c8, c9, c10, c11, c12, c13, c14].drop 0).take (Try.prog.cellsOf 3)) = some y0 := hf 0 _ rfl
    rw [show Try.prog.cellsOf 3 = 1 from by kernel_rfl] at h0
    simp only [List.drop_succ_cons, List.drop_zero, List.take_succ_cons, List.take_zero] at h0
    have h1 : DataW.trod enc0 Try.prog w 0 (fun _ => true) true n' 22 (([c0, c1, c2, c3, c4, c5, c6, c7, c8, c9, c10, c11, c12, c13, c14].drop 1).take (Try.prog.cellsOf 22)) = some y1 := hf 1 _ rfl
    rw [show Try.prog.cellsOf 22 = 1 from by kernel_rfl] at h1
    simp only [List.drop_succ_cons, List.drop_zero, List.take_succ_cons, List.take_zero] at h1
    have h2 : DataW.trod enc0 Try.prog w 0 (fun _ => true) true n' 3 (([c0, c1, c2, c3, c4, c5, c6, c7, c8, c9, c10, c11, c12, c13, c14].drop 2).take (Try.prog.cellsOf 3)) = some y2 := hf 2 _ rfl
    rw [show Try.prog.cellsOf 3 = 1 from by kernel_rfl] at h2
    simp only [List.drop_succ_cons, List.drop_zero, List.take_succ_cons, List.take_zero] at h2
    have h3 : DataW.trod enc0 Try.prog w 0 (fun _ => true) true n' 2 (([c0, c1, c2, c3, c4, c5, c6, c7, c8, c9, c10, c11, c12, c13, c14].drop 3).take (Try.prog.cellsOf 2)) = some y3 := hf 3 _ rfl
    rw [show Try.prog.cellsOf 2 = 1 from by kernel_rfl] at h3
    simp only [List.drop_succ_cons, List.drop_zero, List.take_succ_cons, List.take_zero] at h3
    have h4 : DataW.trod enc0 Try.prog w 0 (fun _ => true) true n' 2 (([c0, c1, c2, c3, c4, c5, c6, c7, c8, c9, c10, c11, c12, c13, c14].drop 4).take (Try.prog.cellsOf 2)) = some y4 := hf 4 _ rfl
    rw [show Try.prog.cellsOf 2 = 1 from by kernel_rfl] at h4
    simp only [List.drop_succ_cons, List.drop_zero, List.take_succ_cons, List.take_zero] at h4
    have h5 : DataW.trod enc0 Try.prog w 0 (fun _ => true) true n' 2 (([c0, c1, c2, c3, c4, c5, c6, c7, c8, c9, c10, c11, c12, c13, c14].drop 5).take (Try.prog.cellsOf 2)) = some y5 := hf 5 _ rfl
    rw [show Try.prog.cellsOf 2 = 1 from by kernel_rfl] at h5
    simp only [List.drop_succ_cons, List.drop_zero, List.take_succ_cons, List.take_zero] at h5
    have h6 : DataW.trod enc0 Try.prog w 0 (fun _ => true) true n' 2 (([c0, c1, c2, c3, c4, c5, c6, c7, c8, c9, c10, c11, c12, c13, c14].drop 6).take (Try.prog.cellsOf 2)) = some y6 := hf 6 _ rfl
    rw [show Try.prog.cellsOf 2 = 1 from by kernel_rfl] at h6
    simp only [List.drop_succ_cons, List.drop_zero, List.take_succ_cons, List.take_zero] at h6
    have h7 : DataW.trod enc0 Try.prog w 0 (fun _ => true) true n' 2 (([c0, c1, c2, c3, c4, c5, c6, c7, c8, c9, c10, c11, c12, c13, c14].drop 7).take (Try.prog.cellsOf 2)) = some y7 := hf 7 _ rfl
    rw [show Try.prog.cellsOf 2 = 1 from by kernel_rfl] at h7
    simp only [List.drop_succ_cons, List.drop_zero, List.take_succ_cons, List.take_zero] at h7
    have h8 : DataW.trod enc0 Try.prog w 0 (fun _ => true) true n' 2 (([c0, c1, c2, c3, c4, c5, c6, c7, c8, c9, c10, c11, c12, c13, c14].drop 8).take (Try.prog.cellsOf 2)) = some y8 := hf 8 _ rfl
    rw [show Try.prog.cellsOf 2 = 1 from by kernel_rfl] at h8
    simp only [List.drop_succ_cons, List.drop_zero, List.take_succ_cons, List.take_zero] at h8
    have h9 : DataW.trod enc0 Try.prog w 0 (fun _ => true) true n' 2 (([c0, c1, c2, c3, c4, c5, c6, c7, c8, c9, c10, c11, c12, c13, c14].drop 9).take (Try.prog.cellsOf 2)) = some y9 := hf 9 _ rfl
    rw [show Try.prog.cellsOf 2 = 1 from by kernel_rfl] at h9
    simp only [List.drop_succ_cons, List.drop_zero, List.take_succ_cons, List.take_zero] at h9
    have h10 : DataW.trod enc0 Try.prog w 0 (fun _ => true) true n' 3 (([c0, c1, c2, c3, c4, c5, c6, c7, c8, c9, c10, c11, c12, c13, c14].drop 10).take (Try.prog.cellsOf 3)) = some y10 := hf 10 _ rfl
    rw [show Try.prog.cellsOf 3 = 1 from by kernel_rfl] at h10
    simp only [List.drop_succ_cons, List.drop_zero, List.take_succ_cons, List.take_zero] at h10
    have h11 : DataW.trod enc0 Try.prog w 0 (fun _ => true) true n' 3 (([c0, c1, c2, c3, c4, c5, c6, c7, c8, c9, c10, c11, c12, c13, c14].drop 11).take (Try.prog.cellsOf 3)) = some y11 := hf 11 _ rfl
    rw [show Try.prog.cellsOf 3 = 1 from by kernel_rfl] at h11
    simp only [List.drop_succ_cons, List.drop_zero, List.take_succ_cons, List.take_zero] at h11
    have h12 : DataW.trod enc0 Try.prog w 0 (fun _ => true) true n' 3 (([c0, c1, c2, c3, c4, c5, c6, c7, c8, c9, c10, c11, c12, c13, c14].drop 12).take (Try.prog.cellsOf 3)) = some y12 := hf 12 _ rfl
    rw [show Try.prog.cellsOf 3 = 1 from by kernel_rfl] at h12
    simp only [List.drop_succ_cons, List.drop_zero, List.take_succ_cons, List.take_zero] at h12
    have h13 : DataW.trod enc0 Try.prog w 0 (fun _ => true) true n' 3 (([c0, c1, c2, c3, c4, c5, c6, c7, c8, c9, c10, c11, c12, c13, c14].drop 13).take (Try.prog.cellsOf 3)) = some y13 := hf 13 _ rfl
    rw [show Try.prog.cellsOf 3 = 1 from by kernel_rfl] at h13
    simp only [List.drop_succ_cons, List.drop_zero, List.take_succ_cons, List.take_zero] at h13
    have h14 : DataW.trod enc0 Try.prog w 0 (fun _ => true) true n' 3 (([c0, c1, c2, c3, c4, c5, c6, c7, c8, c9, c10, c11, c12, c13, c14].drop 14).take (Try.prog.cellsOf 3)) = some y14 := hf 14 _ rfl
    rw [show Try.prog.cellsOf 3 = 1 from by kernel_rfl] at h14
    simp only [List.drop_succ_cons, List.drop_zero, List.take_succ_cons, List.take_zero] at h14
    obtain ⟨x0, e0, _, o0⟩ := DataW.trod_int Try.underlying3 h0
    simp only [List.cons.injEq, and_true] at e0
    subst e0
    obtain ⟨x1, l1, q1, z1, rfl, o1⟩ := open_lk h1
    obtain ⟨x2, e2, _, o2⟩ := DataW.trod_int Try.underlying3 h2
    simp only [List.cons.injEq, and_true] at e2
    subst e2
    obtain ⟨x3, e3, _, o3⟩ := DataW.trod_int Try.underlying2 h3
    simp only [List.cons.injEq, and_true] at e3
    subst e3
    obtain ⟨x4, e4, _, o4⟩ := DataW.trod_int Try.underlying2 h4
    simp only [List.cons.injEq, and_true] at e4
    subst e4
    obtain ⟨x5, e5, _, o5⟩ := DataW.trod_int Try.underlying2 h5
    simp only [List.cons.injEq, and_true] at e5
    subst e5
    obtain ⟨x6, e6, _, o6⟩ := DataW.trod_int Try.underlying2 h6
    simp only [List.cons.injEq, and_true] at e6
    subst e6
    obtain ⟨x7, e7, _, o7⟩ := DataW.trod_int Try.underlying2 h7
    simp only [List.cons.injEq, and_true] at e7
    subst e7
    obtain ⟨x8, e8, _, o8⟩ := DataW.trod_int Try.underlying2 h8
    simp only [List.cons.injEq, and_true] at e8
    subst e8
    obtain ⟨x9, e9, _, o9⟩ := DataW.trod_int Try.underlying2 h9
    simp only [List.cons.injEq, and_true] at e9
    subst e9
    obtain ⟨x10, e10, _, o10⟩ := DataW.trod_int Try.underlying3 h10
    simp only [List.cons.injEq, and_true] at e10
    subst e10
    obtain ⟨x11, e11, _, o11⟩ := DataW.trod_int Try.underlying3 h11
    simp only [List.cons.injEq, and_true] at e11
    subst e11
    obtain ⟨x12, e12, _, o12⟩ := DataW.trod_int Try.underlying3 h12
    simp only [List.cons.injEq, and_true] at e12
    subst e12
    obtain ⟨x13, e13, _, o13⟩ := DataW.trod_int Try.underlying3 h13
    simp only [List.cons.injEq, and_true] at e13
    subst e13
    obtain ⟨x14, e14, _, o14⟩ := DataW.trod_int Try.underlying3 h14
    simp only [List.cons.injEq, and_true] at e14
    subst e14
    exact ⟨⟨x0, x1, l1, q1, z1, x2, x3, x4, x5, x6, x7, x8, x9, x10, x11, x12, x13, x14⟩, rfl, ⟨bounds_i64 o0, o1, bounds_i64 o2, bounds_i64 o3, bounds_i64 o4, bounds_i64 o5, bounds_i64 o6, bounds_i64 o7, bounds_i64 o8, bounds_i64 o9, bounds_i64 o10, bounds_i64 o11, bounds_i64 o12, bounds_i64 o13, bounds_i64 o14⟩⟩
theorem sized_atB {P : Program} {ts : List TypeId} {ds : List (DataW H)} (h : (DataW.weightsEach P ts ds).all (· ≤ reachBytes) = true) {j : Nat} {t : TypeId} {d : DataW H} (ht : ts[j]? = some t) (hd : ds[j]? = some d) : (d.weights P t).all (· ≤ reachBytes) = true :=
  List.all_eq_true.2 fun x hx => List.all_eq_true.1 h _ (DataW.weights_mem_each ht hd x hx)
theorem bytes2 : Try.prog.bytesOf 50 = 16 := by kernel_rfl
set_option maxRecDepth 100000 in
theorem cap_sizedB {p : Cf} {d : DataW H} {pl : List MemPlace} (h : DataW.Trod enc0 Try.prog w 0 (fun _ => true) true 24 (cval p) d pl) (hs : (d.weights Try.prog 24).all (· ≤ reachBytes) = true) : p.linksC * 16 ≤ 140737488351232 := by
  obtain ⟨n, hn⟩ := h
  obtain ⟨ys, n', _, hx, hlen, hys, hf⟩ := DataW.trod_struct Try.underlying24 hn
  match ys, hys with
  | [y0, y1, y2, y3, y4, y5, y6, y7, y8, y9, y10, y11, y12, y13, y14], _ =>
    have h9 : DataW.trod enc0 Try.prog w 0 (fun _ => true) true n' 22 (([.int .i64 p.n, .slice p.links p.linksL p.linksC, .int .i64 p.f, .int .i64 p.dmin, .int .i64 p.dmax, .int .i64 p.rho, .int .i64 p.slew, .int .i64 p.round, .int .i64 p.window, .int .i64 p.attend, .int .i64 p.seen, .int .i64 p.hist, .int .i64 p.fly, .int .i64 p.quota, .int .i64 p.body].drop 1).take (Try.prog.cellsOf 22)) = some y1 := hf 1 _ rfl
    rw [show Try.prog.cellsOf 22 = 1 from by kernel_rfl] at h9
    simp only [List.drop_succ_cons, List.drop_zero, List.take_succ_cons, List.take_zero] at h9
    rcases open_slice Try.underlying22 h9 with ⟨hcs, _⟩ | ⟨ad, l, c, m, n'', D, Pl, hcs, _, hl, hm, hmm, hy, _⟩
    · simp at hcs
      omega
    · simp only [List.cons.injEq, Value.slice.injEq, and_true] at hcs
      obtain ⟨_, rfl, rfl⟩ := hcs
      simp only [if_true] at hmm
      subst hmm
      simp only [Prod.mk.injEq] at hx
      rw [hx.1] at hs
      have hs' := List.all_eq_true.1 hs (p.linksC * 16) (by
        simp only [List.map_cons, List.map_nil, DataW.weights, Try.underlying24, DataW.weightsEach, hy, Try.underlying22, bytes2]
        simp
        omega)
      simp only [reachBytes, decide_eq_true_eq] at hs'
      exact of_decide_eq_true hs'
end
end Go.Proofs.Ytbbenfjfdmnpmaa.Bnd
