/- The statements' Cut of layer 16; slices of links that came in, opened. -/
import Derived.Test.YtlmdandgjapmjaaGrfD
import Derived.Deep.Slices
import Derived.Deep.Fields
import Derived.OpenShut
import Derived.Laws.IdiomArrays
namespace Go.Proofs.Ytlmdandgjapmjaa.Grf
open Go.ChangeShapes Go.WideShapes Go.ChangeAt Go.RowKit Go.Deep
set_option linter.unusedVariables false
set_option linter.unusedSimpArgs false
/-- A slice of links that came in. -/
structure Links (w : World) (G : Nat) (a : Option Addr) (len cap : Nat) (ts : List Pr) : Prop where
  len_ : ts.length = len
  le : len ≤ cap
  max : cap ≤ 9223372036854775807
  nil : a = none → cap = 0
  ok : ∀ t ∈ ts, inI t.1 ∧ inI t.2
  rd : RdG w a ts
theorem cells2 : Try.prog.cellsOf 53 = 2 := by kernel_rfl
section
variable {H : Type} {enc0 : TypeId × Value → H} {w : World}
set_option maxRecDepth 100000 in
theorem open_two {n : Nat} {cs : List Value} {x : DataW H × List MemPlace} (h : DataW.trod enc0 Try.prog w 0 (fun _ => true) true n 53 cs = some x) : ∃ t : Pr, cs = enc t ∧ inI t.1 ∧ inI t.2 := by
  obtain ⟨ys, n', _, _, hlen, hys, hf⟩ := DataW.trod_array Try.underlying53 h
  rw [cells2] at hlen
  rw [show Try.prog.cellsOf 3 = 1 from by kernel_rfl] at hf
  match cs, hlen, ys, hys with
  | [c0, c1], _, [y0, y1], _ =>
    have h0 : DataW.trod enc0 Try.prog w 0 (fun _ => true) true n' 3 [c0] = some y0 := hf 0 (by omega)
    have h1 : DataW.trod enc0 Try.prog w 0 (fun _ => true) true n' 3 [c1] = some y1 := hf 1 (by omega)
    obtain ⟨a, e0, _, w0⟩ := DataW.trod_int Try.underlying3 h0
    obtain ⟨b, e1, _, w1⟩ := DataW.trod_int Try.underlying3 h1
    simp only [List.cons.injEq, and_true] at e0 e1
    subst e0 e1
    exact ⟨(a, b), rfl, bounds_i64 w0, bounds_i64 w1⟩
set_option maxRecDepth 100000 in
theorem open_pair {r : Reach} {b0 : Nat} {v : Value} {d : DataW H} {p : List MemPlace} (hv : Value.okWide Try.prog w r b0 53 v) (h : DataW.Trod enc0 Try.prog w 0 (fun _ => true) true 53 v d p) :
    ∃ t : Pr, v = pval t ∧ (inI t.1 ∧ inI t.2) := by
  simp only [Value.okWide, Try.underlying53] at hv
  obtain ⟨cs, rfl, hs, _⟩ := hv
  obtain ⟨n, hn⟩ := h
  obtain ⟨t, ht, hok⟩ := open_two hn
  refine ⟨t, ?_, hok⟩
  unfold pval
  congr 1
  exact Array.toList_inj.1 ht
theorem open_links {n : Nat} {v : Value} {x : DataW H × List MemPlace} {a : Option Addr} {len cap : Nat} (hv : v = .slice a len cap) (h : DataW.trod enc0 Try.prog w 0 (fun _ => true) true n 22 [v] = some x) :
    ∃ ts, Links w w.heap.size a len cap ts := by
  subst hv
  rcases open_slice Try.underlying22 h with ⟨hcs, _⟩ | ⟨ad, l, c, m, n', D, Pl, hcs, _, hl, hm, hmm, _, hi⟩
  · simp at hcs
    obtain ⟨rfl, rfl, rfl⟩ := hcs
    exact ⟨[], ⟨rfl, Nat.le_refl _, by omega, fun _ => rfl, fun t ht => (by cases ht), .inl rfl⟩⟩
  · simp at hcs
    obtain ⟨rfl, rfl, rfl⟩ := hcs
    simp only [if_true] at hmm
    subst hmm
    unfold maxLen at hm
    have each : ∀ i, i < len → ∃ t : Pr, (inI t.1 ∧ inI t.2) ∧ ∀ j u, (enc t)[j]? = some u → w.cell? ((ad.add (i * 2)).add j) = some u := fun i hil => by
      obtain ⟨cs', hc, ht⟩ := hi i (by omega)
      obtain ⟨t, hcs, hok⟩ := open_two ht
      rw [cells2] at hc
      obtain ⟨_, hcl, hat⟩ := World.cells?_some hc
      refine ⟨t, hok, fun j u hu => ?_⟩
      rw [← hcs] at hu
      have hj : j < 2 := by rw [← hcl]; exact (List.getElem?_eq_some_iff.1 hu).1
      rw [hat j hj, hu]
    obtain ⟨T, hT⟩ := choose_lt each
    refine ⟨(List.range len).map T, ⟨by simp, hl, by omega, (fun h => by cases h), fun t ht => ?_, ?_⟩⟩
    · obtain ⟨i, hi', rfl⟩ := List.mem_map.1 ht
      exact (hT i (List.mem_range.1 hi')).1
    · by_cases h0 : len = 0
      · exact .inl (by rw [h0]; rfl)
      · obtain ⟨b, off, spot⟩ := ad
        have h00 := (hT 0 (by omega)).2 0 _ rfl
        have hspot : spot = none := by simpa [Addr.add] using World.cell?_spot h00
        subst hspot
        refine .inr ⟨b, off, rfl, ?_, fun i hil => ?_⟩
        · simp only [Addr.add_lit] at h00
          by_cases hb : b < w.heap.size
          · exact hb
          · rw [World.cell?, Array.getElem?_eq_none (show w.heap.size ≤ b by omega)] at h00
            simp at h00
        · rw [List.length_map, List.length_range] at hil
          have e : ((List.range len).map T).getD i default = T i := by simp [List.getD, hil]
          rw [e]
          have hc := (hT i hil).2
          simp only [Addr.add_lit] at hc
          exact fun j u hu => hc j u hu
end
theorem rd_cells {w : World} {ad : Option Addr} {L : List Pr} (h : RdG w ad L) : ∀ a', ad = some a' → ∀ j u, (L.flatMap enc)[j]? = some u → w.cell? (a'.add j) = some u := by
  intro a' ha j u hj
  rcases h with h' | ⟨b, off, e, hb, hc⟩
  · rw [h'] at hj; simp at hj
  · obtain rfl : a' = ⟨b, off, none⟩ := by rw [ha] at e; exact Option.some.inj e
    have hjl : j < L.length * 2 := by
      have := (List.getElem?_eq_some_iff.1 hj).1
      rwa [Rw.flat_len enc_len] at this
    have e1 : j = j / 2 * 2 + j % 2 := by omega
    rw [e1, Rw.flat_at enc_len L _ _ (by omega) (by omega)] at hj
    have := hc (j / 2) (by omega) (j % 2) u hj
    rw [Addr.add_lit, ← this]
    congr 2
    omega
theorem flat_one (L : List Pr) : ∀ u ∈ L.flatMap enc, u.oneCell' = true := by
  intro u hu
  obtain ⟨p, _, hp⟩ := List.mem_flatMap.1 hu
  simp only [enc, List.mem_cons, List.not_mem_nil, or_false] at hp
  rcases hp with rfl | rfl <;> rfl
theorem cut_any (ad : Option Addr) (len cap : Nat) (L : List Pr) (w : World) (hlen : L.length = len) (hc : len ≤ cap) (hm : cap ≤ 9223372036854775807) (hr : RdG w ad L) (hnil : ad = none → cap = 0) :
    Calls Try.prog 19 #[.slice ad len cap] w (LPost (L.take 60) w) := by
  obtain ⟨i0, hi, hz0, hz1, hz2⟩ := info_parts infoPr
  have hB0 : Below w.heap.size w (w.alloc (.cells #[] 53)) := (Below.refl _ _).alloc (Nat.le_refl _) _
  have HTL := Lib.hid (show (L.take 60).length = (min (len : Int) 60).toNat by rw [List.length_take, hlen]; omega)
  have HE := Lib.hid (show ((L.take 60).flatMap enc).length = (min (len : Int) 60).toNat * 2 by rw [Rw.flat_len enc_len, HTL.out])
  have HCS : Hid (∀ a', ad = some a' → ∀ j u, ((L.take 60).flatMap enc)[j]? = some u → (w.alloc (.cells #[] 53)).cell? (a'.add j) = some u) := Lib.hid (rd_cells (RdG.below (Rw.Rd.take hr 60) hB0))
  have HNN : Hid (ad = none → (min (len : Int) 60).toNat = 0 ∧ cap = 0) := Lib.hid (fun h => ⟨by have := hnil h; omega, hnil h⟩)
  have hown0 : OwnG (w.alloc (.cells #[] 53)) w.heap.size (.slice (some ⟨w.heap.size, 0, none⟩) 0 0) [] := OwnG.lit0 w
  have H1 := Lib.hid (flat_one (L.take 60))
  clear hr hnil hlen
  generalize L.take 60 = M at *
  go_enter Try.func19, Try.ntmps19
  go_wp2_with (at_builtin; refine Own.wpList_append2_any _ rfl _ _ 22 rfl w.heap.size 53 i0 (.agg #[.int .i64 0, .int .i64 0]) 2 16 Try.underlying22 hi hz0 hz1 hz2 rfl (by decide) (.slice (some ⟨w.heap.size, 0, none⟩) 0 0) 0 [] rfl hown0 ad (min (len : Int) 60).toNat cap (M.flatMap enc) rfl HE.out HNN.out HCS.out H1.out (by unfold maxLen; omega) (by omega) (by simp) ?_; intro v' w1 hown' hgrow _)
  rw [Nat.zero_add, List.nil_append, ← HTL.out] at hown'
  obtain ⟨ad2, cap2, rfl, -⟩ := Own.shape hown'
  have hB1 : Below w.heap.size w w1 := hB0.grown hgrow (by simp) (fun k e => by cases e; exact Nat.le_refl _)
  go_ret
  exact ⟨ad2, cap2, rfl, hown', hB1⟩
end Go.Proofs.Ytlmdandgjapmjaa.Grf
