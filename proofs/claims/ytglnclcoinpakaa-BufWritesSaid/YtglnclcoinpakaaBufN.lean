/- Items that came in: a slice of structs opened. -/
import Derived.Test.YtglnclcoinpakaaBufJ
import Derived.Deep.Slices
import Derived.Deep.Fields
import Derived.OpenShut
namespace Go.Proofs.Ytglnclcoinpakaa.Buf
open Go.ChangeShapes Go.WideShapes Go.ChangeAt Go.RowKit Go.Deep
open Go.Proofs.Ytglnclcoinpakaa.Byt Go.Proofs.Ytglnclcoinpakaa.Units Go.Proofs.Ytglnclcoinpakaa.BufM
set_option linter.unusedVariables false

/-- An item's four cells. -/
def ItAt (w : World) (b o : Nat) (t : It) : Prop :=
  w.cell? ⟨b, o, none⟩ = some (.int .u8 (t.k : Int)) ∧ w.cell? ⟨b, o + 1, none⟩ = some (.int .u64 (t.x : Int)) ∧ w.cell? ⟨b, o + 2, none⟩ = some (.int .i64 t.n) ∧ w.cell? ⟨b, o + 3, none⟩ = some (.slice t.ad t.b.length t.cap)
/-- A slice of items that came in. -/
structure Items (w : World) (G : Nat) (a : Option Addr) (len cap : Nat) (ts : List It) : Prop where
  len_ : ts.length = len
  le : len ≤ cap
  max : cap ≤ 9223372036854775807
  nil : a = none → cap = 0
  ok : ∀ t ∈ ts, t.ok w G
  at_ : len = 0 ∨ ∃ b off, a = some ⟨b, off, none⟩ ∧ b < G ∧ ∀ i, i < len → ItAt w b (off + i * 4) (ts.getD i default)
theorem infoItem : Try.prog.cellsOf 29 = 4 := by kernel_rfl
section
variable {H : Type} {enc : TypeId × Value → H} {w : World}
theorem open_item {n : Nat} {cs : List Value} {x : DataW H × List MemPlace} (h : DataW.trod enc Try.prog w 0 (fun _ => true) true n 29 cs = some x) :
    ∃ t : It, cs = [.int .u8 (t.k : Int), .int .u64 (t.x : Int), .int .i64 t.n, .slice t.ad t.b.length t.cap] ∧ t.ok w w.heap.size := by
  obtain ⟨ys, n', _, _, hlen, hys, hf⟩ := DataW.trod_struct Try.underlying29 h
  rw [infoItem] at hlen
  match cs, hlen, ys, hys with
  | [c0, c1, c2, c3], _, [y0, y1, y2, y3], _ =>
    have h0 : DataW.trod enc Try.prog w 0 (fun _ => true) true n' 5 (([c0, c1, c2, c3].drop 0).take (Try.prog.cellsOf 5)) = some y0 := hf 0 _ rfl
    rw [show Try.prog.cellsOf 5 = 1 from by kernel_rfl] at h0
    simp only [List.drop_zero, List.take_succ_cons, List.take_zero] at h0
    have h1 : DataW.trod enc Try.prog w 0 (fun _ => true) true n' 27 (([c0, c1, c2, c3].drop 1).take (Try.prog.cellsOf 27)) = some y1 := hf 1 _ rfl
    rw [show Try.prog.cellsOf 27 = 1 from by kernel_rfl] at h1
    simp only [List.drop_succ_cons, List.drop_zero, List.take_succ_cons, List.take_zero] at h1
    have h2 : DataW.trod enc Try.prog w 0 (fun _ => true) true n' 3 (([c0, c1, c2, c3].drop 2).take (Try.prog.cellsOf 3)) = some y2 := hf 2 _ rfl
    rw [show Try.prog.cellsOf 3 = 1 from by kernel_rfl] at h2
    simp only [List.drop_succ_cons, List.drop_zero, List.take_succ_cons, List.take_zero] at h2
    have h3 : DataW.trod enc Try.prog w 0 (fun _ => true) true n' 25 (([c0, c1, c2, c3].drop 3).take (Try.prog.cellsOf 25)) = some y3 := hf 3 _ rfl
    rw [show Try.prog.cellsOf 25 = 1 from by kernel_rfl] at h3
    simp only [List.drop_succ_cons, List.drop_zero, List.take_succ_cons, List.take_zero] at h3
    obtain ⟨k, e0, _, w0⟩ := DataW.trod_int Try.underlying5 h0
    obtain ⟨u, e1, _, w1⟩ := DataW.trod_int Try.underlying27 h1
    obtain ⟨m, e2, _, w2⟩ := DataW.trod_int Try.underlying3 h2
    have hsl : ∃ (a : Option Addr) (len cap : Nat) (zs : List Int), c3 = .slice a len cap ∧ ((a = none ∧ len = 0 ∧ cap = 0 ∧ zs = []) ∨ ∃ x, a = some x ∧ len ≤ cap ∧ cap ≤ maxLen ∧ zs.length = cap ∧ (∀ i, i < zs.length → w.cell? (x.add i) = some (.int .u8 (zs.getD i 0))) ∧ ∀ n ∈ zs, (Lit.int .u8 n).wf = true) := by
      rcases open_ints Try.underlying25 Try.underlying5 (by kernel_rfl) h3 with ⟨hcs, _⟩ | ⟨x, l, c, zs, hcs, _, hl, hm, hz, _, hcell, hwz⟩
      · exact ⟨none, 0, 0, [], by simpa using hcs, .inl ⟨rfl, rfl, rfl, rfl⟩⟩
      · exact ⟨some x, l, c, zs, by simpa using hcs, .inr ⟨x, rfl, hl, hm, by simpa using hz, hcell, hwz⟩⟩
    obtain ⟨a, len, cap, zs, e3, hz⟩ := hsl
    obtain ⟨b, hb1, hb2, hb3, hb4, hb5, hb6⟩ := rd_of_row hz
    have hb2 := hb2.out
    obtain ⟨k0, k1⟩ := bounds_u8 w0
    obtain ⟨x0, x1⟩ := bounds_u64 w1
    obtain ⟨m0, m1⟩ := bounds_i64 w2
    obtain ⟨k, rfl⟩ := Int.eq_ofNat_of_zero_le k0
    obtain ⟨u, rfl⟩ := Int.eq_ofNat_of_zero_le x0
    refine ⟨⟨k, u, m, a, cap, b⟩, ?_, ⟨by simp only; omega, by simp only; omega, ⟨m0, m1⟩, hb1.out, hb5.out, fun hne b' o e => ?_, ⟨by simp only; omega, hb4⟩⟩⟩
    · simp only [List.cons.injEq, and_true] at e0 e1 e2
      rw [e0, e1, e2, e3, hb2]
    · rcases hb1.out with h' | ⟨b2, off, e', hc⟩
      · exact absurd h' hne
      · have e'' : some (⟨b', o, none⟩ : Addr) = some ⟨b2, off, none⟩ := e.symm.trans e'
        cases e''
        exact RdB.lt hc (List.length_pos_iff.2 hne)
theorem open_items {n : Nat} {v : Value} {x : DataW H × List MemPlace} {a : Option Addr} {len cap : Nat} (hv : v = .slice a len cap) (h : DataW.trod enc Try.prog w 0 (fun _ => true) true n 22 [v] = some x) :
    ∃ ts, Items w w.heap.size a len cap ts := by
  subst hv
  rcases open_slice Try.underlying22 h with ⟨hcs, _⟩ | ⟨ad, l, c, m, n', D, Pl, hcs, _, hl, hm, hmm, _, hi⟩
  · simp at hcs
    obtain ⟨rfl, rfl, rfl⟩ := hcs
    exact ⟨[], ⟨rfl, Nat.le_refl _, by omega, fun _ => rfl, fun t ht => (by cases ht), .inl rfl⟩⟩
  · simp at hcs
    obtain ⟨rfl, rfl, rfl⟩ := hcs
    simp only [if_true] at hmm
    subst hmm
    unfold maxLen at hm
    have each : ∀ i, i < len → ∃ t : It, t.ok w w.heap.size ∧ ∀ j u, [Value.int .u8 (t.k : Int), .int .u64 (t.x : Int), .int .i64 t.n, .slice t.ad t.b.length t.cap][j]? = some u → w.cell? ((ad.add (i * 4)).add j) = some u := fun i hil => by
      obtain ⟨cs', hc, ht⟩ := hi i (by omega)
      obtain ⟨t, hcs, hok⟩ := open_item ht
      rw [infoItem] at hc
      obtain ⟨_, hcl, hat⟩ := World.cells?_some hc
      refine ⟨t, hok, fun j u hu => ?_⟩
      rw [← hcs] at hu
      have hj : j < 4 := by rw [← hcl]; exact (List.getElem?_eq_some_iff.1 hu).1
      rw [hat j hj, hu]
    obtain ⟨T, hT⟩ := choose_lt each
    refine ⟨(List.range len).map T, ⟨by simp, hl, by omega, (fun h => by cases h), fun t ht => ?_, ?_⟩⟩
    · obtain ⟨i, hi', rfl⟩ := List.mem_map.1 ht
      exact (hT i (List.mem_range.1 hi')).1
    · by_cases h0 : len = 0
      · exact .inl h0
      · obtain ⟨b, off, spot⟩ := ad
        have h00 := (hT 0 (by omega)).2 0 _ rfl
        have hspot : spot = none := by simpa [Addr.add] using World.cell?_spot h00
        subst hspot
        refine .inr ⟨b, off, rfl, ?_, fun i hil => ?_⟩
        · simp only [Addr.add_lit] at h00
          by_cases hb : b < w.heap.size
          · exact hb
          · rw [World.cell?, Array.getElem?_eq_none (show w.heap.size ≤ b by omega)] at h00
            simp at h00
        · have e : ((List.range len).map T).getD i default = T i := by simp [List.getD, hil]
          rw [e]
          have hc := (hT i hil).2
          simp only [Addr.add_lit] at hc
          exact ⟨hc 0 _ rfl, hc 1 _ rfl, hc 2 _ rfl, hc 3 _ rfl⟩
end
end Go.Proofs.Ytglnclcoinpakaa.Buf
