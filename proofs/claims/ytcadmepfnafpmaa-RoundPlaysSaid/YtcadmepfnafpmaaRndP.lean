/- A round and the document's own list side by side; appends to a slice of int (layer 25). -/
import Derived.Test.YtcadmepfnafpmaaRndK
import Derived.Test.YtcadmepfnafpmaaRndR
import Derived.Test.YtcadmepfnafpmaaIntA
import Derived.Test.YtcadmepfnafpmaaNodesB
namespace Go.Proofs.Ytcadmepfnafpmaa.Rnd
open Go.ChangeShapes Go.WideShapes Go.ChangeAt Go.RowKit
set_option linter.unusedVariables false
set_option linter.unusedSimpArgs false
theorem info_int : ∃ i, Try.prog.info? 3 = some i ∧ i.zero = some (.int .i64 0) ∧ i.size = 1 ∧ i.bytes = 8 := info_parts Ints.infoInt
theorem tmp_cellI (wr : World) (x : Int) (e : TypeId) : ∀ j u, ([Value.int .i64 x] : List Value)[j]? = some u → (wr.alloc (.cells #[.int .i64 x] e)).cell? ((⟨wr.heap.size, 0, none⟩ : Addr).add j) = some u := I64s.tmp_cell wr x e
/-- append(s, x) of one whole number. -/
theorem app_oneI {wr : World} {ops : Array Oper} {rest : List Oper} {o : Oper} {a : Act} {Q : Exit → Act → World → Prop} (hgd : o.guard = none) (s x : Operand)
    (ho : o.op = .call { callee := .builtin .append, args := #[s, x], argTypes := #[31, 31] }) (base : Nat) (v : Value) (L : List Int) (hs : a.eval s = v) (hown : Ints.OwnL wr base v L)
    (p : Int) (hx : a.eval x = .slice (some ⟨wr.heap.size, 0, none⟩) 1 1) (hl : L.length < 1099511627776) (hbase : base ≤ wr.heap.size)
    (h : ∀ v' w', Ints.OwnL w' base v' (L ++ [p]) → Below base wr w' → (∀ k, k < wr.heap.size → some k ≠ v.ownBlock → w'.heap[k]? = wr.heap[k]?) → (v'.ownBlock = v.ownBlock ∨ ∀ k, v'.ownBlock = some k → wr.heap.size ≤ k) → wpList Try.prog ops Q rest (a.put o.dst v') w') :
    wpList Try.prog ops Q (o :: rest) a (wr.alloc (.cells #[.int .i64 p] 3)) := by
  obtain ⟨i0, hi, hz0, hz1, hz2⟩ := info_int
  refine Own.wpList_append2 _ hgd s x 31 ho base 3 i0 (.int .i64 0) 1 8 Try.underlying31 hi hz0 hz1 hz2 rfl (by decide) v L.length (L.map (Value.int .i64)) hs (World.ownsRow.alloc hown _) ⟨wr.heap.size, 0, none⟩ 1 1 [.int .i64 p] hx rfl (tmp_cellI wr p _) (by simp [Value.oneCell']) (by unfold maxLen; omega) (by omega) (by rw [World.size_alloc]; omega) ?_
  intro v' w1 hown' hgrow _ hb
  refine h v' w1 (Ints.OwnL.snoc hown') (Own.below_append hown hbase hgrow) (fun k hk hne => ?_) (hb.imp id fun h k hk => by have := h k hk; rw [World.size_alloc] at this; omega)
  exact (hgrow.block k (by rw [World.size_alloc]; omega) hne).trans (Below.heap_alloc wr _ k hk)
theorem own_lt {W : World} {base : Nat} {v : Value} {zs : List Int} (h : Ints.OwnL W base v zs) {g : Nat} (e : v.ownBlock = some g) : base ≤ g ∧ g < W.heap.size := World.ownsRow.lt h g e
theorem own_nil (W : World) (base : Nat) : Ints.OwnL W base (.slice none 0 0) [] := World.ownsRow_nil _ _ _ _
/-- A list of readings lies neither in a round's box nor in its map. -/
theorem rs_apart {W : World} {ad : Option Addr} {cap : Nat} {L A : List Rg} {B g : Nat} {no : Int} {mb : Option Nat} (h : RS W ad cap L) (hr : RR W B g no mb A) (hL : 0 < L.length) {b off : Nat} (e : ad = some ⟨b, off, none⟩) : b ≠ g ∧ mb ≠ some b := by
  obtain ⟨b', off', e', hc⟩ := h.at hL
  rw [e] at e'
  simp only [Option.some.injEq, Addr.mk.injEq] at e'
  obtain ⟨rfl, rfl, -⟩ := e'
  obtain ⟨c1, c2⟩ := hc W (Below.refl _ _)
  rw [Nat.zero_mul, Nat.add_zero] at c1 c2
  constructor
  · rintro rfl
    have k1 := hr.blk.cell off
    have k2 := hr.blk.cell (off + 1)
    rw [c1] at k1
    rw [c2] at k2
    match off, k1, k2 with
    | 0, k1, k2 => simp at k2
    | 1, k1, k2 => simp at k1
    | n + 2, k1, k2 => simp at k1
  · intro em
    rcases hr.map with ⟨e', _⟩ | ⟨b', D, e', _, ho, _⟩
    · rw [e'] at em; cases em
    · rw [e'] at em
      cases em
      obtain ⟨es, cl, hes, -⟩ := ho
      unfold World.cell? at c1
      simp [hes] at c1
theorem RS.stay {W W' : World} {ad : Option Addr} {cap : Nat} {L A : List Rg} {B g : Nat} {no : Int} {mb : Option Nat} (h : RS W ad cap L) (hr : RR W B g no mb A) (hs : Rw.Stay (Fg g mb) W W') : RS W' ad cap L := by
  refine ⟨?_, h.le, h.mx, h.nil⟩
  by_cases hL : 0 < L.length
  · rcases h.rd with e | ⟨b, off, e, hb, hc⟩
    · exact .inl e
    · have hap := rs_apart h hr hL e
      have hh : W'.heap[b]? = W.heap[b]? := hs.block b hb (fun hf => by
        rcases hf with hf | hf
        · exact hap.1 hf
        · exact hap.2 hf)
      refine .inr ⟨b, off, e, Nat.lt_of_lt_of_le hb hs.size, fun i hi j u hu => ?_⟩
      rw [World.cell?_of_block (a := ⟨b, off + i * 2 + j, none⟩) hh]
      exact hc i hi j u hu
  · exact .inl (List.eq_nil_of_length_eq_zero (by omega))
/-- A round and a list, both of the call's own. -/
structure St (w W : World) (g : Nat) (no : Int) (mb : Option Nat) (A : List Rg) (ad : Option Addr) (cap : Nat) (L : List Rg) : Prop where
  rr : RR W w.heap.size g no mb A
  rs : RS W ad cap L
  below : Below w.heap.size w W
section
variable {w W W' : World} {g cap : Nat} {no : Int} {mb : Option Nat} {A L A' L' : List Rg} {ad : Option Addr} {er : Int} {e : Ending}
theorem St.later (h : St w W g no mb A ad cap L) (hB : Below W.heap.size W W') : St w W' g no mb A ad cap L := ⟨h.rr.below hB, h.rs.below hB, h.below.trans (hB.mono h.below.size)⟩
theorem St.drew (h : St w W g no mb A ad cap L) : St w W.drew g no mb A ad cap L := h.later (Below.refl _ _).drew
theorem St.noteA (h : St w W g no mb A ad cap L) (hp : NotePost W w.heap.size g no mb A' er e W') : e = .returned (.int .i64 er) ∧ ∃ mb', St w W' g no mb' A' ad cap L := by
  obtain ⟨mb', rfl, hr, hm, hs⟩ := hp
  exact ⟨rfl, mb', hr, h.rs.stay h.rr hs, h.below.trans (hs.below (fun k hk => by
    rcases hk with rfl | hk
    · exact h.rr.ge
    · exact (h.rr.map.lt hk).2) h.below.size)⟩
theorem St.noteL (h : St w W g no mb A ad cap L) (hp : RNotePost L' er W e W') : ∃ ad' cap', e = .returned (.tuple #[.slice ad' L'.length cap', .int .i64 er]) ∧ St w W' g no mb A ad' cap' L' := by
  obtain ⟨ad', cap', rfl, hr, hB⟩ := hp
  have h' := h.later hB
  exact ⟨ad', cap', rfl, h'.rr, hr, h'.below⟩
end
theorem has64 {L : List Rg} (h : Ok L) : hasR L 64 = false := by
  rw [hasR_no]
  intro hm
  obtain ⟨p, hp, e⟩ := List.mem_map.1 hm
  have := h.rng p hp
  omega
end Go.Proofs.Ytcadmepfnafpmaa.Rnd
