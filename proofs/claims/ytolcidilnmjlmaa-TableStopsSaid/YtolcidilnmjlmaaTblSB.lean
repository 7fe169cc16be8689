/- The table and the reference's table, side by side (layer 7). -/
import Derived.Test.YtolcidilnmjlmaaTblZB
import Derived.Test.YtolcidilnmjlmaaTblK
import Derived.Test.YtolcidilnmjlmaaKeyO
namespace Go.Proofs.Ytolcidilnmjlmaa.TblL
open Go.ChangeShapes Go.WideShapes Go.ChangeAt Go.RowKit Go.Sort
open Go.Proofs.Ytolcidilnmjlmaa.Key Go.Proofs.Ytolcidilnmjlmaa.Rw Go.Proofs.Ytolcidilnmjlmaa.Tbl
open Go.Proofs.Ytolcidilnmjlmaa.TblR (encW encW_len RdR OwnR tval at4 rput_any PutPost own_ge)
set_option linter.unusedVariables false
set_option linter.unusedSimpArgs false
theorem rdR_same {w w' : World} {ad : Option Addr} {l : List Row} (h : RdR w ad l) (hs : w.heap.size ≤ w'.heap.size) (hb : ∀ x, ad = some x → w'.heap[x.block]? = w.heap[x.block]?) : RdR w' ad l := by
  rcases h with rfl | ⟨b, off, e, hb', hc⟩
  · exact .inl rfl
  · refine .inr ⟨b, off, e, Nat.lt_of_lt_of_le hb' hs, fun i hi j u hu => ?_⟩
    rw [← hc i hi j u hu]
    have := hb _ e
    simp only at this
    unfold World.cell?
    rw [this]
/-- The table has the rows d, the reference's table (in box e) the rows l. -/
structure PairF (B : World) (g : Nat) (most : Int) (d l : List Row) (ad : Option Addr) (cap e : Nat) (W : World) (F : Nat → Prop) : Prop where
  tab : TabL W g most d F
  bound : ∀ j, F j → B.heap.size ≤ j ∧ j < W.heap.size
  made : Below B.heap.size B W
  rd : RdR W ad l
  cap1 : l.length ≤ cap
  cap2 : cap ≤ 9223372036854775807
  shape : (ad = none ∧ cap = 0) ∨ ∃ b off, ad = some ⟨b, off, none⟩
  off : ∀ x, ad = some x → x.block < W.heap.size ∧ ¬ F x.block ∧ x.block ≠ e
  box : Blk W e 27 #[.slice ad l.length cap, .int .i64 most]
  offE : ¬ F e
  baseE : B.heap.size ≤ e
def PairS (B : World) (g : Nat) (most : Int) (d l : List Row) (ad : Option Addr) (cap e : Nat) (W : World) : Prop := ∃ F, PairF B g most d l ad cap e W F
section
variable {B W W' : World} {g cap e : Nat} {most : Int} {d l : List Row} {ad : Option Addr}
theorem PairS.made (h : PairS B g most d l ad cap e W) : Below B.heap.size B W := by obtain ⟨F, h⟩ := h; exact h.made
theorem PairS.below (h : PairS B g most d l ad cap e W) (hB : Below W.heap.size W W') : PairS B g most d l ad cap e W' := by
  obtain ⟨F, h⟩ := h
  have hs := hB.size
  exact ⟨F, h.tab.below hB, fun j hj => by have := h.bound j hj; omega, h.made.trans (hB.mono h.made.size), h.rd.below hB, h.cap1, h.cap2, h.shape, fun x e => by have := h.off x e; exact ⟨by omega, this.2⟩, h.box.below hB, h.offE, h.baseE⟩
theorem PairF.post {F : Nat → Prop} {d' : List Row} (h : PairF B g most d l ad cap e W F) (hp : TabPost g most d' F W W') : PairS B g most d' l ad cap e W' := by
  obtain ⟨p1, p2⟩ := hp
  have hs := p2.size
  have hs3 := h.made.size
  have hE := h.box.lt
  refine ⟨_, p1, fun j hj => ?_, h.made.trans (p2.below (fun j hj => (h.bound j hj).1) hs3), rdR_same h.rd hs (fun x e => p2.block _ (h.off x e).1 (h.off x e).2.1), h.cap1, h.cap2, h.shape, fun x e => ?_, h.box.stay p2 h.offE, fun hj => ?_, h.baseE⟩
  · rcases hj with hj | ⟨hj1, hj2⟩
    · have := h.bound j hj; omega
    · omega
  · have := h.off x e
    refine ⟨by omega, fun hj => ?_, this.2.2⟩
    rcases hj with hj | ⟨hj1, hj2⟩
    · exact this.2.1 hj
    · omega
  · rcases hj with hj | ⟨hj1, hj2⟩
    · exact h.offE hj
    · omega
theorem PairS.put (h : PairS B g most d l ad cap e W) (k : Ky) (v : Int) (hk : ok k) (hd : d.length ≤ 255) (hm : 0 ≤ most ∧ most ≤ 65536) :
    Calls Try.prog 12 #[.pointer (some ⟨g, 0, none⟩), kval k, .int .i64 v] W fun x w' => x = .returned (.int .i64 (putE most d k)) ∧ PairS B g most (putD most d k v) l ad cap e w' := by
  obtain ⟨F, h⟩ := h
  exact (put_any k v hk g most d F W h.tab hm hd).mono fun x w' hh => ⟨hh.1, h.post hh.2⟩
theorem PairS.del (h : PairS B g most d l ad cap e W) (k : Ky) (hk : ok k) (hd : d.length ≤ 255) :
    Calls Try.prog 20 #[.pointer (some ⟨g, 0, none⟩), kval k] W fun x w' => x = .returned (.bool (lookR d k).isSome) ∧ PairS B g most (delD d k) l ad cap e w' := by
  obtain ⟨F, h⟩ := h
  exact (del_any k hk g most d F W h.tab (by omega)).mono fun x w' hh => ⟨hh.1, h.post hh.2.post⟩
theorem PairS.pop (h : PairS B g most d l ad cap e W) (hd : d.length ≤ 255) :
    Calls Try.prog 14 #[.pointer (some ⟨g, 0, none⟩)] W fun x w' => x = .returned (.tuple #[kval (minK d), .int .i64 (minV d), .bool (some1 d)]) ∧ PairS B g most d.tail l ad cap e w' := by
  obtain ⟨F, h⟩ := h
  exact (pop_any g most d F W h.tab (fun j hj => (h.bound j hj).2) (by omega)).mono fun x w' hh => ⟨hh.1, h.post hh.2.post⟩
theorem PairS.clear (h : PairS B g most d l ad cap e W) :
    Calls Try.prog 17 #[.pointer (some ⟨g, 0, none⟩)] W fun x w' => x = .returned (.tuple #[]) ∧ PairS B g most [] l ad cap e w' := by
  obtain ⟨F, h⟩ := h
  exact (clear_any g most d F W h.tab).mono fun x w' hh => ⟨hh.1, h.post hh.2.post⟩
/-- A list that takes the other's place, stored into its box. -/
theorem PairS.store (h : PairS B g most d l ad cap e W) {l' : List Row} {ad' : Option Addr} {cap' : Nat} {W1 : World} (hB : Below W.heap.size W W1)
    (hh : (ad' = ad ∧ cap' = cap ∧ l' = l) ∨ OwnR W1 W.heap.size (.slice ad' l'.length cap') l') :
    PairS B g most d l' ad' cap' e ((W1.setCell ⟨e, 0, none⟩ (.slice ad' l'.length cap')).setCell ⟨e, 1, none⟩ (.int .i64 most)) := by
  have h1 := h.below hB
  obtain ⟨F, h⟩ := h
  have hs := hB.size
  have hE := h.box.lt
  have bE : Blk W1 e 27 #[.slice ad l.length cap, .int .i64 most] := h.box.below hB
  have hS : Below e W1 ((W1.setCell ⟨e, 0, none⟩ (.slice ad' l'.length cap')).setCell ⟨e, 1, none⟩ (.int .i64 most)) := ((Below.refl _ _).setCell (p := ⟨e, 0, none⟩) (Nat.le_refl _) _).setCell (p := ⟨e, 1, none⟩) (Nat.le_refl _) _
  have hblk : ∀ k, k ≠ e → ((W1.setCell ⟨e, 0, none⟩ (.slice ad' l'.length cap')).setCell ⟨e, 1, none⟩ (.int .i64 most)).heap[k]? = W1.heap[k]? := fun k hk => by
    rw [Below.heap_setCell _ _ _ _ (by exact hk), Below.heap_setCell _ _ _ _ (by exact hk)]
  have hfacts : RdR W1 ad' l' ∧ l'.length ≤ cap' ∧ cap' ≤ 9223372036854775807 ∧ ((ad' = none ∧ cap' = 0) ∨ ∃ b off, ad' = some ⟨b, off, none⟩) ∧ ∀ x, ad' = some x → x.block < W1.heap.size ∧ ¬ F x.block ∧ x.block ≠ e := by
    rcases hh with ⟨rfl, rfl, rfl⟩ | ho
    · exact ⟨h.rd.below hB, h.cap1, h.cap2, h.shape, fun x e => by have := h.off x e; exact ⟨by omega, this.2⟩⟩
    · have hp := ho.pos
      have hp2 := hp.2.1
      unfold maxLen at hp2
      refine ⟨(ho.rd encW_len).1, hp.1, by omega, ?_, fun x e1 => ?_⟩
      · have ho' := ho
        rcases ho'.2 with ⟨hv, -⟩ | ⟨g', c', cur, hv, hb, hg, -⟩
        · simp only [Value.slice.injEq] at hv
          exact .inl ⟨hv.1, hv.2.2⟩
        · simp only [Value.slice.injEq] at hv
          exact .inr ⟨_, _, hv.1⟩
      · subst e1
        have ho' := ho
        rcases ho'.2 with ⟨hv, -⟩ | ⟨g', c', cur, hv, hb, hg, -⟩
        · cases hv
        · simp only [Value.slice.injEq, Option.some.injEq] at hv
          obtain ⟨rfl, -, -⟩ := hv
          exact ⟨(Array.getElem?_eq_some_iff.1 hg).1, fun e2 => by have := h.bound _ e2; simp only at this; omega, by simp only; omega⟩
  obtain ⟨f1, f2, f3, f4, f5⟩ := hfacts
  refine ⟨F, (h.tab.below hB).kept hS.size (fun k hk _ => hblk k (fun e1 => h.offE (e1 ▸ hk))), fun j hj => by have := h.bound j hj; have := hS.size; omega, (h.made.trans (hB.mono h.made.size)).trans (hS.mono h.baseE), rdR_same f1 hS.size (fun x e1 => hblk _ (f5 x e1).2.2), f2, f3, f4, fun x e1 => by have h6 := f5 x e1; have := hS.size; exact ⟨by omega, h6.2⟩, (bE.put 0 _).put 1 _, h.offE, h.baseE⟩
theorem PairS.rput (h : PairS B g most d l ad cap e W) (k : Ky) (v : Int) (hl : l.length ≤ 255) (hlm : (l.length : Int) ≤ most) :
    Calls Try.prog 15 #[tval ad l.length cap most, kval k, .int .i64 v] W fun x w' => ∃ ad' cap', x = .returned (.tuple #[tval ad' (putD most l k v).length cap' most, .int .i64 (putE most l k)]) ∧ Below W.heap.size W w' ∧
      ∀ w3, Below w'.heap.size w' w3 → PairS B g most d (putD most l k v) ad' cap' e ((w3.setCell ⟨e, 0, none⟩ (.slice ad' (putD most l k v).length cap')).setCell ⟨e, 1, none⟩ (.int .i64 most)) := by
  have h0 := h
  obtain ⟨F, h⟩ := h
  refine (rput_any ad cap most l k v W (by omega) h.rd h.cap1 h.cap2 h.shape hlm).mono fun x w' hh => ?_
  obtain ⟨ad', cap', hx, hB, hh⟩ := hh
  refine ⟨ad', cap', hx, hB, fun w3 hB3 => h0.store (hB.trans (hB3.mono hB.size)) ?_⟩
  rcases hh with hh | ho
  · exact .inl hh
  · exact .inr (ho.below hB3)
theorem PairS.cells (h : PairS B g most d l ad cap e W) : W.cell? ⟨e, 0, none⟩ = some (.slice ad l.length cap) ∧ W.cell? ⟨e, 1, none⟩ = some (.int .i64 most) ∧ W.frozen? ⟨e, 0, none⟩ = false ∧ W.frozen? ⟨e, 1, none⟩ = false := by
  obtain ⟨F, h⟩ := h
  exact ⟨h.box.cell 0, h.box.cell 1, h.box.free 0, h.box.free 1⟩
theorem PairS.tabs (h : PairS B g most d l ad cap e W) : (∃ F, TabL W g most d F) ∧ RdR W ad l := by
  obtain ⟨F, h⟩ := h
  exact ⟨⟨F, h.tab⟩, h.rd⟩
/-- Both begin. -/
theorem PairS.new {w w1 w2 W : World} {F : Nat → Prop} (hT : TabL w1 g most [] F) (hF : ∀ j, F j → w.heap.size ≤ j ∧ j < w1.heap.size) (h1 : Below w.heap.size w w1) (h2 : Below w1.heap.size w1 w2) (hW : W = w2.alloc (.cells #[.slice none 0 0, .int .i64 most] 27)) :
    PairS w g most [] [] none 0 w2.heap.size W := by
  have hs := h2.size
  have hB : Below w1.heap.size w1 W := by rw [hW]; exact h2.alloc hs _
  have hsW : W.heap.size = w2.heap.size + 1 := by rw [hW, World.size_alloc]
  refine ⟨F, hT.below hB, fun j hj => by have := hF j hj; omega, h1.trans (hB.mono h1.size), .inl rfl, Nat.le_refl _, by omega, .inl ⟨rfl, rfl⟩, (fun x e => by cases e), ?_, fun e => by have := hF _ e; omega, by have := h1.size; omega⟩
  rw [hW]
  exact Blk.new w2 _ _
end
end Go.Proofs.Ytolcidilnmjlmaa.TblL
