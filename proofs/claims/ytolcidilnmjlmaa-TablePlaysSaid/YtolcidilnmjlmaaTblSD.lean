/- Both tables while one call goes on (layer 7): the table's rows, the list handed in, the list to be handed out, and what is private to the call. -/
import Derived.Test.YtolcidilnmjlmaaTblSB
import Derived.Test.YtolcidilnmjlmaaTblX
import Derived.Test.YtolcidilnmjlmaaTblP
namespace Go.Proofs.Ytolcidilnmjlmaa.TblL
open Go.ChangeShapes Go.WideShapes Go.ChangeAt Go.RowKit Go.Sort
open Go.Proofs.Ytolcidilnmjlmaa.Key Go.Proofs.Ytolcidilnmjlmaa.Rw Go.Proofs.Ytolcidilnmjlmaa.Tbl
open Go.Proofs.Ytolcidilnmjlmaa.TblR (encW encW_len RdR OwnR tval at4 rput_any PutPost NewR rdel_any rdrop_any rat_any atR)
set_option linter.unusedVariables false
set_option linter.unusedSimpArgs false
/-- What stays as it is while a call goes on: where the table lies, the list that was handed in, its box, the blocks of the call's own from lo to hi. -/
structure Cx where
  B : World
  g : Nat
  most : Int
  l : List Row
  ad : Option Addr
  cap : Nat
  e : Nat
  lo : Nat
  hi : Nat
/-- A list that may take the other's place. -/
structure LstF (F : Nat → Prop) (e lo hi : Nat) (W : World) (l : List Row) (ad : Option Addr) (cap : Nat) : Prop where
  rd : RdR W ad l
  cap1 : l.length ≤ cap
  cap2 : cap ≤ 9223372036854775807
  shape : (ad = none ∧ cap = 0) ∨ ∃ b off, ad = some ⟨b, off, none⟩
  off : ∀ x, ad = some x → x.block < W.heap.size ∧ ¬ F x.block ∧ x.block ≠ e ∧ ¬ (lo ≤ x.block ∧ x.block < hi)
structure TwoF (c : Cx) (d l' : List Row) (ad' : Option Addr) (cap' : Nat) (W : World) (F : Nat → Prop) : Prop where
  pair : PairF c.B c.g c.most d c.l c.ad c.cap c.e W F
  lst : LstF F c.e c.lo c.hi W l' ad' cap'
  own : ∀ j, c.lo ≤ j → j < c.hi → ¬ F j ∧ j ≠ c.e
  adOff : ∀ x, c.ad = some x → ¬ (c.lo ≤ x.block ∧ x.block < c.hi)
  hiW : c.hi ≤ W.heap.size
  loB : c.B.heap.size ≤ c.lo
def Two (c : Cx) (d l' : List Row) (ad' : Option Addr) (cap' : Nat) (W : World) : Prop := ∃ F, TwoF c d l' ad' cap' W F
section
variable {c : Cx} {d l' : List Row} {ad' : Option Addr} {cap' : Nat} {W W' : World} {F : Nat → Prop}
theorem PairF.below {B : World} {g cap e : Nat} {most : Int} {l : List Row} {ad : Option Addr} (h : PairF B g most d l ad cap e W F) (hB : Below W.heap.size W W') : PairF B g most d l ad cap e W' F := by
  have hs := hB.size
  exact ⟨h.tab.below hB, fun j hj => by have := h.bound j hj; omega, h.made.trans (hB.mono h.made.size), h.rd.below hB, h.cap1, h.cap2, h.shape, fun x e => by have := h.off x e; exact ⟨by omega, this.2⟩, h.box.below hB, h.offE, h.baseE⟩
theorem LstF.of {B : World} {g cap e lo hi : Nat} {most : Int} {l : List Row} {ad : Option Addr} (h : PairF B g most d l ad cap e W F) (hp : ∀ x, ad = some x → ¬ (lo ≤ x.block ∧ x.block < hi)) : LstF F e lo hi W l ad cap :=
  ⟨h.rd, h.cap1, h.cap2, h.shape, fun x e => ⟨(h.off x e).1, (h.off x e).2.1, (h.off x e).2.2, hp x e⟩⟩
theorem LstF.below {e lo hi cap : Nat} {l : List Row} {ad : Option Addr} (h : LstF F e lo hi W l ad cap) (hB : Below W.heap.size W W') : LstF F e lo hi W' l ad cap := by
  have hs := hB.size
  exact ⟨h.rd.below hB, h.cap1, h.cap2, h.shape, fun x e => by have := h.off x e; exact ⟨by omega, this.2⟩⟩
theorem TwoF.below (h : TwoF c d l' ad' cap' W F) (hB : Below W.heap.size W W') : TwoF c d l' ad' cap' W' F :=
  ⟨h.pair.below hB, h.lst.below hB, h.own, h.adOff, Nat.le_trans h.hiW hB.size, h.loB⟩
theorem Two.below (h : Two c d l' ad' cap' W) (hB : Below W.heap.size W W') : Two c d l' ad' cap' W' := by
  obtain ⟨F, h⟩ := h; exact ⟨F, h.below hB⟩
/-- Both begin a call. -/
theorem Two.start {B w W : World} {g cap e hi : Nat} {most : Int} {d : List Row} {ad : Option Addr} (h : PairS B g most d d ad cap e w) (hB : Below w.heap.size w W) (hhi : hi ≤ W.heap.size) : Two ⟨B, g, most, d, ad, cap, e, w.heap.size, hi⟩ d d ad cap W := by
  obtain ⟨F, h⟩ := h
  have ho : ∀ x, ad = some x → ¬ (w.heap.size ≤ x.block ∧ x.block < hi) := fun x e => by have := (h.off x e).1; omega
  have h2 := h.below hB
  refine ⟨F, h2, LstF.of h2 ho, fun j h1 h3 => ⟨fun hj => ?_, fun e1 => ?_⟩, ho, hhi, h.made.size⟩
  · have := (h.bound j hj).2; simp only at h1; omega
  · have := h.box.lt; simp only at h1 e1; omega
/-- A cell of the call's own is written. -/
theorem Two.set (h : Two c d l' ad' cap' W) {p : Addr} (h1 : c.lo ≤ p.block) (h2 : p.block < c.hi) (u : Value) : Two c d l' ad' cap' (W.setCell p u) := by
  obtain ⟨F, h⟩ := h
  obtain ⟨hp, hl, ho, ha, hh, hb⟩ := h
  have hS : Below p.block W (W.setCell p u) := (Below.refl _ _).setCell (Nat.le_refl _) _
  have hblk : ∀ k, k ≠ p.block → (W.setCell p u).heap[k]? = W.heap[k]? := fun k hk => Below.heap_setCell _ _ _ _ hk
  have hs := hS.size
  have ho1 := ho _ h1 h2
  refine ⟨F, ⟨hp.tab.kept hs (fun k hF hk => hblk k (fun e => ho1.1 (e ▸ hF))), fun j hj => by have := hp.bound j hj; omega, hp.made.trans (hS.mono (by omega)), rdR_same hp.rd hs (fun x e => hblk _ (fun e1 => ha x e ⟨by omega, by omega⟩)), hp.cap1, hp.cap2, hp.shape, fun x e => by have := hp.off x e; exact ⟨by omega, this.2⟩, hp.box.far (fun e => ho1.2 e.symm) _, hp.offE, hp.baseE⟩, ⟨rdR_same hl.rd hs (fun x e => hblk _ (fun e1 => (hl.off x e).2.2.2 ⟨by omega, by omega⟩)), hl.cap1, hl.cap2, hl.shape, fun x e => by have := hl.off x e; exact ⟨by omega, this.2⟩⟩, ho, ha, by omega, hb⟩
/-- The table's call: its rows are others, what is private stays. -/
theorem TwoF.post (h : TwoF c d l' ad' cap' W F) {d' : List Row} (hp : TabPost c.g c.most d' F W W') : Two c d' l' ad' cap' W' := by
  obtain ⟨hq, hl, ho, ha, hh, hb⟩ := h
  obtain ⟨p1, p2⟩ := hp
  have hs := p2.size
  have hs3 := hq.made.size
  have hE := hq.box.lt
  have hx : ∀ b, b < W.heap.size → ¬ F b → ¬ Ext F W W' b := fun b h1 h2 h3 => h3.elim h2 (fun h4 => by omega)
  refine ⟨_, ⟨p1, fun j hj => ?_, hq.made.trans (p2.below (fun j hj => (hq.bound j hj).1) hs3), rdR_same hq.rd hs (fun x e => p2.block _ (hq.off x e).1 (hq.off x e).2.1), hq.cap1, hq.cap2, hq.shape, fun x e => ⟨by have := (hq.off x e).1; omega, hx _ (hq.off x e).1 (hq.off x e).2.1, (hq.off x e).2.2⟩, hq.box.stay p2 hq.offE, hx _ hE hq.offE, hq.baseE⟩,
    ⟨rdR_same hl.rd hs (fun x e => p2.block _ (hl.off x e).1 (hl.off x e).2.1), hl.cap1, hl.cap2, hl.shape, fun x e => ⟨by have := (hl.off x e).1; omega, hx _ (hl.off x e).1 (hl.off x e).2.1, (hl.off x e).2.2⟩⟩, fun j h1 h2 => ⟨hx _ (by omega) (ho j h1 h2).1, (ho j h1 h2).2⟩, ha, by omega, hb⟩
  rcases hj with hj | ⟨hj1, hj2⟩
  · have := hq.bound j hj; omega
  · omega
/-- A list that the reference hands out. -/
theorem TwoF.fresh (h : TwoF c d l' ad' cap' W F) (hB : Below W.heap.size W W') {l2 : List Row} {ad2 : Option Addr} {cap2 : Nat} (ho : OwnR W' W.heap.size (.slice ad2 l2.length cap2) l2) : TwoF c d l2 ad2 cap2 W' F := by
  have h2 := h.below hB
  obtain ⟨hq, hl, hn, ha, hh, hb⟩ := h2
  have hE := h.pair.box.lt
  have hhi := h.hiW
  refine ⟨hq, ?_, hn, ha, hh, hb⟩
  have hp := ho.pos
  have hp2 := hp.2.1
  unfold maxLen at hp2
  have hS : (ad2 = none ∧ cap2 = 0) ∨ ∃ b off, ad2 = some ⟨b, off, none⟩ ∧ W.heap.size ≤ b ∧ b < W'.heap.size := by
    have ho' := ho
    rcases ho'.2 with ⟨hv, -⟩ | ⟨g', c', cur, hv, hb', hg, -⟩
    · simp only [Value.slice.injEq] at hv
      exact .inl ⟨hv.1, hv.2.2⟩
    · simp only [Value.slice.injEq] at hv
      exact .inr ⟨_, _, hv.1, hb', (Array.getElem?_eq_some_iff.1 hg).1⟩
  refine ⟨(ho.rd encW_len).1, hp.1, by omega, ?_, fun x e1 => ?_⟩
  · rcases hS with h1 | ⟨b, off, h1, -⟩
    · exact .inl h1
    · exact .inr ⟨b, off, h1⟩
  · rcases hS with h1 | ⟨b, off, h1, h3, h4⟩
    · rw [h1.1] at e1; cases e1
    · rw [h1] at e1
      cases e1
      refine ⟨h4, fun e2 => ?_, ?_, ?_⟩
      · have := (h.pair.bound _ e2).2; simp only at this; omega
      · simp only; omega
      · simp only; omega
/-- No rows at all. -/
theorem Two.nilRows (h : Two c d l' ad' cap' W) : Two c d [] none 0 W := by
  obtain ⟨F, hq, hl, hn, ha, hh, hb⟩ := h
  exact ⟨F, hq, ⟨.inl rfl, Nat.le_refl _, by omega, .inl ⟨rfl, rfl⟩, fun x e => by cases e⟩, hn, ha, hh, hb⟩
/-- The list takes the other's place in its box. -/
theorem Two.store (h : Two c d l' ad' cap' W) {W1 : World} (hB : Below W.heap.size W W1) :
    PairS c.B c.g c.most d l' ad' cap' c.e ((W1.setCell ⟨c.e, 0, none⟩ (.slice ad' l'.length cap')).setCell ⟨c.e, 1, none⟩ (.int .i64 c.most)) := by
  obtain ⟨F, h⟩ := h
  obtain ⟨hq, hl, hn, ha, hh, hb⟩ := h.below hB
  have hS : Below c.e W1 ((W1.setCell ⟨c.e, 0, none⟩ (.slice ad' l'.length cap')).setCell ⟨c.e, 1, none⟩ (.int .i64 c.most)) := ((Below.refl _ _).setCell (p := ⟨c.e, 0, none⟩) (Nat.le_refl _) _).setCell (p := ⟨c.e, 1, none⟩) (Nat.le_refl _) _
  have hblk : ∀ k, k ≠ c.e → ((W1.setCell ⟨c.e, 0, none⟩ (.slice ad' l'.length cap')).setCell ⟨c.e, 1, none⟩ (.int .i64 c.most)).heap[k]? = W1.heap[k]? := fun k hk => by
    rw [Below.heap_setCell _ _ _ _ (by exact hk), Below.heap_setCell _ _ _ _ (by exact hk)]
  have hs := hS.size
  refine ⟨F, hq.tab.kept hs (fun k hF hk => hblk k (fun e1 => hq.offE (e1 ▸ hF))), fun j hj => by have := hq.bound j hj; omega, hq.made.trans (hS.mono hq.baseE), rdR_same hl.rd hs (fun x e1 => hblk _ (hl.off x e1).2.2.1), hl.cap1, hl.cap2, hl.shape, fun x e1 => ⟨by have := (hl.off x e1).1; omega, (hl.off x e1).2.1, (hl.off x e1).2.2.1⟩, (hq.box.put 0 _).put 1 _, hq.offE, hq.baseE⟩
end
end Go.Proofs.Ytolcidilnmjlmaa.TblL
