/- A body of one's own, a packet made (layer 10): own, New; the document's New. -/
import Derived.Test.YtepcbklokcfbfaaDatA
import Derived.Test.YtepcbklokcfbfaaHedE
import Derived.Test.YtepcbklokcfbfaaHedF
import Derived.Test.YtepcbklokcfbfaaHedI
import Derived.Deep.RegionHeldLaw
import Derived.Deep.RegionWith
namespace Go.Proofs.Ytepcbklokcfbfaa.Dat
open Go.ChangeShapes Go.WideShapes Go.ChangeAt Go.RowKit Go.Deep
open Go.Proofs.Ytepcbklokcfbfaa.Byt Go.Proofs.Ytepcbklokcfbfaa.Key Go.Proofs.Ytepcbklokcfbfaa.Buf Go.Proofs.Ytepcbklokcfbfaa.Hed
set_option linter.unusedVariables false
set_option linter.unusedSimpArgs false
section
variable {H : Type} {enc0 : TypeId × Value → H} {w : World}
/-- A key that came in. -/
theorem open_k {r : Reach} {b0 : Nat} {v : Value} {d : DataW H} {pl : List MemPlace} (hv : Value.okWide Try.prog w r b0 24 v) (h : DataW.Trod enc0 Try.prog w 0 (fun _ => true) true 24 v d pl) : ∃ t : Ky, v = kval t ∧ Key.ok t := by
  obtain ⟨cs, rfl, hs⟩ := okWide_struct Try.underlying24 hv
  obtain ⟨n, hn⟩ := h
  obtain ⟨t, ht, hok⟩ := open_kcells hn
  refine ⟨t, ?_, hok⟩
  unfold kval
  congr 1
  exact Array.toList_inj.1 ht
end
/-- Nothing but block g differs. -/
structure Away (g : Nat) (w w' : World) : Prop where
  os : w'.os = w.os
  tape : w'.tape = w.tape
  output : w'.output = w.output
  size : w'.heap.size = w.heap.size
  block : ∀ k, k ≠ g → w'.heap[k]? = w.heap[k]?
theorem Away.refl (g : Nat) (w : World) : Away g w w := ⟨rfl, rfl, rfl, rfl, fun _ _ => rfl⟩
theorem Away.set {g : Nat} {w W : World} (h : Away g w W) (i : Nat) (v : Value) : Away g w (W.setCell ⟨g, i, none⟩ v) := by
  have hB := (Below.refl g W).setCell (p := ⟨g, i, none⟩) (Nat.le_refl g) v
  exact ⟨hB.os.trans h.os, hB.tape.trans h.tape, hB.output.trans h.output, by simp [h.size], fun k hk => (heap_setCell_other _ _ _ _ hk).trans (h.block k hk)⟩
theorem Away.below {g B : Nat} {w w' : World} (h : Away g w w') (hg : B ≤ g) : Below B w w' := ⟨h.os, h.tape, h.output, Nat.le_of_eq h.size.symm, fun k hk => h.block k (by omega)⟩
theorem Away.own {g base : Nat} {w w' : World} {v : Value} {l : List UInt8} (h : Away g w w') (ho : OwnB w base v l) (hg : g < base) : OwnB w' base v l :=
  own_kept ho (Nat.le_of_eq h.size.symm) fun k hk => h.block k (by have := own_at ho hk; omega)
/-- A block's cells may be written. -/
theorem blk_free {W : World} {b : Nat} {t : TypeId} {cs : Array Value} (h : Blk W b t cs) : W.frozen? ⟨b, 0, none⟩ = false ∧ W.frozen? ⟨b, 1, none⟩ = false ∧ W.frozen? ⟨b, 2, none⟩ = false ∧ W.frozen? ⟨b, 3, none⟩ = false ∧ W.frozen? ⟨b, 4, none⟩ = false ∧ W.frozen? ⟨b, 5, none⟩ = false ∧ W.frozen? ⟨b, 6, none⟩ = false ∧ W.frozen? ⟨b, 7, none⟩ = false ∧ W.frozen? ⟨b, 8, none⟩ = false ∧ W.frozen? ⟨b, 9, none⟩ = false ∧ W.frozen? ⟨b, 10, none⟩ = false ∧ W.frozen? ⟨b, 11, none⟩ = false :=
  ⟨h.free 0, h.free 1, h.free 2, h.free 3, h.free 4, h.free 5, h.free 6, h.free 7, h.free 8, h.free 9, h.free 10, h.free 11⟩
/-- Twelve cells written, one after another. -/
theorem row12 {w : World} {g : Nat} {t : TypeId} (p : Pk) (h : Blk w g t p.cells) (v0 v1 v2 v3 v4 v5 v6 v7 v8 v9 v10 v11 : Value) : Blk ((((((((((((w.setCell ⟨g, 0, none⟩ v0).setCell ⟨g, 1, none⟩ v1).setCell ⟨g, 2, none⟩ v2).setCell ⟨g, 3, none⟩ v3).setCell ⟨g, 4, none⟩ v4).setCell ⟨g, 5, none⟩ v5).setCell ⟨g, 6, none⟩ v6).setCell ⟨g, 7, none⟩ v7).setCell ⟨g, 8, none⟩ v8).setCell ⟨g, 9, none⟩ v9).setCell ⟨g, 10, none⟩ v10).setCell ⟨g, 11, none⟩ v11) g t #[v0, v1, v2, v3, v4, v5, v6, v7, v8, v9, v10, v11] ∧ Away g w ((((((((((((w.setCell ⟨g, 0, none⟩ v0).setCell ⟨g, 1, none⟩ v1).setCell ⟨g, 2, none⟩ v2).setCell ⟨g, 3, none⟩ v3).setCell ⟨g, 4, none⟩ v4).setCell ⟨g, 5, none⟩ v5).setCell ⟨g, 6, none⟩ v6).setCell ⟨g, 7, none⟩ v7).setCell ⟨g, 8, none⟩ v8).setCell ⟨g, 9, none⟩ v9).setCell ⟨g, 10, none⟩ v10).setCell ⟨g, 11, none⟩ v11) := by
  refine ⟨?_, ?_⟩
  · unfold Pk.cells at h
    have h := h.put 0 v0
    simp only [List.setIfInBounds_toArray, List.set_cons_zero, List.set_cons_succ] at h
    have h := h.put 1 v1
    simp only [List.setIfInBounds_toArray, List.set_cons_zero, List.set_cons_succ] at h
    have h := h.put 2 v2
    simp only [List.setIfInBounds_toArray, List.set_cons_zero, List.set_cons_succ] at h
    have h := h.put 3 v3
    simp only [List.setIfInBounds_toArray, List.set_cons_zero, List.set_cons_succ] at h
    have h := h.put 4 v4
    simp only [List.setIfInBounds_toArray, List.set_cons_zero, List.set_cons_succ] at h
    have h := h.put 5 v5
    simp only [List.setIfInBounds_toArray, List.set_cons_zero, List.set_cons_succ] at h
    have h := h.put 6 v6
    simp only [List.setIfInBounds_toArray, List.set_cons_zero, List.set_cons_succ] at h
    have h := h.put 7 v7
    simp only [List.setIfInBounds_toArray, List.set_cons_zero, List.set_cons_succ] at h
    have h := h.put 8 v8
    simp only [List.setIfInBounds_toArray, List.set_cons_zero, List.set_cons_succ] at h
    have h := h.put 9 v9
    simp only [List.setIfInBounds_toArray, List.set_cons_zero, List.set_cons_succ] at h
    have h := h.put 10 v10
    simp only [List.setIfInBounds_toArray, List.set_cons_zero, List.set_cons_succ] at h
    have h := h.put 11 v11
    simp only [List.setIfInBounds_toArray, List.set_cons_zero, List.set_cons_succ] at h
    exact h
  · have h := Away.refl g w
    have h := h.set 0 v0
    have h := h.set 1 v1
    have h := h.set 2 v2
    have h := h.set 3 v3
    have h := h.set 4 v4
    have h := h.set 5 v5
    have h := h.set 6 v6
    have h := h.set 7 v7
    have h := h.set 8 v8
    have h := h.set 9 v9
    have h := h.set 10 v10
    have h := h.set 11 v11
    exact h
/-- The result out of a packet's cell. -/
theorem results_pk1 {fn : Func} {i : Nat} (h : fn.results = #[.cell i 27]) (tmps : Array Value) (w : World) (g : Nat) (cs : Array Value)
    (hp : tmps.getD i undef = .pointer (some ⟨g, 0, none⟩)) (hg : Blk w g 27 cs) (hs : cs.size = 12) :
    (results fn tmps).run Try.prog w = .ok (.agg cs) w := by
  have hp' : tmps[i]?.getD undef = .pointer (some ⟨g, 0, none⟩) := by simpa using hp
  simp [results, h, hp', asAddr, run_loadVar_row w g 27 _ cs (0, 0) _ hg Try.underlying27 rfl (by rw [hs]; exact infoPk)]
/-- Two boxes that the call laid. -/
theorem boxes_tt (w w0 : World) (c d : Array Value) (t t' : TypeId) (h : w0 = (w.alloc (.cells c t)).alloc (.cells d t')) :
    Below w.heap.size w w0 ∧ Blk w0 w.heap.size t c ∧ Blk w0 (w.heap.size + 1) t' d := by
  subst h
  refine ⟨((Below.refl _ _).alloc (Nat.le_refl _) _).alloc (by simp) _, (Blk.new w _ _).alloc _, ?_⟩
  have := Blk.new (w.alloc (.cells c t)) t' d
  rw [World.size_alloc] at this
  exact this
/-- A packet of kind data. -/
def mk4 (k : Ky) (h : Int) (ad : Option Addr) (cap : Nat) (body : List UInt8) : Pk := ⟨4, k, h, 0, 0, 0, 0, 0, 0, ad, cap, body⟩
end Go.Proofs.Ytepcbklokcfbfaa.Dat
