/- A head is read, the document's own (layer 9): Get. -/
import Derived.Test.YtanfnhgaooafeaaGreatDoorHedM
import Derived.Test.YtanfnhgaooafeaaGreatDoorBufX
import Derived.Deep.RegionWith
namespace Go.Proofs.YtanfnhgaooafeaaGreatDoor.Hed
open Go.ChangeShapes Go.WideShapes Go.ChangeAt Go.RowKit Go.Deep
open Go.Proofs.YtanfnhgaooafeaaGreatDoor.Byt Go.Proofs.YtanfnhgaooafeaaGreatDoor.Key Go.Proofs.YtanfnhgaooafeaaGreatDoor.Buf Go.Proofs.YtanfnhgaooafeaaGreatDoor.BufM
set_option linter.unusedVariables false
set_option linter.unusedSimpArgs false
abbrev RR3 := Pk × List UInt8 × Nat
def rg5 (k h t f : Nat) (l : List UInt8) : RR3 := if (getF l 4).2.2 ≠ 0 then (zero, [], (getF l 4).2.2) else (hpk k h t f (getF l 4).1, (getF l 4).2.1, 0)
def rg4 (k h t : Nat) (l : List UInt8) : RR3 := if l = [] then (zero, [], 3) else if 63 < (l.getD 0 0).toNat then (zero, [], 8) else rg5 k h t (l.getD 0 0).toNat (l.drop 1)
def rg3 (k h : Nat) (l : List UInt8) : RR3 := if (getN l).2.2 ≠ 0 then (zero, [], (getN l).2.2) else if 1152921504606846976 < (getN l).1 then (zero, [], 2) else rg4 k h (getN l).1 (getN l).2.1
def rg2 (k : Nat) (l : List UInt8) : RR3 := if l.length = 1 then (zero, [], 3) else if okHops ((l.getD 1 0).toNat : Int) = false then (zero, [], 9) else rg3 k (l.getD 1 0).toNat (l.drop 2)
def rg1 (k : Nat) (l : List UInt8) : RR3 := if isKb k = false then (zero, [], 7) else if flo k = false then (hpk k 0 0 0 0, l.drop 1, 0) else rg2 k l
/-- What the document's Get reads: the packet, the rest, the error. -/
def rg (l : List UInt8) : RR3 := if l = [] then (zero, [], 3) else rg1 (l.getD 0 0).toNat l
/-- What it leaves. -/
def RGP (w : World) (G : Nat) (R : RR3) (e : Ending) (w' : World) : Prop :=
  ∃ ad len cap, e = .returned (.tuple #[pval R.1, .slice ad len cap, .int .i64 ((R.2.2 : Nat) : Int)]) ∧ Below w.heap.size w w' ∧ RdS w G ad len cap R.2.1
set_option maxRecDepth 100000 in
/-- b[k:] of bytes. -/
theorem slice_step {W : World} {ops : Array Oper} {rest : List Oper} {o : Oper} {a : Act} {Q : Exit → Act → World → Prop} (hgd : o.guard = none) (x : Operand) (k : Nat)
    (ho : o.op = .slice 25 x (some (.const (.int .i64 (k : Int)))) none none) (ad : Option Addr) (len cap : Nat) (hx : a.eval x = .slice ad len cap) (hk : k ≤ len)
    (h : ∀ ad', Hid (ad' = cutAd ad cap k) → wpList Tryz.prog ops Q rest (a.put o.dst (.slice ad' (len - k) (cap - k))) W) :
    wpList Tryz.prog ops Q (o :: rest) a W := by
  refine wpList_plain hgd fun K hK' => ?_
  have hrun : (Instr.sliceAt 25 (.slice ad len cap) (some (.int .i64 (k : Int))) none none).run Tryz.prog W = .ok (.slice (cutAd ad cap k) (len - k) (cap - k)) W := by
    have he : Tryz.prog.elem 25 = 5 := by kernel_rfl
    have hu : Tryz.prog.underlying 25 = some (.slice (Tryz.prog.elem 25)) := by rw [he]; exact Tryz.underlying25
    rw [run_sliceAt_slice (h := hu), run_slice_l (ht := hu) (kl := .i64) (l := (k : Int)) (h0 := by omega) (h1 := by omega), he]
    go_simp
    rfl
  unfold Oper.wp
  have hc : a.eval (.const (.int .i64 (k : Int))) = .int .i64 (k : Int) := rfl
  simp [execOp, ho, hx, hc, hrun, Result.andThen]
  exact hK' _ _ (h _ (Lib.hid rfl))
theorem rg1_parts (k : Nat) (l : List UInt8) (R : RR3) (hR : rg1 k l = R) : (isKb k = false → R = (zero, [], 7)) ∧ (isKb k = true → flo k = false → R = (hpk k 0 0 0 0, l.drop 1, 0)) ∧ (isKb k = true → flo k = true → rg2 k l = R) := by
  subst hR
  unfold rg1
  exact ⟨fun h => by rw [if_pos h], fun h h2 => by rw [if_neg (by rw [h]; decide), if_pos h2], fun h h2 => by rw [if_neg (by rw [h]; decide), if_neg (by rw [h2]; decide)]⟩
theorem rg2_parts (k : Nat) (l : List UInt8) (R : RR3) (hR : rg2 k l = R) : (l.length = 1 → R = (zero, [], 3)) ∧ (l.length ≠ 1 → okHops ((l.getD 1 0).toNat : Int) = false → R = (zero, [], 9)) ∧ (l.length ≠ 1 → okHops ((l.getD 1 0).toNat : Int) = true → rg3 k (l.getD 1 0).toNat (l.drop 2) = R) := by
  subst hR
  unfold rg2
  exact ⟨fun h => by rw [if_pos h], fun h h2 => by rw [if_neg h, if_pos h2], fun h h2 => by rw [if_neg h, if_neg (by rw [h2]; decide)]⟩
theorem rg3_parts (k h : Nat) (l : List UInt8) (R : RR3) (hR : rg3 k h l = R) : ((getN l).2.2 ≠ 0 → R = (zero, [], (getN l).2.2)) ∧ ((getN l).2.2 = 0 → 1152921504606846976 < (getN l).1 → R = (zero, [], 2)) ∧ ((getN l).2.2 = 0 → ¬ (1152921504606846976 < (getN l).1) → rg4 k h (getN l).1 (getN l).2.1 = R) := by
  subst hR
  unfold rg3
  exact ⟨fun h => by rw [if_pos h], fun h h2 => by rw [if_neg (by omega), if_pos h2], fun h h2 => by rw [if_neg (by omega), if_neg h2]⟩
theorem rg4_parts (k h t : Nat) (l : List UInt8) (R : RR3) (hR : rg4 k h t l = R) : (l = [] → R = (zero, [], 3)) ∧ (l ≠ [] → 63 < (l.getD 0 0).toNat → R = (zero, [], 8)) ∧ (l ≠ [] → ¬ (63 < (l.getD 0 0).toNat) → rg5 k h t (l.getD 0 0).toNat (l.drop 1) = R) := by
  subst hR
  unfold rg4
  exact ⟨fun h => by rw [if_pos h], fun h h2 => by rw [if_neg h, if_pos h2], fun h h2 => by rw [if_neg h, if_neg h2]⟩
theorem rg5_parts (k h t f : Nat) (l : List UInt8) (R : RR3) (hR : rg5 k h t f l = R) : ((getF l 4).2.2 ≠ 0 → R = (zero, [], (getF l 4).2.2)) ∧ ((getF l 4).2.2 = 0 → R = (hpk k h t f (getF l 4).1, (getF l 4).2.1, 0)) := by
  subst hR
  unfold rg5
  exact ⟨fun h => by rw [if_pos h], fun h => by rw [if_neg (by omega)]⟩
/-- The result out of a packet's cell, and two more. -/
theorem results_pk3 {fn : Func} (h : fn.results = #[.cell 2 27, .tmp 3, .tmp 4]) (tmps : Array Value) (w : World) (g : Nat) (cs : Array Value) (v u : Value)
    (hp : tmps.getD 2 undef = .pointer (some ⟨g, 0, none⟩)) (h3 : tmps.getD 3 undef = v) (h4 : tmps.getD 4 undef = u) (hg : Blk w g 27 cs) (hs : cs.size = 12) :
    (results fn tmps).run Tryz.prog w = .ok (.tuple #[.agg cs, v, u]) w := by
  have hp' : tmps[2]?.getD undef = .pointer (some ⟨g, 0, none⟩) := by simpa using hp
  have h3' : tmps[3]?.getD undef = v := by simpa using h3
  have h4' : tmps[4]?.getD undef = u := by simpa using h4
  simp [results, h, hp', h3', h4', asAddr, run_loadVar_row w g 27 _ cs (0, 0) _ hg Tryz.underlying27 rfl (by rw [hs]; exact infoPk)]
theorem blk_same {w : World} {g : Nat} {t : TypeId} {cs : Array Value} (h : Blk w g t cs) (i : Nat) (u : Value) (hi : cs[i]? = some u) : Blk (w.setCell ⟨g, i, none⟩ u) g t cs := by
  have h2 := h.put i u
  have e : cs.setIfInBounds i u = cs := by
    apply Array.ext_getElem?
    intro j
    rw [Array.getElem?_setIfInBounds]
    split
    · subst ‹i = j›
      split
      · exact hi.symm
      · rw [Array.getElem?_eq_none (by omega)]
    · rfl
  rwa [e] at h2
/-- Two boxes of the call's own: the result's, the packet's. -/
structure QS (w : World) (pp : Nat) (ds : Array Value) (W : World) : Prop where
  b1 : Blk W w.heap.size 27 (hcs 0 0 0 0 0)
  b2 : Blk W pp 27 ds
  lt : w.heap.size < pp
  below : Below w.heap.size w W
theorem QS.put {w W : World} {pp : Nat} {ds : Array Value} (h : QS w pp ds W) (i : Nat) (u : Value) : QS w pp (ds.setIfInBounds i u) (W.setCell ⟨pp, i, none⟩ u) :=
  ⟨h.b1.far (p := ⟨pp, i, none⟩) (by have := h.lt; simp only; omega) u, h.b2.put i u, h.lt, h.below.setCell (p := ⟨pp, i, none⟩) (Nat.le_of_lt h.lt) _⟩
theorem QS.drewN {w W : World} {pp : Nat} {ds : Array Value} (h : QS w pp ds W) (n : Nat) : QS w pp ds (W.drewN n) :=
  ⟨h.b1.drewN n, h.b2.drewN n, h.lt, Own.below_drewN h.below n⟩
theorem QS.load {w W : World} {pp : Nat} {k t f q h : Int} (hg : QS w pp (hcs k t f q h) W) :
    W.cell? ⟨pp, 0, none⟩ = some (.int .i64 k) ∧ W.cell? ⟨pp, 1, none⟩ = some (.int .i64 t) ∧ W.cell? ⟨pp, 2, none⟩ = some (.int .i64 f) ∧ W.cell? ⟨pp, 3, none⟩ = some (.int .u32 q) ∧ W.cell? ⟨pp, 4, none⟩ = some (.int .i64 h) ∧
    W.frozen? ⟨pp, 1, none⟩ = false ∧ W.frozen? ⟨pp, 2, none⟩ = false ∧ W.frozen? ⟨pp, 3, none⟩ = false ∧ W.frozen? ⟨pp, 4, none⟩ = false :=
  ⟨hg.b2.cell 0, hg.b2.cell 1, hg.b2.cell 2, hg.b2.cell 3, hg.b2.cell 4, hg.b2.free 1, hg.b2.free 2, hg.b2.free 3, hg.b2.free 4⟩
/-- The packet of a kind alone is stored over the result's cells. -/
theorem QS.put12 {w W : World} {pp : Nat} {k : Int} (h : QS w pp (hcs k 0 0 0 0) W) :
    Blk ((((((((((((W.setCell ⟨w.heap.size, 0, none⟩ (.int .i64 k)).setCell ⟨w.heap.size, 1, none⟩ (.int .i64 0)).setCell ⟨w.heap.size, 2, none⟩ (.int .i64 0)).setCell ⟨w.heap.size, 3, none⟩ (.int .u32 0)).setCell ⟨w.heap.size, 4, none⟩ (.int .i64 0)).setCell ⟨w.heap.size, 5, none⟩ (.int .i64 0)).setCell ⟨w.heap.size, 6, none⟩ (.int .i64 0)).setCell ⟨w.heap.size, 7, none⟩ (.int .i64 0)).setCell ⟨w.heap.size, 8, none⟩ (.int .i64 0)).setCell ⟨w.heap.size, 9, none⟩ (.int .i64 0)).setCell ⟨w.heap.size, 10, none⟩ (.int .i64 0)).setCell ⟨w.heap.size, 11, none⟩ (.slice none 0 0)) w.heap.size 27 (hcs k 0 0 0 0) ∧
    Below w.heap.size w ((((((((((((W.setCell ⟨w.heap.size, 0, none⟩ (.int .i64 k)).setCell ⟨w.heap.size, 1, none⟩ (.int .i64 0)).setCell ⟨w.heap.size, 2, none⟩ (.int .i64 0)).setCell ⟨w.heap.size, 3, none⟩ (.int .u32 0)).setCell ⟨w.heap.size, 4, none⟩ (.int .i64 0)).setCell ⟨w.heap.size, 5, none⟩ (.int .i64 0)).setCell ⟨w.heap.size, 6, none⟩ (.int .i64 0)).setCell ⟨w.heap.size, 7, none⟩ (.int .i64 0)).setCell ⟨w.heap.size, 8, none⟩ (.int .i64 0)).setCell ⟨w.heap.size, 9, none⟩ (.int .i64 0)).setCell ⟨w.heap.size, 10, none⟩ (.int .i64 0)).setCell ⟨w.heap.size, 11, none⟩ (.slice none 0 0)) := by
  have h0 : Blk (W.setCell ⟨w.heap.size, 0, none⟩ (.int .i64 k)) w.heap.size 27 (hcs k 0 0 0 0) := h.b1.put 0 (.int .i64 k)
  have hb : ∀ (V : World) (i : Nat) (u : Value), Below w.heap.size w V → Below w.heap.size w (V.setCell ⟨w.heap.size, i, none⟩ u) := fun V i u hV => hV.setCell (p := ⟨w.heap.size, i, none⟩) (Nat.le_refl w.heap.size) u
  exact ⟨blk_same (blk_same (blk_same (blk_same (blk_same (blk_same (blk_same (blk_same (blk_same (blk_same (blk_same h0 1 _ rfl) 2 _ rfl) 3 _ rfl) 4 _ rfl) 5 _ rfl) 6 _ rfl) 7 _ rfl) 8 _ rfl) 9 _ rfl) 10 _ rfl) 11 _ rfl,
    hb _ _ _ (hb _ _ _ (hb _ _ _ (hb _ _ _ (hb _ _ _ (hb _ _ _ (hb _ _ _ (hb _ _ _ (hb _ _ _ (hb _ _ _ (hb _ _ _ (hb _ _ _ h.below)))))))))))⟩
theorem QS.all {w W : World} {pp : Nat} {k t f q h : Int} (hg : QS w pp (hcs k t f q h) W) :
    (W.cell? ⟨pp, 0, none⟩ = some (.int .i64 k) ∧ W.cell? ⟨pp, 1, none⟩ = some (.int .i64 t) ∧ W.cell? ⟨pp, 2, none⟩ = some (.int .i64 f) ∧ W.cell? ⟨pp, 3, none⟩ = some (.int .u32 q) ∧ W.cell? ⟨pp, 4, none⟩ = some (.int .i64 h) ∧ W.cell? ⟨pp, 5, none⟩ = some (.int .i64 0) ∧
      W.cell? ⟨pp, 6, none⟩ = some (.int .i64 0) ∧ W.cell? ⟨pp, 7, none⟩ = some (.int .i64 0) ∧ W.cell? ⟨pp, 8, none⟩ = some (.int .i64 0) ∧ W.cell? ⟨pp, 9, none⟩ = some (.int .i64 0) ∧ W.cell? ⟨pp, 10, none⟩ = some (.int .i64 0) ∧ W.cell? ⟨pp, 11, none⟩ = some (.slice none 0 0)) ∧
    (W.cell? ⟨w.heap.size, 0, none⟩ = some (.int .i64 0) ∧ W.cell? ⟨w.heap.size, 1, none⟩ = some (.int .i64 0) ∧ W.cell? ⟨w.heap.size, 2, none⟩ = some (.int .i64 0) ∧ W.cell? ⟨w.heap.size, 3, none⟩ = some (.int .u32 0) ∧ W.cell? ⟨w.heap.size, 4, none⟩ = some (.int .i64 0) ∧ W.cell? ⟨w.heap.size, 5, none⟩ = some (.int .i64 0) ∧
      W.cell? ⟨w.heap.size, 6, none⟩ = some (.int .i64 0) ∧ W.cell? ⟨w.heap.size, 7, none⟩ = some (.int .i64 0) ∧ W.cell? ⟨w.heap.size, 8, none⟩ = some (.int .i64 0) ∧ W.cell? ⟨w.heap.size, 9, none⟩ = some (.int .i64 0) ∧ W.cell? ⟨w.heap.size, 10, none⟩ = some (.int .i64 0) ∧ W.cell? ⟨w.heap.size, 11, none⟩ = some (.slice none 0 0)) ∧
    W.frozen? ⟨w.heap.size, 0, none⟩ = false ∧ W.frozen? ⟨w.heap.size, 1, none⟩ = false ∧ W.frozen? ⟨w.heap.size, 2, none⟩ = false ∧ W.frozen? ⟨w.heap.size, 3, none⟩ = false ∧ W.frozen? ⟨w.heap.size, 4, none⟩ = false ∧ W.frozen? ⟨w.heap.size, 5, none⟩ = false ∧ W.frozen? ⟨w.heap.size, 6, none⟩ = false ∧ W.frozen? ⟨w.heap.size, 7, none⟩ = false ∧ W.frozen? ⟨w.heap.size, 8, none⟩ = false ∧ W.frozen? ⟨w.heap.size, 9, none⟩ = false ∧ W.frozen? ⟨w.heap.size, 10, none⟩ = false ∧ W.frozen? ⟨w.heap.size, 11, none⟩ = false :=
  ⟨⟨hg.b2.cell 0, hg.b2.cell 1, hg.b2.cell 2, hg.b2.cell 3, hg.b2.cell 4, hg.b2.cell 5, hg.b2.cell 6, hg.b2.cell 7, hg.b2.cell 8, hg.b2.cell 9, hg.b2.cell 10, hg.b2.cell 11⟩, ⟨hg.b1.cell 0, hg.b1.cell 1, hg.b1.cell 2, hg.b1.cell 3, hg.b1.cell 4, hg.b1.cell 5, hg.b1.cell 6, hg.b1.cell 7, hg.b1.cell 8, hg.b1.cell 9, hg.b1.cell 10, hg.b1.cell 11⟩, hg.b1.free 0, hg.b1.free 1, hg.b1.free 2, hg.b1.free 3, hg.b1.free 4, hg.b1.free 5, hg.b1.free 6, hg.b1.free 7, hg.b1.free 8, hg.b1.free 9, hg.b1.free 10, hg.b1.free 11⟩
end Go.Proofs.YtanfnhgaooafeaaGreatDoor.Hed
