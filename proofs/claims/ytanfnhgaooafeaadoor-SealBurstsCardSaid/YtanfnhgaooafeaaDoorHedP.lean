/- A head is read, the document's own (layer 9): Get. -/
import Derived.Test.YtanfnhgaooafeaaDoorHedM
import Derived.Test.YtanfnhgaooafeaaDoorBufX
import Derived.Deep.RegionWith
namespace Go.Proofs.YtanfnhgaooafeaaDoor.Hed
open Go.ChangeShapes Go.WideShapes Go.ChangeAt Go.RowKit Go.Deep
open Go.Proofs.YtanfnhgaooafeaaDoor.Byt Go.Proofs.YtanfnhgaooafeaaDoor.Key Go.Proofs.YtanfnhgaooafeaaDoor.Buf Go.Proofs.YtanfnhgaooafeaaDoor.BufM
set_option linter.unusedVariables false
set_option linter.unusedSimpArgs false
abbrev RR3 := Pk × List UInt8 × Nat
def rg5 (k h t f : Nat) (l : List UInt8) : RR3 := if (getF l 4).2.2 ≠ 0 then (zero, [], (getF l 4).2.2) else (hpk k h t f (getF l 4).1, (getF l 4).2.1, 0)
def rg4 (k h t : Nat) (l : List UInt8) : RR3 := if l = [] then (zero, [], 3) else if 63 < (l.getD 0 0).toNat then (zero, [], 8) else rg5 k h t (l.getD 0 0).toNat (l.drop 1)
def rg3 (k h : Nat) (l : List UInt8) : RR3 := if (getN l).2.2 ≠ 0 then (zero, [], (getN l).2.2) else if 1152921504606846976 < (getN l).1 then (zero, [], 2) else rg4 k h (getN l).1 (getN l).2.1
def rg2 (k : Nat) (l : List UInt8) : RR3 := if l.length = 1 then (zero, [], 3) else if okHops ((l.getD 1 0).toNat : Int) = false then (zero, [], 9) else rg3 k (l.getD 1 0).toNat (l.drop 2)
def rg1 (k : Nat) (l : List UInt8) : RR3 := if isKb k = false then (zero, [], 7) else if flo k = false then (hpk k 0 0 0 0, l.drop 1, 0) else rg2 k l
/-- What the document's Get reads: the packet, the rest, the error. -/
def rg (l : List UInt8) : RR3 := if l = [] then (zero, [], 3) else rg1 (l.getD 0 0).toNat l
/-- What it leaves. -/
def RGP (w : World) (G : Nat) (R : RR3) (e : Ending) (w' : World) : Prop :=
  ∃ ad len cap, e = .returned (.tuple #[pval R.1, .slice ad len cap, .int .i64 ((R.2.2 : Nat) : Int)]) ∧ Below w.heap.size w w' ∧ RdS w G ad len cap R.2.1
set_option maxRecDepth 100000 in
/-- b[k:] of bytes. -/
theorem slice_step {W : World} {ops : Array Oper} {rest : List Oper} {o : Oper} {a : Act} {Q : Exit → Act → World → Prop} (hgd : o.guard = none) (x : Operand) (k : Nat)
    (ho : o.op = .slice 22 x (some (.const (.int .i64 (k : Int)))) none none) (ad : Option Addr) (len cap : Nat) (hx : a.eval x = .slice ad len cap) (hk : k ≤ len)
    (h : ∀ ad', Hid (ad' = cutAd ad cap k) → wpList Tryd.prog ops Q rest (a.put o.dst (.slice ad' (len - k) (cap - k))) W) :
    wpList Tryd.prog ops Q (o :: rest) a W := by
  refine wpList_plain hgd fun K hK' => ?_
  have hrun : (Instr.sliceAt 22 (.slice ad len cap) (some (.int .i64 (k : Int))) none none).run Tryd.prog W = .ok (.slice (cutAd ad cap k) (len - k) (cap - k)) W := by
    have he : Tryd.prog.elem 22 = 5 := by kernel_rfl
    have hu : Tryd.prog.underlying 22 = some (.slice (Tryd.prog.elem 22)) := by rw [he]; exact Tryd.underlying22
    rw [run_sliceAt_slice (h := hu), run_slice_l (ht := hu) (kl := .i64) (l := (k : Int)) (h0 := by omega) (h1 := by omega), he]
    go_simp
    rfl
  unfold Oper.wp
  have hc : a.eval (.const (.int .i64 (k : Int))) = .int .i64 (k : Int) := rfl
  simp [execOp, ho, hx, hc, hrun, Result.andThen]
  exact hK' _ _ (h _ (Lib.hid rfl))
theorem rg1_parts (k : Nat) (l : List UInt8) (R : RR3) (hR : rg1 k l = R) : (isKb k = false → R = (zero, [], 7)) ∧ (isKb k = true → flo k = false → R = (hpk k 0 0 0 0, l.drop 1, 0)) ∧ (isKb k = true → flo k = true → rg2 k l = R) := by
  subst hR
  unfold rg1
  exact ⟨fun h => by rw [if_pos h], fun h h2 => by rw [if_neg (by rw [h]; decide), if_pos h2], fun h h2 => by rw [if_neg (by rw [h]; decide), if_neg (by rw [h2]; decide)]⟩
theorem rg2_parts (k : Nat) (l : List UInt8) (R : RR3) (hR : rg2 k l = R) : (l.length = 1 → R = (zero, [], 3)) ∧ (l.length ≠ 1 → okHops ((l.getD 1 0).toNat : Int) = false → R = (zero, [], 9)) ∧ (l.length ≠ 1 → okHops ((l.getD 1 0).toNat : Int) = true → rg3 k (l.getD 1 0).toNat (l.drop 2) = R) := by
  subst hR
  unfold rg2
  exact ⟨fun h => by rw [if_pos h], fun h h2 => by rw [if_neg h, if_pos h2], fun h h2 => by rw [if_neg h, if_neg (by rw [h2]; decide)]⟩
theorem rg3_parts (k h : Nat) (l : List UInt8) (R : RR3) (hR : rg3 k h l = R) : ((getN l).2.2 ≠ 0 → R = (zero, [], (getN l).2.2)) ∧ ((getN l).2.2 = 0 → 1152921504606846976 < (getN l).1 → R = (zero, [], 2)) ∧ ((getN l).2.2 = 0 → ¬ (1152921504606846976 < (getN l).1) → rg4 k h (getN l).1 (getN l).2.1 = R) := by
  subst hR
  unfold rg3
  exact ⟨fun h => by rw [if_pos h], fun h h2 => by rw [if_neg (by omega), if_pos h2], fun h h2 => by rw [if_neg (by omega), if_neg h2]⟩
theorem rg4_parts (k h t : Nat) (l : List UInt8) (R : RR3) (hR : rg4 k h t l = R) : (l = [] → R = (zero, [], 3)) ∧ (l ≠ [] → 63 < (l.getD 0 0).toNat → R = (zero, [], 8)) ∧ (l ≠ [] → ¬ (63 < (l.getD 0 0).toNat) → rg5 k h t (l.getD 0 0).toNat (l.drop 1) = R) := by
  subst hR
  unfold rg4
  exact ⟨fun h => by rw [if_pos h], fun h h2 => by rw [if_neg h, if_pos h2], fun h h2 => by rw [if_neg h, if_neg h2]⟩
theorem rg5_parts (k h t f : Nat) (l : List UInt8) (R : RR3) (hR : rg5 k h t f l = R) : ((getF l 4).2.2 ≠ 0 → R = (zero, [], (getF l 4).2.2)) ∧ ((getF l 4).2.2 = 0 → R = (hpk k h t f (getF l 4).1, (getF l 4).2.1, 0)) := by
  subst hR
  unfold rg5
  exact ⟨fun h => by rw [if_pos h], fun h => by rw [if_neg (by omega)]⟩
/-- The result out of a packet's cell, and two more. -/
theorem results_pk3 {fn : Func} (h : fn.results = #[.cell 2 27, .tmp 3, .tmp 4]) (tmps : Array Value) (w : World) (g : Nat) (cs : Array Value) (v u : Value)
    (hp : tmps.getD 2 undef = .pointer (some ⟨g, 0, none⟩)) (h3 : tmps.getD 3 undef = v) (h4 : tmps.getD 4 undef = u) (hg : Blk w g 27 cs) (hs : cs.size = 12) :
    (results fn tmps).run Tryd.prog w = .ok (.tuple #[.agg cs, v, u]) w := by
  have hp' : tmps[2]?.getD undef = .pointer (some ⟨g, 0, none⟩) := by simpa using hp
  have h3' : tmps[3]?.getD undef = v := by simpa using h3
  have h4' : tmps[4]?.getD undef = u := by simpa using h4
  simp [results, h, hp', h3', h4', asAddr, run_loadVar_row w g 27 _ cs (0, 0) _ hg Tryd.underlying27 rfl (by rw [hs]; exact infoPk)]
theorem blk_same {w : World} {g : Nat} {t : TypeId} {cs : Array Value} (h : Blk w g t cs) (i : Nat) (u : Value) (hi : cs[i]? = some u) : Blk (w.setCell ⟨g, i, none⟩ u) g t cs := by
  have h2 := h.put i u
  have e : cs.setIfInBounds i u = cs := by
    apply Array.ext_getElem?
    intro j
    rw [Array.getElem?_setIfInBounds]
    split
    · subst ‹i = j›
      split
      · exact hi.symm
      · rw [Array.getElem?_eq_none (by omega)]
    · rfl
  rwa [e] at h2
/-- Two boxes of the call's own: the result's, the packet's. -/
structure QS (w : World) (pp : Nat) (ds : Array Value) (W : World) : Prop where
  b1 : Blk W w.heap.size 27 (hcs 0 0 0 0 0)
  b2 : Blk W pp 27 ds
  lt : w.heap.size < pp
  below : Below w.heap.size w W
theorem QS.put {w W : World} {pp : Nat} {ds : Array Value} (h : QS w pp ds W) (i : Nat) (u : Value) : QS w pp (ds.setIfInBounds i u) (W.setCell ⟨pp, i, none⟩ u) :=
  ⟨h.b1.far (p := ⟨pp, i, none⟩) (by have := h.lt; simp only; omega) u, h.b2.put i u, h.lt, h.below.setCell (p := ⟨pp, i, none⟩) (Nat.le_of_lt h.lt) _⟩
theorem QS.drewN {w W : World} {pp : Nat} {ds : Array Value} (h : QS w pp ds W) (n : Nat) : QS w pp ds (W.drewN n) :=
  ⟨h.b1.drewN n, h.b2.drewN n, h.lt, Own.below_drewN h.below n⟩
theorem QS.load {w W : World} {pp : Nat} {k t f q h : Int} (hg : QS w pp (hcs k t f q h) W) :
    W.cell? ⟨pp, 0, none⟩ = some (.int .i64 k) ∧ W.cell? ⟨pp, 1, none⟩ = some (.int .i64 t) ∧ W.cell? ⟨pp, 2, none⟩ = some (.int .i64 f) ∧ W.cell? ⟨pp, 3, none⟩ = some (.int .u32 q) ∧ W.cell? ⟨pp, 4, none⟩ = some (.int .i64 h) ∧
    W.frozen? ⟨pp, 1, none⟩ = false ∧ W.frozen? ⟨pp, 2, none⟩ = false ∧ W.frozen? ⟨pp, 3, none⟩ = false ∧ W.frozen? ⟨pp, 4, none⟩ = false :=
  ⟨hg.b2.cell 0, hg.b2.cell 1, hg.b2.cell 2, hg.b2.cell 3, hg.b2.cell 4, hg.b2.free 1, hg.b2.free 2, hg.b2.free 3, hg.b2.free 4⟩
/-- The packet of a kind alone is stored over the result's cells. -/
theorem QS.put12 {w W : World} {pp : Nat} {k : Int} (h : QS w pp (hcs k 0 0 0 0) W) :
    Blk ((((((((((((W.setCell ⟨w.heap.size, 0, none⟩ (.int .i64 k)).setCell ⟨w.heap.size, 1, none⟩ (.int .i64 0)).setCell ⟨w.heap.size, 2, none⟩ (.int .i64 0)).setCell ⟨w.heap.size, 3, none⟩ (.int .u32 0)).setCell ⟨w.heap.size, 4, none⟩ (.int .i64 0)).setCell ⟨w.heap.size, 5, none⟩ (.int .i64 0)).setCell ⟨w.heap.size, 6, none⟩ (.int .i64 0)).setCell ⟨w.heap.size, 7, none⟩ (.int .i64 0)).setCell ⟨w.heap.size, 8, none⟩ (.int .i64 0)).setCell ⟨w.heap.size, 9, none⟩ (.int .i64 0)).setCell ⟨w.heap.size, 10, none⟩ (.int .i64 0)).setCell ⟨w.heap.size, 11, none⟩ (.slice none 0 0)) w.heap.size 27 (hcs k 0 0 0 0) ∧
    Below w.heap.size w ((((((((((((W.setCell ⟨w.heap.size, 0, none⟩ (.int .i64 k)).setCell ⟨w.heap.size, 1, none⟩ (.int .i64 0)).setCell ⟨w.heap.size, 2, none⟩ (.int .i64 0)).setCell ⟨w.heap.size, 3, none⟩ (.int .u32 0)).setCell ⟨w.heap.size, 4, none⟩ (.int .i64 0)).setCell ⟨w.heap.size, 5, none⟩ (.int .i64 0)).setCell ⟨w.heap.size, 6, none⟩ (.int .i64 0)).setCell ⟨w.heap.size, 7, none⟩ (.int .i64 0)).setCell ⟨w.heap.size, 8, none⟩ (.int .i64 0)).setCell ⟨w.heap.size, 9, none⟩ (.int .i64 0)).setCell ⟨w.heap.size, 10, none⟩ (.int .i64 0)).setCell ⟨w.heap.size, 11, none⟩ (.slice none 0 0)) := by
  have h0 : Blk (W.setCell ⟨w.heap.size, 0, none⟩ (.int .i64 k)) w.heap.size 27 (hcs k 0 0 0 0) := h.b1.put 0 (.int .i64 k)
  have hb : ∀ (V : World) (i : Nat) (u : Value), Below w.heap.size w V → Below w.heap.size w (V.setCell ⟨w.heap.size, i, none⟩ u) := fun V i u hV => hV.setCell (p := ⟨w.heap.size, i, none⟩) (Nat.le_refl w.heap.size) u
  exact ⟨blk_same (blk_same (blk_same (blk_same (blk_same (blk_same (blk_same (blk_same (blk_same (blk_same (blk_same h0 1 _ rfl) 2 _ rfl) 3 _ rfl) 4 _ rfl) 5 _ rfl) 6 _ rfl) 7 _ rfl) 8 _ rfl) 9 _ rfl) 10 _ rfl) 11 _ rfl,
    hb _ _ _ (hb _ _ _ (hb _ _ _ (hb _ _ _ (hb _ _ _ (hb _ _ _ (hb _ _ _ (hb _ _ _ (hb _ _ _ (hb _ _ _ (hb _ _ _ (hb _ _ _ h.below)))))))))))⟩
theorem QS.all {w W : World} {pp : Nat} {k t f q h : Int} (hg : QS w pp (hcs k t f q h) W) :
    (W.cell? ⟨pp, 0, none⟩ = some (.int .i64 k) ∧ W.cell? ⟨pp, 1, none⟩ = some (.int .i64 t) ∧ W.cell? ⟨pp, 2, none⟩ = some (.int .i64 f) ∧ W.cell? ⟨pp, 3, none⟩ = some (.int .u32 q) ∧ W.cell? ⟨pp, 4, none⟩ = some (.int .i64 h) ∧ W.cell? ⟨pp, 5, none⟩ = some (.int .i64 0) ∧
      W.cell? ⟨pp, 6, none⟩ = some (.int .i64 0) ∧ W.cell? ⟨pp, 7, none⟩ = some (.int .i64 0) ∧ W.cell? ⟨pp, 8, none⟩ = some (.int .i64 0) ∧ W.cell? ⟨pp, 9, none⟩ = some (.int .i64 0) ∧ W.cell? ⟨pp, 10, none⟩ = some (.int .i64 0) ∧ W.cell? ⟨pp, 11, none⟩ = some (.slice none 0 0)) ∧
    (W.cell? ⟨w.heap.size, 0, none⟩ = some (.int .i64 0) ∧ W.cell? ⟨w.heap.size, 1, none⟩ = some (.int .i64 0) ∧ W.cell? ⟨w.heap.size, 2, none⟩ = some (.int .i64 0) ∧ W.cell? ⟨w.heap.size, 3, none⟩ = some (.int .u32 0) ∧ W.cell? ⟨w.heap.size, 4, none⟩ = some (.int .i64 0) ∧ W.cell? ⟨w.heap.size, 5, none⟩ = some (.int .i64 0) ∧
      W.cell? ⟨w.heap.size, 6, none⟩ = some (.int .i64 0) ∧ W.cell? ⟨w.heap.size, 7, none⟩ = some (.int .i64 0) ∧ W.cell? ⟨w.heap.size, 8, none⟩ = some (.int .i64 0) ∧ W.cell? ⟨w.heap.size, 9, none⟩ = some (.int .i64 0) ∧ W.cell? ⟨w.heap.size, 10, none⟩ = some (.int .i64 0) ∧ W.cell? ⟨w.heap.size, 11, none⟩ = some (.slice none 0 0)) ∧
    W.frozen? ⟨w.heap.size, 0, none⟩ = false ∧ W.frozen? ⟨w.heap.size, 1, none⟩ = false ∧ W.frozen? ⟨w.heap.size, 2, none⟩ = false ∧ W.frozen? ⟨w.heap.size, 3, none⟩ = false ∧ W.frozen? ⟨w.heap.size, 4, none⟩ = false ∧ W.frozen? ⟨w.heap.size, 5, none⟩ = false ∧ W.frozen? ⟨w.heap.size, 6, none⟩ = false ∧ W.frozen? ⟨w.heap.size, 7, none⟩ = false ∧ W.frozen? ⟨w.heap.size, 8, none⟩ = false ∧ W.frozen? ⟨w.heap.size, 9, none⟩ = false ∧ W.frozen? ⟨w.heap.size, 10, none⟩ = false ∧ W.frozen? ⟨w.heap.size, 11, none⟩ = false :=
  ⟨⟨hg.b2.cell 0, hg.b2.cell 1, hg.b2.cell 2, hg.b2.cell 3, hg.b2.cell 4, hg.b2.cell 5, hg.b2.cell 6, hg.b2.cell 7, hg.b2.cell 8, hg.b2.cell 9, hg.b2.cell 10, hg.b2.cell 11⟩, ⟨hg.b1.cell 0, hg.b1.cell 1, hg.b1.cell 2, hg.b1.cell 3, hg.b1.cell 4, hg.b1.cell 5, hg.b1.cell 6, hg.b1.cell 7, hg.b1.cell 8, hg.b1.cell 9, hg.b1.cell 10, hg.b1.cell 11⟩, hg.b1.free 0, hg.b1.free 1, hg.b1.free 2, hg.b1.free 3, hg.b1.free 4, hg.b1.free 5, hg.b1.free 6, hg.b1.free 7, hg.b1.free 8, hg.b1.free 9, hg.b1.free 10, hg.b1.free 11⟩
set_option maxRecDepth 100000 in
set_option maxHeartbeats 4000000 in
theorem rget_any (ad : Option Addr) (len cap G : Nat) (l : List UInt8) (w : World) (h : RdS w G ad len cap l) (hG : G ≤ w.heap.size) :
    Calls Tryd.prog 21 #[.slice ad len cap] w (RGP w G (rg l)) := by
  obtain ⟨W0, hW0⟩ : ∃ W0, Hid (W0 = w.alloc (.cells (hcs 0 0 0 0 0) 27)) := ⟨_, Lib.hid rfl⟩
  have hX := one_box w W0 _ _ hW0.out
  have HB0 := Lib.hid hX.1
  have b0 := Lib.hid hX.2
  clear hX
  have HS : Hid (∀ W, Below w.heap.size w W → RdS W G ad len cap l) := Lib.hid (fun W hW => h.kept fun b hb => hW.block b (by omega))
  have HE : Hid (∀ W ad' len' cap' (R : RR3), Below w.heap.size w W → RdS W G ad' len' cap' R.2.1 → RGP w G R (.returned (.tuple #[pval R.1, .slice ad' len' cap', .int .i64 ((R.2.2 : Nat) : Int)])) W) := Lib.hid (fun W ad' len' cap' R hB hr => ⟨_, _, _, rfl, hB, hr.kept fun b hb => (hB.block b (by omega)).symm⟩)
  have HZ : Hid (∀ W (c : Nat), Below w.heap.size w W → RGP w G (zero, [], c) (.returned (.tuple #[.agg (hcs 0 0 0 0 0), .slice none 0 0, .int .i64 (c : Int)])) W) := Lib.hid (fun W c hB => ⟨_, _, _, rfl, hB, RdS.nil w G⟩)
  have oZ := Lib.hid (hcs_one 0 0 0 0 0)
  have CF := Lib.hid (fun (k : Nat) W => rflood_any (k : Int) W)
  have hll := h.len_
  have hcc := h.le
  have hmx := h.max
  have HR0 := Lib.hid (show rg l = if l = [] then (zero, [], 3) else rg1 (l.getD 0 0).toNat l from rfl)
  generalize rg l = R at *
  by_cases hl : l = []
  case pos =>
    have hR : Hid (R = (zero, [], 3)) := Lib.hid (by rw [HR0.out, if_pos hl])
    obtain rfl : len = 0 := by rw [← hll, hl]; rfl
    clear HR0 hll hl h
    go_enter Tryd.func21, Tryd.ntmps21
    go_upto_region 1 with fail
    rw [← hW0.out]
    have bX := Lib.hid (Blk.row b0.out (hcs 0 0 0 0 0) rfl)
    have HBX := Lib.hid (below_setRow HB0.out (Nat.le_refl w.heap.size) (hcs 0 0 0 0 0))
    go_wp2_with (refine wpList_store_row rfl 27 _ _ rfl _ (hcs 0 0 0 0 0) rfl rfl _ _ b0.out infoPk rfl oZ.out ?_)
    exact bodyPost_ret (results_pk3 rfl _ _ w.heap.size (hcs 0 0 0 0 0) (.slice none 0 0) (.int .i64 3) rfl rfl rfl bX.out rfl) rfl (by rw [hR.out]; exact HZ.out _ _ HBX.out)
  case neg =>
    have HR := Lib.hid (show rg1 (l.getD 0 0).toNat l = R by rw [HR0.out, if_neg hl])
    clear HR0
    have hlp : 0 < l.length := List.length_pos_iff.2 hl
    obtain ⟨b, off, rfl, -⟩ := h.rd.at (k := 0) hlp
    have HX : Hid (∀ W, Below w.heap.size w W → W.cell? ⟨b, off, none⟩ = some (.int .u8 (((l.getD 0 0).toNat : Nat) : Int)) ∧ (1 < l.length → W.cell? ⟨b, off + 1, none⟩ = some (.int .u8 (((l.getD 1 0).toNat : Nat) : Int)))) := Lib.hid (fun W hW => by
      have hr := (h.rd.below hW)
      obtain ⟨b2, o2, e2, h2⟩ := hr.at (k := 0) hlp
      cases e2
      refine ⟨h2, fun h1 => ?_⟩
      obtain ⟨b3, o3, e3, h3⟩ := hr.at (k := 1) h1
      cases e3
      exact h3)
    have hk := (l.getD 0 0).toNat_lt
    have hh := (l.getD 1 0).toNat_lt
    have hlen0 : ¬ ((len : Int) = 0) := by omega
    have hlen1 : (0 : Int) < (len : Int) := by omega
    have P1 : Hid (_ ∧ _ ∧ _) := Lib.hid (rg1_parts _ l R HR.out)
    have P2 : Hid (∀ k, rg2 k l = R → _ ∧ _ ∧ _) := Lib.hid (fun k hk => rg2_parts k l R hk)
    clear HR
    generalize (l.getD 0 0).toNat = k at *
    generalize (l.getD 1 0).toNat = h1 at *
    obtain ⟨pp, hpp⟩ : ∃ pp, Hid (W0.heap.size = pp) := ⟨_, Lib.hid rfl⟩
    obtain ⟨W1, hW1⟩ : ∃ W1, Hid (W1 = W0.alloc (.cells (hcs k 0 0 0 0) 27)) := ⟨_, Lib.hid rfl⟩
    have H1 : Hid (QS w pp (hcs k 0 0 0 0) W1) := Lib.hid (by
      have hY := one_box W0 W1 _ _ hW1.out
      have hs : W0.heap.size = w.heap.size + 1 := by rw [hW0.out, World.size_alloc]
      rw [hpp.out] at hY
      exact ⟨b0.out.below (by rw [hpp.out]; exact hY.1), hY.2, by rw [← hpp.out]; omega, HB0.out.trans (hY.1.mono (by rw [← hpp.out]; omega))⟩)
    have x0 := (HX.out W0 HB0.out).1
    clear h hl
    go_enter Tryd.func21, Tryd.ntmps21
    go_upto_region 1 with fail
    rw [← hW0.out]
    go_upto_region 4 with fail
    rw [hpp.out]
    try rw [← hW1.out]
    clear hW1
    have hlp1 : ¬ ((k : Int) < 1) ∨ (k : Int) < 1 := by omega
    obtain ⟨c0, c1, c2, c3, c4, g1, g2, g3, g4⟩ := H1.out.load
    by_cases hkk : isKb (k : Int) = true
    case neg =>
      have hR := Lib.hid (P1.out.1 (by simpa using hkk))
      have hk' : ¬ (1 ≤ (k : Int) ∧ (k : Int) ≤ 6) := fun h => hkk (decide_eq_true h)
      have H1b := Lib.hid H1.out.b1
      have H1B := Lib.hid H1.out.below
      clear P1 P2 hkk
      by_cases hk1 : (k : Int) < 1
      · clear hk' hlp1
        have bX := Lib.hid (Blk.row H1b.out (hcs 0 0 0 0 0) rfl)
        have HBX := Lib.hid (below_setRow H1B.out (Nat.le_refl w.heap.size) (hcs 0 0 0 0 0))
        go_wp2_with (refine wpList_store_row rfl 27 _ _ rfl _ (hcs 0 0 0 0 0) rfl rfl _ _ H1b.out infoPk rfl oZ.out ?_)
        exact bodyPost_ret (results_pk3 rfl _ _ w.heap.size (hcs 0 0 0 0 0) (.slice none 0 0) (.int .i64 7) rfl rfl rfl bX.out rfl) rfl (by rw [hR.out]; exact HZ.out _ _ HBX.out)
      · have hk2 : (6 : Int) < (k : Int) := by omega
        clear hk' hlp1
        have bX := Lib.hid (Blk.row H1b.out (hcs 0 0 0 0 0) rfl)
        have HBX := Lib.hid (below_setRow H1B.out (Nat.le_refl w.heap.size) (hcs 0 0 0 0 0))
        go_wp2_with (refine wpList_store_row rfl 27 _ _ rfl _ (hcs 0 0 0 0 0) rfl rfl _ _ H1b.out infoPk rfl oZ.out ?_)
        exact bodyPost_ret (results_pk3 rfl _ _ w.heap.size (hcs 0 0 0 0 0) (.slice none 0 0) (.int .i64 7) rfl rfl rfl bX.out rfl) rfl (by rw [hR.out]; exact HZ.out _ _ HBX.out)
    case pos =>
      have hkb := of_decide_eq_true (show decide (1 ≤ (k : Int) ∧ (k : Int) ≤ 6) = true from hkk)
      obtain ⟨hk1, hk2⟩ := hkb
      have CF := Lib.hid (CF.out k W1)
      obtain ⟨fl, hfl⟩ : ∃ fl, Hid (flo (k : Int) = fl) := ⟨_, Lib.hid rfl⟩
      rw [hfl.out] at CF P1
      have P1 := Lib.hid (P1.out.2)
      clear hlp1
      go_wp2_with fail
      refine (CF.out).mono ?_; rintro e w' ⟨rfl, rfl⟩
      cases fl with
      | false =>
        have hR := Lib.hid (P1.out.1 hkk (by simp))
        have HP := Lib.hid H1.out.put12
        clear P1 P2 CF hkk
        go_upto_region 7 with fail
        clear c0 c1 c2 c3 c4 g1 g2 g3 g4
        obtain ⟨⟨c0, c1, c2, c3, c4, c5, c6, c7, c8, c9, c10, c11⟩, ⟨d0, d1, d2, d3, d4, d5, d6, d7, d8, d9, d10, d11⟩, g0, g1, g2, g3, g4, g5, g6, g7, g8, g9, g10, g11⟩ := H1.out.all
        by_cases hc1 : cap = 1
        · have hc2 := Lib.hid (show cap - 1 = 0 by omega)
          have hc3 := Lib.hid hc1
          refine wp_region_noPanic ?_
          go_region_with (fail)
          all_goals
            refine NoPanic.normal ?_
            simp only [Act.put, List.getElem_toArray, List.getElem_cons_succ, List.getElem_cons_zero, List.setIfInBounds_toArray, List.set_cons_zero, List.set_cons_succ]
            go_wp2_with fail
            have HP1 := Blk.below HP.out.1 (Below.refl _ _).drew
            have HP2 := HP.out.2.drew
            have hcut := (HS.out _ HP2).cut 1
            rw [cutAd_some, if_pos hc3.out, hc2.out] at hcut
            exact bodyPost_ret (results_pk3 rfl _ _ w.heap.size (hcs k 0 0 0 0) (.slice (some ⟨b, off, none⟩) (len - 1) 0) (.int .i64 0) rfl rfl rfl HP1 rfl) rfl (by rw [hR.out]; exact HE.out _ _ _ _ (hpk k 0 0 0 0, l.drop 1, 0) HP2 hcut)
        · have hc3 := Lib.hid hc1
          refine wp_region_noPanic ?_
          go_region_with (fail)
          all_goals
            refine NoPanic.normal ?_
            simp only [Act.put, List.getElem_toArray, List.getElem_cons_succ, List.getElem_cons_zero, List.setIfInBounds_toArray, List.set_cons_zero, List.set_cons_succ]
            go_wp2_with fail
            have HP1 := Blk.below HP.out.1 (Below.refl _ _).drew
            have HP2 := HP.out.2.drew
            have hcut := (HS.out _ HP2).cut 1
            rw [cutAd_some, if_neg hc3.out] at hcut
            exact bodyPost_ret (results_pk3 rfl _ _ w.heap.size (hcs k 0 0 0 0) (.slice (some ⟨b, off + 1, none⟩) (len - 1) (cap - 1)) (.int .i64 0) rfl rfl rfl HP1 rfl) rfl (by rw [hR.out]; exact HE.out _ _ _ _ (hpk k 0 0 0 0, l.drop 1, 0) HP2 hcut)
      | true =>
        have P2 := Lib.hid (P2.out k (P1.out.2 hkk (by simp)))
        clear P1 CF hkk
        by_cases hl1 : len = 1
        case pos =>
          have hb1 : ((len : Int) == 1) = true := by rw [hl1]; rfl
          have hR := Lib.hid (P2.out.1 (by omega))
          clear P2 hl1
          have Hb := Lib.hid H1.out.b1
          have HB := Lib.hid H1.out.below
          have bX := Lib.hid (Blk.row Hb.out (hcs 0 0 0 0 0) rfl)
          have HBX := Lib.hid (below_setRow HB.out (Nat.le_refl w.heap.size) (hcs 0 0 0 0 0))
          go_wp2_with (refine wpList_store_row rfl 27 _ _ rfl _ (hcs 0 0 0 0 0) rfl rfl _ _ Hb.out infoPk rfl oZ.out ?_)
          exact bodyPost_ret (results_pk3 rfl _ _ w.heap.size (hcs 0 0 0 0 0) (.slice none 0 0) (.int .i64 3) rfl rfl rfl bX.out rfl) rfl (by rw [hR.out]; exact HZ.out _ _ HBX.out)
        case neg =>
          have hb1 : ((len : Int) == 1) = false := by simp; omega
          have hlen2 : (1 : Int) < (len : Int) := by omega
          have hl2 : 2 ≤ len := by omega
          have P2 := Lib.hid (P2.out.2)
          have hne1 : Hid (l.length ≠ 1) := Lib.hid (by omega)
          have x1 := (HX.out W1 H1.out.below).2 (by omega)
          have H2 : Hid (QS w pp (hcs k 0 0 0 h1) (W1.setCell ⟨pp, 4, none⟩ (.int .i64 (h1 : Int)))) := Lib.hid (H1.out.put 4 (.int .i64 (h1 : Int)))
          clear hl1
          go_upto_region 11 with fail
          generalize W1.setCell ⟨pp, 4, none⟩ (.int .i64 (h1 : Int)) = W2 at *
          clear c0 c1 c2 c3 c4 g1 g2 g3 g4 x1 H1
          obtain ⟨c0, c1, c2, c3, c4, g1, g2, g3, g4⟩ := H2.out.load
          by_cases hoh : okHops (h1 : Int) = true
          case neg =>
            have hR := Lib.hid (P2.out.1 hne1.out (by simpa using hoh))
            have hh' : ¬ (1 ≤ (h1 : Int) ∧ (h1 : Int) ≤ 63) := fun h => hoh (decide_eq_true h)
            clear P2 hoh
            by_cases hh1 : (h1 : Int) < 1
            · clear hh'
              have Hb := Lib.hid H2.out.b1
              have HB := Lib.hid H2.out.below
              have bX := Lib.hid (Blk.row Hb.out (hcs 0 0 0 0 0) rfl)
              have HBX := Lib.hid (below_setRow HB.out (Nat.le_refl w.heap.size) (hcs 0 0 0 0 0))
              go_wp2_with (refine wpList_store_row rfl 27 _ _ rfl _ (hcs 0 0 0 0 0) rfl rfl _ _ Hb.out infoPk rfl oZ.out ?_)
              exact bodyPost_ret (results_pk3 rfl _ _ w.heap.size (hcs 0 0 0 0 0) (.slice none 0 0) (.int .i64 9) rfl rfl rfl bX.out rfl) rfl (by rw [hR.out]; exact HZ.out _ _ HBX.out)
            · have hh2 : (63 : Int) < (h1 : Int) := by omega
              clear hh'
              have Hb := Lib.hid H2.out.b1
              have HB := Lib.hid H2.out.below
              have bX := Lib.hid (Blk.row Hb.out (hcs 0 0 0 0 0) rfl)
              have HBX := Lib.hid (below_setRow HB.out (Nat.le_refl w.heap.size) (hcs 0 0 0 0 0))
              go_wp2_with (refine wpList_store_row rfl 27 _ _ rfl _ (hcs 0 0 0 0 0) rfl rfl _ _ Hb.out infoPk rfl oZ.out ?_)
              exact bodyPost_ret (results_pk3 rfl _ _ w.heap.size (hcs 0 0 0 0 0) (.slice none 0 0) (.int .i64 9) rfl rfl rfl bX.out rfl) rfl (by rw [hR.out]; exact HZ.out _ _ HBX.out)
          case pos =>
            obtain ⟨hh1, hh2⟩ := of_decide_eq_true (show decide (1 ≤ (h1 : Int) ∧ (h1 : Int) ≤ 63) = true from hoh)
            have HR := Lib.hid (P2.out.2 hne1.out hoh)
            clear P2 hoh
            have CN : Hid (∀ ad', Hid (ad' = cutAd (some ⟨b, off, none⟩) cap 2) → Calls Tryd.prog 42 #[.slice ad' (len - 2) (cap - 2)] W2 (GPost W2 G (getN (l.drop 2)))) := Lib.hid (fun ad' ha => by
              have h2 := (HS.out W2 H2.out.below).cut 2
              rw [← ha.out] at h2
              exact gnum_any _ _ _ G _ W2 h2)
            have P3 := Lib.hid (rg3_parts k h1 (l.drop 2) R HR.out)
            have ht := getN_lt' (l.drop 2)
            generalize getN (l.drop 2) = N at *
            obtain ⟨t, l3, e3⟩ := N
            simp only at P3 ht
            clear HR
            go_wp2_with (refine slice_step rfl _ 2 rfl (some ⟨b, off, none⟩) len cap rfl hl2 ?_; intro ad2 had2)
            refine (CN.out ad2 had2).mono ?_; rintro e w3 ⟨ad3, len3, cap3, n3, rfl, rfl, hr3⟩
            simp only at hr3
            have H3 := Lib.hid (H2.out.drewN n3)
            have HS3 := Lib.hid (hr3.drewN n3)
            clear CN hr3 had2 c0 c1 c2 c3 c4 g1 g2 g3 g4 H2
            generalize W2.drewN n3 = W3 at *
            obtain ⟨c0, c1, c2, c3, c4, g1, g2, g3, g4⟩ := H3.out.load
            by_cases he3 : e3 = 0
            case neg =>
              have hb3 : ((e3 : Int) != 0) = true := by simp; omega
              have hR := Lib.hid (P3.out.1 he3)
              clear P3 he3
              have Hb := Lib.hid H3.out.b1
              have HB := Lib.hid H3.out.below
              have bX := Lib.hid (Blk.row Hb.out (hcs 0 0 0 0 0) rfl)
              have HBX := Lib.hid (below_setRow HB.out (Nat.le_refl w.heap.size) (hcs 0 0 0 0 0))
              go_wp2_with (refine wpList_store_row rfl 27 _ _ rfl _ (hcs 0 0 0 0 0) rfl rfl _ _ Hb.out infoPk rfl oZ.out ?_)
              exact bodyPost_ret (results_pk3 rfl _ _ w.heap.size (hcs 0 0 0 0 0) (.slice none 0 0) (.int .i64 (e3 : Int)) rfl rfl rfl bX.out rfl) rfl (by rw [hR.out]; exact HZ.out _ _ HBX.out)
            case pos =>
              subst he3
              by_cases ht6 : (1152921504606846976 : Int) < (t : Int)
              case pos =>
                have hR := Lib.hid (P3.out.2.1 rfl (by omega))
                clear P3
                have Hb := Lib.hid H3.out.b1
                have HB := Lib.hid H3.out.below
                have bX := Lib.hid (Blk.row Hb.out (hcs 0 0 0 0 0) rfl)
                have HBX := Lib.hid (below_setRow HB.out (Nat.le_refl w.heap.size) (hcs 0 0 0 0 0))
                go_wp2_with (refine wpList_store_row rfl 27 _ _ rfl _ (hcs 0 0 0 0 0) rfl rfl _ _ Hb.out infoPk rfl oZ.out ?_)
                exact bodyPost_ret (results_pk3 rfl _ _ w.heap.size (hcs 0 0 0 0 0) (.slice none 0 0) (.int .i64 2) rfl rfl rfl bX.out rfl) rfl (by rw [hR.out]; exact HZ.out _ _ HBX.out)
              case neg =>
                have HR := Lib.hid (P3.out.2.2 rfl (by omega))
                clear P3
                have P4 := Lib.hid (rg4_parts k h1 t l3 R HR.out)
                clear HR
                have hl3 := HS3.out.len_
                have hc3 := HS3.out.le
                have hm3 := HS3.out.max
                by_cases hz3 : len3 = 0
                case pos =>
                  have hb4 : ((len3 : Int) == 0) = true := by rw [hz3]; rfl
                  have hR := Lib.hid (P4.out.1 (List.eq_nil_of_length_eq_zero (by omega)))
                  clear P4 hz3 hl3
                  have Hb := Lib.hid H3.out.b1
                  have HB := Lib.hid H3.out.below
                  have bX := Lib.hid (Blk.row Hb.out (hcs 0 0 0 0 0) rfl)
                  have HBX := Lib.hid (below_setRow HB.out (Nat.le_refl w.heap.size) (hcs 0 0 0 0 0))
                  go_wp2_with (refine wpList_store_row rfl 27 _ _ rfl _ (hcs 0 0 0 0 0) rfl rfl _ _ Hb.out infoPk rfl oZ.out ?_)
                  exact bodyPost_ret (results_pk3 rfl _ _ w.heap.size (hcs 0 0 0 0 0) (.slice none 0 0) (.int .i64 3) rfl rfl rfl bX.out rfl) rfl (by rw [hR.out]; exact HZ.out _ _ HBX.out)
                case neg =>
                  have hb4 : ((len3 : Int) == 0) = false := by simp; omega
                  have hl31 : (0 : Int) < (len3 : Int) := by omega
                  have hl3n : 1 ≤ len3 := by omega
                  have hne3 : Hid (l3 ≠ []) := Lib.hid (by rintro rfl; simp at hl3; omega)
                  obtain ⟨b3, off3, rfl, x3⟩ := HS3.out.rd.at (k := 0) (by omega)
                  simp only [Nat.add_zero] at x3
                  have hf := (l3.getD 0 0).toNat_lt
                  have CX : Hid (∀ ad' W, Hid (ad' = cutAd (some ⟨b3, off3, none⟩) cap3 1) → Below w.heap.size W3 W → Calls Tryd.prog 43 #[.slice ad' (len3 - 1) (cap3 - 1), .int .i64 4] W (GPost W G (getF (l3.drop 1) 4))) := Lib.hid (fun ad' W ha hW => by
                    have h2 := (HS3.out.kept (w' := W) (fun b hb => hW.block b (by omega))).cut 1
                    rw [← ha.out] at h2
                    exact gfix_any _ _ _ G _ 4 W h2)
                  have P4 := Lib.hid (P4.out.2)
                  have P5 := Lib.hid (fun f h => rg5_parts k h1 t f (l3.drop 1) R h)
                  have hq := getF_four (l3.drop 1)
                  generalize getF (l3.drop 1) 4 = N at *
                  obtain ⟨q, l4, e4⟩ := N
                  generalize (l3.getD 0 0).toNat = f at *
                  simp only at hq P5
                  clear hz3 hl3
                  by_cases hf6 : (63 : Int) < (f : Int)
                  case pos =>
                    have hR := Lib.hid (P4.out.1 hne3.out (by omega))
                    clear P4 P5
                    have Hb := Lib.hid H3.out.b1
                    have HB := Lib.hid H3.out.below
                    have bX := Lib.hid (Blk.row Hb.out (hcs 0 0 0 0 0) rfl)
                    have HBX := Lib.hid (below_setRow HB.out (Nat.le_refl w.heap.size) (hcs 0 0 0 0 0))
                    go_wp2_with (refine wpList_store_row rfl 27 _ _ rfl _ (hcs 0 0 0 0 0) rfl rfl _ _ Hb.out infoPk rfl oZ.out ?_)
                    exact bodyPost_ret (results_pk3 rfl _ _ w.heap.size (hcs 0 0 0 0 0) (.slice none 0 0) (.int .i64 8) rfl rfl rfl bX.out rfl) rfl (by rw [hR.out]; exact HZ.out _ _ HBX.out)
                  case neg =>
                    have P5 := Lib.hid (P5.out f (P4.out.2 hne3.out (by omega)))
                    clear P4
                    have h3 : IntKind.i64.wrap (t : Int) = (t : Int) := by rw [IntKind.wrap_i64]; omega
                    have H4 : Hid (QS w pp (hcs k t f 0 h1) (((W3.setCell ⟨pp, 1, none⟩ (.int .i64 (t : Int))).setCell ⟨pp, 2, none⟩ (.int .i64 (f : Int))).setCell ⟨pp, 3, none⟩ (.int .u32 0))) := Lib.hid (((H3.out.put 1 (.int .i64 (t : Int))).put 2 (.int .i64 (f : Int))).put 3 (.int .u32 0))
                    have HW4 : Hid (Below w.heap.size W3 (((W3.setCell ⟨pp, 1, none⟩ (.int .i64 (t : Int))).setCell ⟨pp, 2, none⟩ (.int .i64 (f : Int))).setCell ⟨pp, 3, none⟩ (.int .u32 0))) := Lib.hid (by
                      have hp := H3.out.lt
                      exact (((Below.refl _ _).setCell (p := ⟨pp, 1, none⟩) (Nat.le_of_lt hp) _).setCell (p := ⟨pp, 2, none⟩) (Nat.le_of_lt hp) _).setCell (p := ⟨pp, 3, none⟩) (Nat.le_of_lt hp) _)
                    go_upto_region 23 with fail
                    generalize ((W3.setCell ⟨pp, 1, none⟩ (.int .i64 (t : Int))).setCell ⟨pp, 2, none⟩ (.int .i64 (f : Int))).setCell ⟨pp, 3, none⟩ (.int .u32 0) = W4 at *
                    have CX := Lib.hid (fun ad' ha => CX.out ad' W4 ha HW4.out)
                    clear c0 c1 c2 c3 c4 g1 g2 g3 g4 x3 H3 HS3 HW4
                    go_wp2_with (refine slice_step rfl _ 1 rfl (some ⟨b3, off3, none⟩) len3 cap3 rfl hl3n ?_; intro ad4 had4)
                    refine (CX.out ad4 had4).mono ?_; rintro e w5 ⟨ad5, len5, cap5, n5, rfl, rfl, hr5⟩
                    simp only at hr5
                    have H5 := Lib.hid (H4.out.drewN n5)
                    have HS5 := Lib.hid (hr5.drewN n5)
                    clear CX hr5 had4 H4
                    generalize W4.drewN n5 = W5 at *
                    obtain ⟨c0, c1, c2, c3, c4, g1, g2, g3, g4⟩ := H5.out.load
                    by_cases he4 : e4 = 0
                    case neg =>
                      have hb5 : ((e4 : Int) != 0) = true := by simp; omega
                      have hR := Lib.hid (P5.out.1 he4)
                      clear P5 he4
                      have Hb := Lib.hid H5.out.b1
                      have HB := Lib.hid H5.out.below
                      have bX := Lib.hid (Blk.row Hb.out (hcs 0 0 0 0 0) rfl)
                      have HBX := Lib.hid (below_setRow HB.out (Nat.le_refl w.heap.size) (hcs 0 0 0 0 0))
                      go_wp2_with (refine wpList_store_row rfl 27 _ _ rfl _ (hcs 0 0 0 0 0) rfl rfl _ _ Hb.out infoPk rfl oZ.out ?_)
                      exact bodyPost_ret (results_pk3 rfl _ _ w.heap.size (hcs 0 0 0 0 0) (.slice none 0 0) (.int .i64 (e4 : Int)) rfl rfl rfl bX.out rfl) rfl (by rw [hR.out]; exact HZ.out _ _ HBX.out)
                    case pos =>
                      subst he4
                      have hR := Lib.hid (P5.out.2 rfl)
                      clear P5
                      have h5 : IntKind.u32.wrap (q : Int) = (q : Int) := by rw [IntKind.wrap_u32]; omega
                      have H6 : Hid (QS w pp (hcs k t f q h1) (W5.setCell ⟨pp, 3, none⟩ (.int .u32 (q : Int)))) := Lib.hid (H5.out.put 3 (.int .u32 (q : Int)))
                      have HS6 : Hid (RdS (W5.setCell ⟨pp, 3, none⟩ (.int .u32 (q : Int))) G ad5 len5 cap5 l4) := Lib.hid (HS5.out.kept (fun b hb => heap_setCell_other _ _ _ _ (by have := H5.out.lt; simp only; omega)))
                      go_upto_region 27 with fail
                      generalize W5.setCell ⟨pp, 3, none⟩ (.int .u32 (q : Int)) = W6 at *
                      have B1 := Lib.hid H6.out.b1
                      have B2 := Lib.hid H6.out.b2
                      have oX := Lib.hid (hcs_one k t f q h1)
                      have bX := Lib.hid (Blk.row B1.out (hcs k t f q h1) rfl)
                      have HBX := Lib.hid (below_setRow H6.out.below (Nat.le_refl w.heap.size) (hcs k t f q h1))
                      have HS7 := Lib.hid (HS6.out.kept (w' := W6.setRow w.heap.size (hcs k t f q h1)) (fun b hb => setRow_other _ _ _ _ (by omega)))
                      clear c0 c1 c2 c3 c4 g1 g2 g3 g4 H5 HS5
                      go_wp2_with (first
                        | (refine wpList_load_row rfl 27 _ rfl _ rfl _ (hcs k t f q h1) _ _ B2.out Tryd.underlying27 rfl infoPk ?_)
                        | (refine wpList_store_row rfl 27 _ _ rfl _ (hcs k t f q h1) rfl rfl _ _ B1.out infoPk rfl oX.out ?_))
                      exact bodyPost_ret (results_pk3 rfl _ _ w.heap.size (hcs k t f q h1) (.slice ad5 len5 cap5) (.int .i64 0) rfl rfl rfl bX.out rfl) rfl (by rw [hR.out]; exact HE.out _ _ _ _ (hpk k h1 t f q, l4, 0) HBX.out HS7.out)
end Go.Proofs.YtanfnhgaooafeaaDoor.Hed
