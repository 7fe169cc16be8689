/- DatA DatB DatG, laid into one. -/
import Derived.Test.YtanfnhgaooafeaaGreatDoorBufX
import Derived.Test.YtanfnhgaooafeaaGreatDoorHedX
import Derived.Test.YtanfnhgaooafeaaGreatDoorHedF
import Derived.Deep.RegionHeldLaw
import Derived.Deep.RegionWith
/-! DatA -/
namespace Go.Proofs.YtanfnhgaooafeaaGreatDoor.Dat
open Go.ChangeShapes Go.WideShapes Go.ChangeAt Go.RowKit
open Go.Proofs.YtanfnhgaooafeaaGreatDoor.Byt Go.Proofs.YtanfnhgaooafeaaGreatDoor.Buf
set_option linter.unusedVariables false
set_option linter.unusedSimpArgs false
theorem three_step {W : World} {ops : Array Oper} {rest : List Oper} {o : Oper} {a : Act} {Q : Exit → Act → World → Prop} (hgd : o.guard = none) (s x : Operand)
    (ho : o.op = .call { callee := .builtin .append, args := #[s, x], argTypes := #[25, 25] })
    (b : Addr) (hs : a.eval s = .slice (some b) 0 0) (ad : Addr) (n c : Nat) (m : List UInt8) (hx : a.eval x = .slice (some ad) n c) (hn : n = m.length) (h0 : 0 < n) (hrd : RdB W (some ad) m) (hlen : n ≤ 140737488355328)
    (h : ∀ ad' cap' w1, OwnB w1 W.heap.size (.slice ad' n cap') m → Below W.heap.size W w1 → wpList Tryz.prog ops Q rest (a.put o.dst (.slice ad' n cap')) w1) :
    wpList Tryz.prog ops Q (o :: rest) a W := by
  obtain ⟨i0, hi, hz0, hz1, hz2⟩ := info_parts infoByte
  obtain ⟨v', w1, hrun, r1, r2⟩ := run_append_arg_grows (P := Tryz.prog) (w := W) 25 o.type 5 i0 (.int .u8 0) 1 1 Tryz.underlying25 hi hz0 hz1 hz2 rfl (by decide) b 0 0 [] (by simp) (by simp) ad n c (bvs m) (by rw [bvs_len, Nat.mul_one, hn]) (RdB.cells hrd ad rfl) (by omega) (by unfold maxLen; omega) (by omega)
  refine wpList_plain hgd fun K hK' => ?_
  have hr1 : OwnB w1 W.heap.size v' m := by
    unfold OwnB
    rw [← hn]
    simpa using r1
  obtain ⟨ad', cap', e, -⟩ := Own.shape hr1
  rw [← hn] at e
  subst e
  unfold Oper.wp
  simp [execOp, ho, resolve, invoke, builtin, hs, hx, hrun, Result.andThen]
  exact hK' _ _ (h ad' cap' w1 hr1 ⟨r2.os, r2.tape, r2.output, r2.size, fun k hk => r2.block k hk (by simp)⟩)
end Go.Proofs.YtanfnhgaooafeaaGreatDoor.Dat
/-! DatB -/
namespace Go.Proofs.YtanfnhgaooafeaaGreatDoor.Dat
open Go.ChangeShapes Go.WideShapes Go.ChangeAt Go.RowKit Go.Deep
open Go.Proofs.YtanfnhgaooafeaaGreatDoor.Byt Go.Proofs.YtanfnhgaooafeaaGreatDoor.Key Go.Proofs.YtanfnhgaooafeaaGreatDoor.Buf Go.Proofs.YtanfnhgaooafeaaGreatDoor.Hed
set_option linter.unusedVariables false
set_option linter.unusedSimpArgs false
section
variable {H : Type} {enc0 : TypeId × Value → H} {w : World}
set_option maxRecDepth 100000 in
/-- A key that came in. -/
theorem open_k {r : Reach} {b0 : Nat} {v : Value} {d : DataW H} {pl : List MemPlace} (hv : Value.okWide Tryz.prog w r b0 24 v) (h : DataW.Trod enc0 Tryz.prog w 0 (fun _ => true) true 24 v d pl) : ∃ t : Ky, v = kval t ∧ Key.ok t := by
  obtain ⟨cs, rfl, hs⟩ := okWide_struct Tryz.underlying24 hv
  obtain ⟨n, hn⟩ := h
  obtain ⟨t, ht, hok⟩ := open_kcells hn
  refine ⟨t, ?_, hok⟩
  unfold kval
  congr 1
  exact Array.toList_inj.1 ht
end
/-- Nothing but block g differs. -/
structure Away (g : Nat) (w w' : World) : Prop where
  os : w'.os = w.os
  tape : w'.tape = w.tape
  output : w'.output = w.output
  size : w'.heap.size = w.heap.size
  block : ∀ k, k ≠ g → w'.heap[k]? = w.heap[k]?
theorem Away.refl (g : Nat) (w : World) : Away g w w := ⟨rfl, rfl, rfl, rfl, fun _ _ => rfl⟩
theorem Away.set {g : Nat} {w W : World} (h : Away g w W) (i : Nat) (v : Value) : Away g w (W.setCell ⟨g, i, none⟩ v) := by
  have hB := (Below.refl g W).setCell (p := ⟨g, i, none⟩) (Nat.le_refl g) v
  exact ⟨hB.os.trans h.os, hB.tape.trans h.tape, hB.output.trans h.output, by simp [h.size], fun k hk => (heap_setCell_other _ _ _ _ hk).trans (h.block k hk)⟩
theorem Away.below {g B : Nat} {w w' : World} (h : Away g w w') (hg : B ≤ g) : Below B w w' := ⟨h.os, h.tape, h.output, Nat.le_of_eq h.size.symm, fun k hk => h.block k (by omega)⟩
theorem Away.own {g base : Nat} {w w' : World} {v : Value} {l : List UInt8} (h : Away g w w') (ho : OwnB w base v l) (hg : g < base) : OwnB w' base v l :=
  own_kept ho (Nat.le_of_eq h.size.symm) fun k hk => h.block k (by have := own_at ho hk; omega)
/-- A block's cells may be written. -/
theorem blk_free {W : World} {b : Nat} {t : TypeId} {cs : Array Value} (h : Blk W b t cs) : W.frozen? ⟨b, 0, none⟩ = false ∧ W.frozen? ⟨b, 1, none⟩ = false ∧ W.frozen? ⟨b, 2, none⟩ = false ∧ W.frozen? ⟨b, 3, none⟩ = false ∧ W.frozen? ⟨b, 4, none⟩ = false ∧ W.frozen? ⟨b, 5, none⟩ = false ∧ W.frozen? ⟨b, 6, none⟩ = false ∧ W.frozen? ⟨b, 7, none⟩ = false ∧ W.frozen? ⟨b, 8, none⟩ = false ∧ W.frozen? ⟨b, 9, none⟩ = false ∧ W.frozen? ⟨b, 10, none⟩ = false ∧ W.frozen? ⟨b, 11, none⟩ = false :=
  ⟨h.free 0, h.free 1, h.free 2, h.free 3, h.free 4, h.free 5, h.free 6, h.free 7, h.free 8, h.free 9, h.free 10, h.free 11⟩
/-- Twelve cells written, one after another. -/
theorem row12 {w : World} {g : Nat} {t : TypeId} (p : Pk) (h : Blk w g t p.cells) (v0 v1 v2 v3 v4 v5 v6 v7 v8 v9 v10 v11 : Value) : Blk ((((((((((((w.setCell ⟨g, 0, none⟩ v0).setCell ⟨g, 1, none⟩ v1).setCell ⟨g, 2, none⟩ v2).setCell ⟨g, 3, none⟩ v3).setCell ⟨g, 4, none⟩ v4).setCell ⟨g, 5, none⟩ v5).setCell ⟨g, 6, none⟩ v6).setCell ⟨g, 7, none⟩ v7).setCell ⟨g, 8, none⟩ v8).setCell ⟨g, 9, none⟩ v9).setCell ⟨g, 10, none⟩ v10).setCell ⟨g, 11, none⟩ v11) g t #[v0, v1, v2, v3, v4, v5, v6, v7, v8, v9, v10, v11] ∧ Away g w ((((((((((((w.setCell ⟨g, 0, none⟩ v0).setCell ⟨g, 1, none⟩ v1).setCell ⟨g, 2, none⟩ v2).setCell ⟨g, 3, none⟩ v3).setCell ⟨g, 4, none⟩ v4).setCell ⟨g, 5, none⟩ v5).setCell ⟨g, 6, none⟩ v6).setCell ⟨g, 7, none⟩ v7).setCell ⟨g, 8, none⟩ v8).setCell ⟨g, 9, none⟩ v9).setCell ⟨g, 10, none⟩ v10).setCell ⟨g, 11, none⟩ v11) := by
  refine ⟨?_, ?_⟩
  · unfold Pk.cells at h
    have h := h.put 0 v0
    simp only [List.setIfInBounds_toArray, List.set_cons_zero, List.set_cons_succ] at h
    have h := h.put 1 v1
    simp only [List.setIfInBounds_toArray, List.set_cons_zero, List.set_cons_succ] at h
    have h := h.put 2 v2
    simp only [List.setIfInBounds_toArray, List.set_cons_zero, List.set_cons_succ] at h
    have h := h.put 3 v3
    simp only [List.setIfInBounds_toArray, List.set_cons_zero, List.set_cons_succ] at h
    have h := h.put 4 v4
    simp only [List.setIfInBounds_toArray, List.set_cons_zero, List.set_cons_succ] at h
    have h := h.put 5 v5
    simp only [List.setIfInBounds_toArray, List.set_cons_zero, List.set_cons_succ] at h
    have h := h.put 6 v6
    simp only [List.setIfInBounds_toArray, List.set_cons_zero, List.set_cons_succ] at h
    have h := h.put 7 v7
    simp only [List.setIfInBounds_toArray, List.set_cons_zero, List.set_cons_succ] at h
    have h := h.put 8 v8
    simp only [List.setIfInBounds_toArray, List.set_cons_zero, List.set_cons_succ] at h
    have h := h.put 9 v9
    simp only [List.setIfInBounds_toArray, List.set_cons_zero, List.set_cons_succ] at h
    have h := h.put 10 v10
    simp only [List.setIfInBounds_toArray, List.set_cons_zero, List.set_cons_succ] at h
    have h := h.put 11 v11
    simp only [List.setIfInBounds_toArray, List.set_cons_zero, List.set_cons_succ] at h
    exact h
  · have h := Away.refl g w
    have h := h.set 0 v0
    have h := h.set 1 v1
    have h := h.set 2 v2
    have h := h.set 3 v3
    have h := h.set 4 v4
    have h := h.set 5 v5
    have h := h.set 6 v6
    have h := h.set 7 v7
    have h := h.set 8 v8
    have h := h.set 9 v9
    have h := h.set 10 v10
    have h := h.set 11 v11
    exact h
/-- The result out of a packet's cell. -/
theorem results_pk1 {fn : Func} {i : Nat} (h : fn.results = #[.cell i 27]) (tmps : Array Value) (w : World) (g : Nat) (cs : Array Value)
    (hp : tmps.getD i undef = .pointer (some ⟨g, 0, none⟩)) (hg : Blk w g 27 cs) (hs : cs.size = 12) :
    (results fn tmps).run Tryz.prog w = .ok (.agg cs) w := by
  have hp' : tmps[i]?.getD undef = .pointer (some ⟨g, 0, none⟩) := by simpa using hp
  simp [results, h, hp', asAddr, run_loadVar_row w g 27 _ cs (0, 0) _ hg Tryz.underlying27 rfl (by rw [hs]; exact infoPk)]
/-- Two boxes that the call laid. -/
theorem boxes_tt (w w0 : World) (c d : Array Value) (t t' : TypeId) (h : w0 = (w.alloc (.cells c t)).alloc (.cells d t')) :
    Below w.heap.size w w0 ∧ Blk w0 w.heap.size t c ∧ Blk w0 (w.heap.size + 1) t' d := by
  subst h
  refine ⟨((Below.refl _ _).alloc (Nat.le_refl _) _).alloc (by simp) _, (Blk.new w _ _).alloc _, ?_⟩
  have := Blk.new (w.alloc (.cells c t)) t' d
  rw [World.size_alloc] at this
  exact this
/-- A packet of kind data. -/
def mk4 (k : Ky) (h : Int) (ad : Option Addr) (cap : Nat) (body : List UInt8) : Pk := ⟨4, k, h, 0, 0, 0, 0, 0, 0, ad, cap, body⟩
theorem rnew_any (k : Ky) (ad : Option Addr) (cap : Nat) (l : List UInt8) (w : World) :
    Calls Tryz.prog 53 #[kval k, .slice ad l.length cap] w fun e w' => e = .returned (pval (mk4 k 1 ad cap l)) ∧ Below w.heap.size w w' := by
  have HB : Hid (∀ o o', Below w.heap.size w ((w.alloc o).alloc o')) := Lib.hid (fun o o' => ((Below.refl _ _).alloc (Nat.le_refl _) o).alloc (by simp) o')
  obtain ⟨t, f, s⟩ := k
  unfold kval pval Pk.cells mk4
  obtain ⟨n, hn⟩ : ∃ n, l.length = n := ⟨_, rfl⟩
  simp only [hn]
  clear hn
  go_enter Tryz.func53, Tryz.ntmps53
  go_wp2_with fail
  go_returns
  exact ⟨rfl, HB.out _ _⟩
end Go.Proofs.YtanfnhgaooafeaaGreatDoor.Dat
/-! DatG -/
namespace Go.Proofs.YtanfnhgaooafeaaGreatDoor.Dat
open Go.ChangeShapes Go.WideShapes Go.ChangeAt Go.RowKit Go.Deep
open Go.Proofs.YtanfnhgaooafeaaGreatDoor.Byt Go.Proofs.YtanfnhgaooafeaaGreatDoor.Key Go.Proofs.YtanfnhgaooafeaaGreatDoor.Buf Go.Proofs.YtanfnhgaooafeaaGreatDoor.Hed Go.Proofs.YtanfnhgaooafeaaGreatDoor.BufM
set_option linter.unusedVariables false
set_option linter.unusedSimpArgs false
structure G2 (w : World) (g : Nat) (cs ds : Array Value) (s : Int × List UInt8) (W : World) : Prop where
  rr : RR W g s
  box : Blk W w.heap.size 27 cs
  res : Blk W (w.heap.size + 1) 27 ds
  lt : g < w.heap.size
  step : RStep w W g
theorem G2.start {w W : World} {g : Nat} {s : Int × List UInt8} (h : RR w g s) (cs ds : Array Value) (hW : W = (w.alloc (.cells cs 27)).alloc (.cells ds 27)) : G2 w g cs ds s W := by
  obtain ⟨hB, h1, h2⟩ := boxes_tt w W _ _ _ _ hW
  exact ⟨h.kept hB, h1, h2, h.lt, RStep.of_below hB (Nat.le_of_lt h.lt)⟩
theorem G2.kept {w W V : World} {g : Nat} {cs ds : Array Value} {s : Int × List UInt8} (h : G2 w g cs ds s W) (hB : Below W.heap.size W V) : G2 w g cs ds s V :=
  ⟨h.rr.kept hB, h.box.below hB, h.res.below hB, h.lt, h.step.trans (RStep.of_below hB (Nat.le_of_lt h.rr.lt))⟩
theorem G2.go {w W V : World} {g : Nat} {cs ds : Array Value} {s s' : Int × List UInt8} (h : G2 w g cs ds s W) (h1 : RR V g s') (h2 : RStep W V g) : G2 w g cs ds s' V := by
  have := h.lt
  exact ⟨h1, (h2.block _ h.lt h.box.lt).trans h.box, (h2.block _ (by omega) h.res.lt).trans h.res, h.lt, h.step.trans h2⟩
theorem G2.next {w W : World} {g : Nat} {cs ds : Array Value} {s s' : Int × List UInt8} (h : G2 w g cs ds s W) {v : Value} {e : Ending} {w' : World} (hp : RPost W g s' v e w') : e = .returned v ∧ Hid (G2 w g cs ds s' w') := by
  obtain ⟨rfl, h1, h2⟩ := hp
  exact ⟨rfl, Lib.hid (h.go h1 h2)⟩
theorem G2.put {w W : World} {g : Nat} {cs ds : Array Value} {s : Int × List UInt8} (h : G2 w g cs ds s W) (i : Nat) (u : Value) : G2 w g (cs.setIfInBounds i u) ds s (W.setCell ⟨w.heap.size, i, none⟩ u) := by
  have hlt := h.lt
  refine ⟨h.rr.behind fun b hb => heap_setCell_other _ _ _ _ (by simp only; omega), h.box.put i u, h.res.far (p := ⟨w.heap.size, i, none⟩) (by simp) u, h.lt, ⟨h.step.below.setCell (p := ⟨w.heap.size, i, none⟩) (Nat.le_of_lt hlt) _, fun k h1 h2 => ?_⟩⟩
  exact (heap_setCell_other _ _ _ _ (by simp only; omega)).trans (h.step.block k h1 h2)
theorem G2.row {w W : World} {g : Nat} {cs ds : Array Value} {s : Int × List UInt8} (h : G2 w g cs ds s W) (es : Array Value) (hs : ds.size = es.size) : G2 w g cs es s (W.setRow (w.heap.size + 1) es) := by
  have hlt := h.lt
  refine ⟨h.rr.behind fun b hb => setRow_other _ _ _ _ (by omega), (setRow_other _ _ _ _ (by omega)).trans h.box, Blk.row h.res es hs, h.lt, ⟨below_setRow h.step.below (by omega) _, fun k h1 h2 => ?_⟩⟩
  exact (setRow_other _ _ _ _ (by omega)).trans (h.step.block k h1 h2)
theorem G2.rpost {w W : World} {g : Nat} {cs ds : Array Value} {s : Int × List UInt8} (h : G2 w g cs ds s W) (v : Value) : RPost w g s v (.returned v) W := ⟨rfl, h.rr, h.step⟩
theorem G2.cells {w W : World} {g : Nat} {cs ds : Array Value} {s : Int × List UInt8} (h : G2 w g cs ds s W) (i : Nat) : W.cell? ⟨w.heap.size, i, none⟩ = cs[i]? ∧ W.frozen? ⟨w.heap.size, i, none⟩ = false := ⟨h.box.cell i, h.box.free i⟩
/-- Bytes of the call's own stay where the boxes are written. -/
theorem own_box {W V : World} {B : Nat} {v : Value} {l : List UInt8} (ho : OwnB W B v l) (hs : W.heap.size ≤ V.heap.size) (hk : ∀ k, B ≤ k → V.heap[k]? = W.heap[k]?) : OwnB V B v l :=
  own_kept ho hs fun k e => hk k (own_at ho e).1
/-- The result out of a packet's cell, and a second one. -/
theorem results_pk2 {fn : Func} {i j : Nat} (h : fn.results = #[.cell i 27, .tmp j]) (tmps : Array Value) (w : World) (g : Nat) (cs : Array Value) (v : Value)
    (hp : tmps.getD i undef = .pointer (some ⟨g, 0, none⟩)) (h3 : tmps.getD j undef = v) (hg : Blk w g 27 cs) (hs : cs.size = 12) :
    (results fn tmps).run Tryz.prog w = .ok (.tuple #[.agg cs, v]) w := by
  have hp' : tmps[i]?.getD undef = .pointer (some ⟨g, 0, none⟩) := by simpa using hp
  have h3' : tmps[j]?.getD undef = v := by simpa using h3
  simp [results, h, hp', h3', asAddr, run_loadVar_row w g 27 _ cs (0, 0) _ hg Tryz.underlying27 rfl (by rw [hs]; exact infoPk)]
/-- The result out of a packet's cell, and two more. -/
theorem results_pk33 {fn : Func} {i j k : Nat} (h : fn.results = #[.cell i 27, .tmp j, .tmp k]) (tmps : Array Value) (w : World) (g : Nat) (cs : Array Value) (v u : Value)
    (hp : tmps.getD i undef = .pointer (some ⟨g, 0, none⟩)) (h3 : tmps.getD j undef = v) (h4 : tmps.getD k undef = u) (hg : Blk w g 27 cs) (hs : cs.size = 12) :
    (results fn tmps).run Tryz.prog w = .ok (.tuple #[.agg cs, v, u]) w := by
  have hp' : tmps[i]?.getD undef = .pointer (some ⟨g, 0, none⟩) := by simpa using hp
  have h3' : tmps[j]?.getD undef = v := by simpa using h3
  have h4' : tmps[k]?.getD undef = u := by simpa using h4
  simp [results, h, hp', h3', h4', asAddr, run_loadVar_row w g 27 _ cs (0, 0) _ hg Tryz.underlying27 rfl (by rw [hs]; exact infoPk)]
theorem zeroP_one : (Pk.cells Hed.zero).all (·.oneCell') = true := by simp [Hed.zero, Pk.cells, Value.oneCell']
theorem pkP_one (p : Pk) : (Pk.cells p).all (·.oneCell') = true := by simp [Pk.cells, Value.oneCell']
end Go.Proofs.YtanfnhgaooafeaaGreatDoor.Dat
