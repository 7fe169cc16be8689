/- A packet with what its kind has read (layer 11): fill, at any reader. -/
import Derived.Test.YtocfamocemmihaaPulB
import Derived.Test.YtocfamocemmihaaBufG
namespace Go.Proofs.Ytocfamocemmihaa.Pul
open Go.ChangeShapes Go.WideShapes Go.ChangeAt Go.RowKit Go.Deep
open Go.Proofs.Ytocfamocemmihaa.Byt Go.Proofs.Ytocfamocemmihaa.Key Go.Proofs.Ytocfamocemmihaa.Buf Go.Proofs.Ytocfamocemmihaa.Hed Go.Proofs.Ytocfamocemmihaa.Dat Go.Proofs.Ytocfamocemmihaa.BufM
set_option linter.unusedVariables false
set_option linter.unusedSimpArgs false
/-- A reader beside three boxes. -/
structure F3 (w : World) (g : Nat) (cs ds : Array Value) (s : Int × List UInt8) (W : World) : Prop where
  rr : RR W g s
  box : Blk W w.heap.size 27 cs
  pts : Blk W (w.heap.size + 1) 55 ds
  res : Blk W (w.heap.size + 2) 27 (Pk.cells zero)
  lt : g < w.heap.size
  step : RStep w W g
theorem F3.next {w W : World} {g : Nat} {cs ds : Array Value} {s s' : Int × List UInt8} (h : F3 w g cs ds s W) {v : Value} {e : Ending} {w' : World} (hp : RPost W g s' v e w') : e = .returned v ∧ Hid (F3 w g cs ds s' w') := by
  obtain ⟨rfl, h1, h2⟩ := hp
  have := h.lt
  exact ⟨rfl, Lib.hid ⟨h1, (h2.block _ h.lt h.box.lt).trans h.box, (h2.block _ (by omega) h.pts.lt).trans h.pts, (h2.block _ (by omega) h.res.lt).trans h.res, h.lt, h.step.trans h2⟩⟩
theorem F3.put {w W : World} {g : Nat} {cs ds : Array Value} {s : Int × List UInt8} (h : F3 w g cs ds s W) (i : Nat) (u : Value) : F3 w g (cs.setIfInBounds i u) ds s (W.setCell ⟨w.heap.size, i, none⟩ u) := by
  have hlt := h.lt
  refine ⟨h.rr.behind fun b hb => heap_setCell_other _ _ _ _ (by simp only; omega), h.box.put i u, h.pts.far (p := ⟨w.heap.size, i, none⟩) (by simp) u, h.res.far (p := ⟨w.heap.size, i, none⟩) (by simp) u, h.lt, ⟨h.step.below.setCell (p := ⟨w.heap.size, i, none⟩) (Nat.le_of_lt hlt) _, fun k h1 h2 => ?_⟩⟩
  exact (heap_setCell_other _ _ _ _ (by simp only; omega)).trans (h.step.block k h1 h2)
theorem F3.fin {w W : World} {g : Nat} {cs ds : Array Value} {s : Int × List UInt8} (h : F3 w g cs ds s W) (es : Array Value) (hs : (Pk.cells zero).size = es.size) : Blk (W.setRow (w.heap.size + 2) es) (w.heap.size + 2) 27 es ∧ RPost w g s (.agg es) (.returned (.agg es)) (W.setRow (w.heap.size + 2) es) := by
  have hlt := h.lt
  refine ⟨Blk.row h.res es hs, rfl, h.rr.behind fun b hb => setRow_other _ _ _ _ (by omega), ⟨below_setRow h.step.below (by omega) _, fun k h1 h2 => ?_⟩⟩
  exact (setRow_other _ _ _ _ (by omega)).trans (h.step.block k h1 h2)
theorem F3.start {w W : World} {g : Nat} {s : Int × List UInt8} (h : RR w g s) (cs ds : Array Value) (hW : W = ((w.alloc (.cells cs 27)).alloc (.cells ds 55)).alloc (.cells (Pk.cells zero) 27)) : F3 w g cs ds s W := by
  obtain ⟨hB, h1, h2, h3⟩ := boxes3 w W _ _ _ _ _ _ hW
  exact ⟨h.kept hB, h1, h2, h3, h.lt, RStep.of_below hB (Nat.le_of_lt h.lt)⟩
/-- A number of a reader's as one with a sign. -/
def sg (x : Nat) : Int := IntKind.i64.wrap (x : Int)
/-- The reader behind it. -/
def filS (k : Int) (s : Int × List UInt8) : Int × List UInt8 := if k = 1 then fixS s 8 else if k = 2 then fixS (fixS s 8) 8 else numS s
/-- The packet with what was read. -/
def filP (p : Pk) (s : Int × List UInt8) : Pk := if p.kind = 1 then { p with stamp := sg (getF s.2 8).1 } else if p.kind = 2 then { p with stamp := sg (getF s.2 8).1, value := sg (getF (fixS s 8).2 8).1 } else { p with no := sg (getN s.2).1 }
set_option maxRecDepth 100000 in
set_option maxHeartbeats 2000000 in
theorem fill_1 (p : Pk) (g : Nat) (s : Int × List UInt8) (w : World) (hk : p.kind = 1) (h : RR w g s) :
    Calls Try.prog 38 #[.pointer (some ⟨g, 0, none⟩), pval p, .agg #[.bool true, .bool false, .bool false]] w (RPost w g (filS 1 s) (pval (filP p s))) := by
  obtain ⟨wb, hwb⟩ : ∃ wb, Hid (wb = ((w.alloc (.cells p.cells 27)).alloc (.cells #[.bool true, .bool false, .bool false] 55)).alloc (.cells (Pk.cells zero) 27)) := ⟨_, Lib.hid rfl⟩
  have H0 := Lib.hid (F3.start h _ _ hwb.out)
  have HO := Lib.hid (pkP_one (filP p s))
  have hS : filS 1 s = fixS s 8 := by
    unfold filS
    rw [if_pos rfl]
  have hP : filP p s = { p with stamp := sg (getF s.2 8).1 } := by
    unfold filP
    rw [if_pos hk]
  rw [hP] at HO ⊢
  rw [hS]
  clear hS hP
  have C0 : Hid (∀ W, RR W g s → Calls Try.prog 55 #[.pointer (some ⟨g, 0, none⟩), .int .i64 8] W (RPost W g (fixS s 8) (.int .u64 (((getF s.2 8).1 : Nat) : Int)))) := Lib.hid (fun W h => rfixed_any g s 8 W h)
  obtain ⟨x0, hx0⟩ : ∃ x, (getF s.2 8).1 = x := ⟨_, rfl⟩
  rw [hx0] at HO C0 ⊢
  clear hx0
  have hv0 : Hid (IntKind.i64.wrap (x0 : Int) = sg x0) := Lib.hid rfl
  generalize sg x0 = v0 at *
  generalize fixS s 8 = s0 at *
  obtain ⟨kind, ⟨t, f, q⟩, hops, no, to, index, total, stamp, value, ad, cap, body⟩ := p
  simp only at hk
  subst hk
  unfold zero Pk.cells at hwb
  unfold Pk.cells at HO H0
  unfold pval Pk.cells
  simp only [List.length_nil] at hwb HO H0 ⊢
  obtain ⟨n, hn⟩ : ∃ n, body.length = n := ⟨_, rfl⟩
  simp only [hn] at hwb HO H0 ⊢
  clear hn h
  have p0 := H0.out.pts.cell 0
  have p1 := H0.out.pts.cell 1
  have p2 := H0.out.pts.cell 2
  simp only [List.getElem?_toArray, List.getElem?_cons_succ, List.getElem?_cons_zero] at p0 p1 p2
  go_enter Try.func38, Try.ntmps38
  go_upto_region 1 with fail
  rw [← hwb.out]
  clear hwb
  go_wp2_with fail
  refine (C0.out _ H0.out.rr).mono ?_; intro e y0 hp
  obtain ⟨rfl, G0⟩ := H0.out.next hp
  have c := G0.out.box.cell 9
  have f := G0.out.box.free 9
  simp only [List.getElem?_toArray, List.getElem?_cons_succ, List.getElem?_cons_zero] at c
  have H1 := Lib.hid (G0.out.put 9 (.int .i64 v0))
  simp only [List.setIfInBounds_toArray, List.set_cons_zero, List.set_cons_succ] at H1
  clear hp p0 p1 p2 H0 C0
  have hw0 := hv0.out
  go_upto_region 3 with fail
  clear hw0
  obtain ⟨z0, ez0⟩ : ∃ z, y0.setCell ⟨w.heap.size, 9, none⟩ (.int .i64 v0) = z := ⟨_, rfl⟩
  try rw [hv0.out]
  rw [ez0] at H1 ⊢
  clear c f ez0 G0 hv0
  have p0 := H1.out.pts.cell 0
  have p1 := H1.out.pts.cell 1
  have p2 := H1.out.pts.cell 2
  simp only [List.getElem?_toArray, List.getElem?_cons_succ, List.getElem?_cons_zero] at p0 p1 p2
  have q := H1.out.fin #[.int .i64 1, .int .i64 t, .int .i64 f, .int .u32 q, .int .i64 hops, .int .i64 no, .int .i64 to, .int .i64 index, .int .i64 total, .int .i64 v0, .int .i64 value, .slice ad n cap] rfl
  have b1 := Lib.hid H1.out.box
  have b2 := Lib.hid H1.out.res
  have q1 := Lib.hid q.1
  have q2 := Lib.hid q.2
  unfold zero Pk.cells at b2
  simp only [List.length_nil] at b2
  clear q H1
  go_wp2_with (first
    | (refine wpList_load_row rfl 27 _ rfl _ rfl _ #[.int .i64 1, .int .i64 t, .int .i64 f, .int .u32 q, .int .i64 hops, .int .i64 no, .int .i64 to, .int .i64 index, .int .i64 total, .int .i64 v0, .int .i64 value, .slice ad n cap] _ _ b1.out Try.underlying27 rfl infoPk ?_)
    | (refine wpList_store_row rfl 27 _ _ rfl _ #[.int .i64 1, .int .i64 t, .int .i64 f, .int .u32 q, .int .i64 hops, .int .i64 no, .int .i64 to, .int .i64 index, .int .i64 total, .int .i64 v0, .int .i64 value, .slice ad n cap] rfl rfl _ _ b2.out infoPk rfl HO.out ?_))
  exact bodyPost_ret (results_pk1 rfl _ _ (w.heap.size + 2) _ rfl q1.out rfl) rfl q2.out
set_option maxRecDepth 100000 in
set_option maxHeartbeats 2000000 in
theorem fill_2 (p : Pk) (g : Nat) (s : Int × List UInt8) (w : World) (hk : p.kind = 2) (h : RR w g s) :
    Calls Try.prog 38 #[.pointer (some ⟨g, 0, none⟩), pval p, .agg #[.bool true, .bool true, .bool false]] w (RPost w g (filS 2 s) (pval (filP p s))) := by
  obtain ⟨wb, hwb⟩ : ∃ wb, Hid (wb = ((w.alloc (.cells p.cells 27)).alloc (.cells #[.bool true, .bool true, .bool false] 55)).alloc (.cells (Pk.cells zero) 27)) := ⟨_, Lib.hid rfl⟩
  have H0 := Lib.hid (F3.start h _ _ hwb.out)
  have HO := Lib.hid (pkP_one (filP p s))
  have hS : filS 2 s = fixS (fixS s 8) 8 := by
    unfold filS
    rw [if_neg (by omega), if_pos rfl]
  have hP : filP p s = { p with stamp := sg (getF s.2 8).1, value := sg (getF (fixS s 8).2 8).1 } := by
    unfold filP
    rw [if_neg (by omega), if_pos hk]
  rw [hP] at HO ⊢
  rw [hS]
  clear hS hP
  have C0 : Hid (∀ W, RR W g s → Calls Try.prog 55 #[.pointer (some ⟨g, 0, none⟩), .int .i64 8] W (RPost W g (fixS s 8) (.int .u64 (((getF s.2 8).1 : Nat) : Int)))) := Lib.hid (fun W h => rfixed_any g s 8 W h)
  obtain ⟨x0, hx0⟩ : ∃ x, (getF s.2 8).1 = x := ⟨_, rfl⟩
  rw [hx0] at HO C0 ⊢
  clear hx0
  have hv0 : Hid (IntKind.i64.wrap (x0 : Int) = sg x0) := Lib.hid rfl
  generalize sg x0 = v0 at *
  generalize fixS s 8 = s0 at *
  have C1 : Hid (∀ W, RR W g s0 → Calls Try.prog 55 #[.pointer (some ⟨g, 0, none⟩), .int .i64 8] W (RPost W g (fixS s0 8) (.int .u64 (((getF s0.2 8).1 : Nat) : Int)))) := Lib.hid (fun W h => rfixed_any g s0 8 W h)
  obtain ⟨x1, hx1⟩ : ∃ x, (getF s0.2 8).1 = x := ⟨_, rfl⟩
  rw [hx1] at HO C1 ⊢
  clear hx1
  have hv1 : Hid (IntKind.i64.wrap (x1 : Int) = sg x1) := Lib.hid rfl
  generalize sg x1 = v1 at *
  generalize fixS s0 8 = s1 at *
  obtain ⟨kind, ⟨t, f, q⟩, hops, no, to, index, total, stamp, value, ad, cap, body⟩ := p
  simp only at hk
  subst hk
  unfold zero Pk.cells at hwb
  unfold Pk.cells at HO H0
  unfold pval Pk.cells
  simp only [List.length_nil] at hwb HO H0 ⊢
  obtain ⟨n, hn⟩ : ∃ n, body.length = n := ⟨_, rfl⟩
  simp only [hn] at hwb HO H0 ⊢
  clear hn h
  have p0 := H0.out.pts.cell 0
  have p1 := H0.out.pts.cell 1
  have p2 := H0.out.pts.cell 2
  simp only [List.getElem?_toArray, List.getElem?_cons_succ, List.getElem?_cons_zero] at p0 p1 p2
  go_enter Try.func38, Try.ntmps38
  go_upto_region 1 with fail
  rw [← hwb.out]
  clear hwb
  go_wp2_with fail
  refine (C0.out _ H0.out.rr).mono ?_; intro e y0 hp
  obtain ⟨rfl, G0⟩ := H0.out.next hp
  have c := G0.out.box.cell 9
  have f := G0.out.box.free 9
  simp only [List.getElem?_toArray, List.getElem?_cons_succ, List.getElem?_cons_zero] at c
  have H1 := Lib.hid (G0.out.put 9 (.int .i64 v0))
  simp only [List.setIfInBounds_toArray, List.set_cons_zero, List.set_cons_succ] at H1
  clear hp p0 p1 p2 H0 C0
  have hw0 := hv0.out
  go_upto_region 3 with fail
  clear hw0
  obtain ⟨z0, ez0⟩ : ∃ z, y0.setCell ⟨w.heap.size, 9, none⟩ (.int .i64 v0) = z := ⟨_, rfl⟩
  try rw [hv0.out]
  rw [ez0] at H1 ⊢
  clear c f ez0 G0 hv0
  have p0 := H1.out.pts.cell 0
  have p1 := H1.out.pts.cell 1
  have p2 := H1.out.pts.cell 2
  simp only [List.getElem?_toArray, List.getElem?_cons_succ, List.getElem?_cons_zero] at p0 p1 p2
  go_wp2_with fail
  refine (C1.out _ H1.out.rr).mono ?_; intro e y1 hp
  obtain ⟨rfl, G1⟩ := H1.out.next hp
  have c := G1.out.box.cell 10
  have f := G1.out.box.free 10
  simp only [List.getElem?_toArray, List.getElem?_cons_succ, List.getElem?_cons_zero] at c
  have H2 := Lib.hid (G1.out.put 10 (.int .i64 v1))
  simp only [List.setIfInBounds_toArray, List.set_cons_zero, List.set_cons_succ] at H2
  clear hp p0 p1 p2 H1 C1
  have hw1 := hv1.out
  go_upto_region 5 with fail
  clear hw1
  obtain ⟨z1, ez1⟩ : ∃ z, y1.setCell ⟨w.heap.size, 10, none⟩ (.int .i64 v1) = z := ⟨_, rfl⟩
  try rw [hv1.out]
  rw [ez1] at H2 ⊢
  clear c f ez1 G1 hv1
  have p0 := H2.out.pts.cell 0
  have p1 := H2.out.pts.cell 1
  have p2 := H2.out.pts.cell 2
  simp only [List.getElem?_toArray, List.getElem?_cons_succ, List.getElem?_cons_zero] at p0 p1 p2
  have q := H2.out.fin #[.int .i64 2, .int .i64 t, .int .i64 f, .int .u32 q, .int .i64 hops, .int .i64 no, .int .i64 to, .int .i64 index, .int .i64 total, .int .i64 v0, .int .i64 v1, .slice ad n cap] rfl
  have b1 := Lib.hid H2.out.box
  have b2 := Lib.hid H2.out.res
  have q1 := Lib.hid q.1
  have q2 := Lib.hid q.2
  unfold zero Pk.cells at b2
  simp only [List.length_nil] at b2
  clear q H2
  go_wp2_with (first
    | (refine wpList_load_row rfl 27 _ rfl _ rfl _ #[.int .i64 2, .int .i64 t, .int .i64 f, .int .u32 q, .int .i64 hops, .int .i64 no, .int .i64 to, .int .i64 index, .int .i64 total, .int .i64 v0, .int .i64 v1, .slice ad n cap] _ _ b1.out Try.underlying27 rfl infoPk ?_)
    | (refine wpList_store_row rfl 27 _ _ rfl _ #[.int .i64 2, .int .i64 t, .int .i64 f, .int .u32 q, .int .i64 hops, .int .i64 no, .int .i64 to, .int .i64 index, .int .i64 total, .int .i64 v0, .int .i64 v1, .slice ad n cap] rfl rfl _ _ b2.out infoPk rfl HO.out ?_))
  exact bodyPost_ret (results_pk1 rfl _ _ (w.heap.size + 2) _ rfl q1.out rfl) rfl q2.out
set_option maxRecDepth 100000 in
set_option maxHeartbeats 2000000 in
theorem fill_3 (p : Pk) (g : Nat) (s : Int × List UInt8) (w : World) (hk : p.kind = 3) (h : RR w g s) :
    Calls Try.prog 38 #[.pointer (some ⟨g, 0, none⟩), pval p, .agg #[.bool false, .bool false, .bool true]] w (RPost w g (filS 3 s) (pval (filP p s))) := by
  obtain ⟨wb, hwb⟩ : ∃ wb, Hid (wb = ((w.alloc (.cells p.cells 27)).alloc (.cells #[.bool false, .bool false, .bool true] 55)).alloc (.cells (Pk.cells zero) 27)) := ⟨_, Lib.hid rfl⟩
  have H0 := Lib.hid (F3.start h _ _ hwb.out)
  have HO := Lib.hid (pkP_one (filP p s))
  have hS : filS 3 s = numS s := by
    unfold filS
    rw [if_neg (by omega), if_neg (by omega)]
  have hP : filP p s = { p with no := sg (getN s.2).1 } := by
    unfold filP
    rw [if_neg (by omega), if_neg (by omega)]
  rw [hP] at HO ⊢
  rw [hS]
  clear hS hP
  have C0 : Hid (∀ W, RR W g s → Calls Try.prog 56 #[.pointer (some ⟨g, 0, none⟩)] W (RPost W g (numS s) (.int .u64 (((getN s.2).1 : Nat) : Int)))) := Lib.hid (fun W h => rnum_any g s W h)
  obtain ⟨x0, hx0⟩ : ∃ x, (getN s.2).1 = x := ⟨_, rfl⟩
  rw [hx0] at HO C0 ⊢
  clear hx0
  have hv0 : Hid (IntKind.i64.wrap (x0 : Int) = sg x0) := Lib.hid rfl
  generalize sg x0 = v0 at *
  generalize numS s = s0 at *
  obtain ⟨kind, ⟨t, f, q⟩, hops, no, to, index, total, stamp, value, ad, cap, body⟩ := p
  simp only at hk
  subst hk
  unfold zero Pk.cells at hwb
  unfold Pk.cells at HO H0
  unfold pval Pk.cells
  simp only [List.length_nil] at hwb HO H0 ⊢
  obtain ⟨n, hn⟩ : ∃ n, body.length = n := ⟨_, rfl⟩
  simp only [hn] at hwb HO H0 ⊢
  clear hn h
  have p0 := H0.out.pts.cell 0
  have p1 := H0.out.pts.cell 1
  have p2 := H0.out.pts.cell 2
  simp only [List.getElem?_toArray, List.getElem?_cons_succ, List.getElem?_cons_zero] at p0 p1 p2
  go_enter Try.func38, Try.ntmps38
  go_upto_region 1 with fail
  rw [← hwb.out]
  clear hwb
  go_wp2_with fail
  refine (C0.out _ H0.out.rr).mono ?_; intro e y0 hp
  obtain ⟨rfl, G0⟩ := H0.out.next hp
  have c := G0.out.box.cell 5
  have f := G0.out.box.free 5
  simp only [List.getElem?_toArray, List.getElem?_cons_succ, List.getElem?_cons_zero] at c
  have H1 := Lib.hid (G0.out.put 5 (.int .i64 v0))
  simp only [List.setIfInBounds_toArray, List.set_cons_zero, List.set_cons_succ] at H1
  clear hp p0 p1 p2 H0 C0
  have hw0 := hv0.out
  go_upto_region 7 with fail
  clear hw0
  obtain ⟨z0, ez0⟩ : ∃ z, y0.setCell ⟨w.heap.size, 5, none⟩ (.int .i64 v0) = z := ⟨_, rfl⟩
  try rw [hv0.out]
  rw [ez0] at H1 ⊢
  clear c f ez0 G0 hv0
  have p0 := H1.out.pts.cell 0
  have p1 := H1.out.pts.cell 1
  have p2 := H1.out.pts.cell 2
  simp only [List.getElem?_toArray, List.getElem?_cons_succ, List.getElem?_cons_zero] at p0 p1 p2
  have q := H1.out.fin #[.int .i64 3, .int .i64 t, .int .i64 f, .int .u32 q, .int .i64 hops, .int .i64 v0, .int .i64 to, .int .i64 index, .int .i64 total, .int .i64 stamp, .int .i64 value, .slice ad n cap] rfl
  have b1 := Lib.hid H1.out.box
  have b2 := Lib.hid H1.out.res
  have q1 := Lib.hid q.1
  have q2 := Lib.hid q.2
  unfold zero Pk.cells at b2
  simp only [List.length_nil] at b2
  clear q H1
  go_wp2_with (first
    | (refine wpList_load_row rfl 27 _ rfl _ rfl _ #[.int .i64 3, .int .i64 t, .int .i64 f, .int .u32 q, .int .i64 hops, .int .i64 v0, .int .i64 to, .int .i64 index, .int .i64 total, .int .i64 stamp, .int .i64 value, .slice ad n cap] _ _ b1.out Try.underlying27 rfl infoPk ?_)
    | (refine wpList_store_row rfl 27 _ _ rfl _ #[.int .i64 3, .int .i64 t, .int .i64 f, .int .u32 q, .int .i64 hops, .int .i64 v0, .int .i64 to, .int .i64 index, .int .i64 total, .int .i64 stamp, .int .i64 value, .slice ad n cap] rfl rfl _ _ b2.out infoPk rfl HO.out ?_))
  exact bodyPost_ret (results_pk1 rfl _ _ (w.heap.size + 2) _ rfl q1.out rfl) rfl q2.out
theorem fill_any (p : Pk) (g : Nat) (s : Int × List UInt8) (w : World) (hk : kk p.kind = true) (h : RR w g s) :
    Calls Try.prog 38 #[.pointer (some ⟨g, 0, none⟩), pval p, .agg (kcs p.kind)] w (RPost w g (filS p.kind s) (pval (filP p s))) := by
  rw [kk_iff] at hk
  rcases hk with hk | hk | hk
  · have := fill_1 p g s w hk h
    rw [show kcs p.kind = kcs 1 from by rw [hk], show filS p.kind s = filS 1 s from by rw [hk]]; exact this
  · have := fill_2 p g s w hk h
    rw [show kcs p.kind = kcs 2 from by rw [hk], show filS p.kind s = filS 2 s from by rw [hk]]; exact this
  · have := fill_3 p g s w hk h
    rw [show kcs p.kind = kcs 3 from by rw [hk], show filS p.kind s = filS 3 s from by rw [hk]]; exact this
end Go.Proofs.Ytocfamocemmihaa.Pul
