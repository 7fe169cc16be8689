/- What a kind has put aside (layer 11): aside; the packets made. -/
import Derived.Test.YtocfamocemmihaaPulM
namespace Go.Proofs.Ytocfamocemmihaa.Pul
open Go.ChangeShapes Go.WideShapes Go.ChangeAt Go.RowKit Go.Deep
open Go.Proofs.Ytocfamocemmihaa.Byt Go.Proofs.Ytocfamocemmihaa.Key Go.Proofs.Ytocfamocemmihaa.Buf Go.Proofs.Ytocfamocemmihaa.Hed Go.Proofs.Ytocfamocemmihaa.Dat
set_option linter.unusedVariables false
set_option linter.unusedSimpArgs false
theorem boxes3 (w W : World) (c d e : Array Value) (t t2 t3 : TypeId) (h : W = ((w.alloc (.cells c t)).alloc (.cells d t2)).alloc (.cells e t3)) :
    Below w.heap.size w W ∧ Blk W w.heap.size t c ∧ Blk W (w.heap.size + 1) t2 d ∧ Blk W (w.heap.size + 2) t3 e := by
  subst h
  obtain ⟨h1, h2, h3⟩ := boxes_tt w _ c d t t2 rfl
  have hs : ((w.alloc (.cells c t)).alloc (.cells d t2)).heap.size = w.heap.size + 2 := by simp
  refine ⟨h1.alloc h1.size _, h2.alloc _, h3.alloc _, ?_⟩
  have := Blk.new ((w.alloc (.cells c t)).alloc (.cells d t2)) t3 e
  rwa [hs] at this
/-- A packet's box, what its kind has, the packet handed back. -/
structure A3 (w : World) (cs ds : Array Value) (W : World) : Prop where
  box : Blk W w.heap.size 27 cs
  pts : Blk W (w.heap.size + 1) 55 ds
  res : Blk W (w.heap.size + 2) 27 (Pk.cells zero)
  below : Below w.heap.size w W
theorem A3.put {w W : World} {cs ds : Array Value} (h : A3 w cs ds W) (i : Nat) (u : Value) : A3 w (cs.setIfInBounds i u) ds (W.setCell ⟨w.heap.size, i, none⟩ u) :=
  ⟨h.box.put i u, h.pts.far (p := ⟨w.heap.size, i, none⟩) (by simp) u, h.res.far (p := ⟨w.heap.size, i, none⟩) (by simp) u, h.below.setCell (p := ⟨w.heap.size, i, none⟩) (Nat.le_refl _) u⟩
theorem A3.fin {w W : World} {cs ds : Array Value} (h : A3 w cs ds W) (es : Array Value) (hs : (Pk.cells zero).size = es.size) : Blk (W.setRow (w.heap.size + 2) es) (w.heap.size + 2) 27 es ∧ Below w.heap.size w (W.setRow (w.heap.size + 2) es) :=
  ⟨Blk.row h.res es hs, below_setRow h.below (by omega) _⟩
set_option maxRecDepth 100000 in
set_option maxHeartbeats 1000000 in
theorem aside_1 (p : Pk) (w : World) :
    Calls Try.prog 32 #[pval p, .agg #[.bool true, .bool false, .bool false]] w fun e w' => e = .returned (pval { p with stamp := 0 }) ∧ Below w.heap.size w w' := by
  obtain ⟨wb, hwb⟩ : ∃ wb, Hid (wb = ((w.alloc (.cells p.cells 27)).alloc (.cells #[.bool true, .bool false, .bool false] 55)).alloc (.cells (Pk.cells zero) 27)) := ⟨_, Lib.hid rfl⟩
  have hX := boxes3 w wb _ _ _ _ _ _ hwb.out
  have H0 := Lib.hid (A3.mk hX.2.1 hX.2.2.1 hX.2.2.2 hX.1)
  obtain ⟨kind, ⟨t, f, s⟩, hops, no, to, index, total, stamp, value, ad, cap, body⟩ := p
  have HO := Lib.hid (pkP_one (⟨kind, (t, f, s), hops, no, to, index, total, 0, value, ad, cap, body⟩ : Pk))
  unfold zero Pk.cells at hwb
  unfold Pk.cells at HO H0
  unfold pval Pk.cells
  simp only [List.length_nil] at hwb HO H0 ⊢
  obtain ⟨n, hn⟩ : ∃ n, body.length = n := ⟨_, rfl⟩
  simp only [hn] at hwb HO H0 ⊢
  clear hn hX
  have p0 := H0.out.pts.cell 0
  have p1 := H0.out.pts.cell 1
  have p2 := H0.out.pts.cell 2
  simp only [List.getElem?_toArray, List.getElem?_cons_succ, List.getElem?_cons_zero] at p0 p1 p2
  go_enter Try.func32, Try.ntmps32
  go_upto_region 1 with fail
  rw [← hwb.out]
  clear hwb
  have c := H0.out.box.cell 9
  have f := H0.out.box.free 9
  simp only [List.getElem?_toArray, List.getElem?_cons_succ, List.getElem?_cons_zero] at c
  have H1 := Lib.hid (H0.out.put 9 (.int .i64 0))
  simp only [List.setIfInBounds_toArray, List.set_cons_zero, List.set_cons_succ] at H1
  clear H0
  go_upto_region 3 with fail
  obtain ⟨w1, ew1⟩ : ∃ w1, wb.setCell ⟨w.heap.size, 9, none⟩ (.int .i64 0) = w1 := ⟨_, rfl⟩
  rw [ew1] at H1 ⊢
  clear c f p0 p1 p2 ew1
  have p0 := H1.out.pts.cell 0
  have p1 := H1.out.pts.cell 1
  have p2 := H1.out.pts.cell 2
  simp only [List.getElem?_toArray, List.getElem?_cons_succ, List.getElem?_cons_zero] at p0 p1 p2
  have q := H1.out.fin #[.int .i64 kind, .int .i64 t, .int .i64 f, .int .u32 s, .int .i64 hops, .int .i64 no, .int .i64 to, .int .i64 index, .int .i64 total, .int .i64 0, .int .i64 value, .slice ad n cap] rfl
  have b1 := Lib.hid H1.out.box
  have b2 := Lib.hid H1.out.res
  have q1 := Lib.hid q.1
  have q2 := Lib.hid q.2
  unfold zero Pk.cells at b2
  simp only [List.length_nil] at b2
  clear q H1
  go_wp2_with (first
    | (refine wpList_load_row rfl 27 _ rfl _ rfl _ #[.int .i64 kind, .int .i64 t, .int .i64 f, .int .u32 s, .int .i64 hops, .int .i64 no, .int .i64 to, .int .i64 index, .int .i64 total, .int .i64 0, .int .i64 value, .slice ad n cap] _ _ b1.out Try.underlying27 rfl infoPk ?_)
    | (refine wpList_store_row rfl 27 _ _ rfl _ #[.int .i64 kind, .int .i64 t, .int .i64 f, .int .u32 s, .int .i64 hops, .int .i64 no, .int .i64 to, .int .i64 index, .int .i64 total, .int .i64 0, .int .i64 value, .slice ad n cap] rfl rfl _ _ b2.out infoPk rfl HO.out ?_))
  exact bodyPost_ret (results_pk1 rfl _ _ (w.heap.size + 2) _ rfl q1.out rfl) rfl ⟨rfl, q2.out⟩
set_option maxRecDepth 100000 in
set_option maxHeartbeats 1000000 in
theorem aside_2 (p : Pk) (w : World) :
    Calls Try.prog 32 #[pval p, .agg #[.bool true, .bool true, .bool false]] w fun e w' => e = .returned (pval { p with stamp := 0, value := 0 }) ∧ Below w.heap.size w w' := by
  obtain ⟨wb, hwb⟩ : ∃ wb, Hid (wb = ((w.alloc (.cells p.cells 27)).alloc (.cells #[.bool true, .bool true, .bool false] 55)).alloc (.cells (Pk.cells zero) 27)) := ⟨_, Lib.hid rfl⟩
  have hX := boxes3 w wb _ _ _ _ _ _ hwb.out
  have H0 := Lib.hid (A3.mk hX.2.1 hX.2.2.1 hX.2.2.2 hX.1)
  obtain ⟨kind, ⟨t, f, s⟩, hops, no, to, index, total, stamp, value, ad, cap, body⟩ := p
  have HO := Lib.hid (pkP_one (⟨kind, (t, f, s), hops, no, to, index, total, 0, 0, ad, cap, body⟩ : Pk))
  unfold zero Pk.cells at hwb
  unfold Pk.cells at HO H0
  unfold pval Pk.cells
  simp only [List.length_nil] at hwb HO H0 ⊢
  obtain ⟨n, hn⟩ : ∃ n, body.length = n := ⟨_, rfl⟩
  simp only [hn] at hwb HO H0 ⊢
  clear hn hX
  have p0 := H0.out.pts.cell 0
  have p1 := H0.out.pts.cell 1
  have p2 := H0.out.pts.cell 2
  simp only [List.getElem?_toArray, List.getElem?_cons_succ, List.getElem?_cons_zero] at p0 p1 p2
  go_enter Try.func32, Try.ntmps32
  go_upto_region 1 with fail
  rw [← hwb.out]
  clear hwb
  have c := H0.out.box.cell 9
  have f := H0.out.box.free 9
  simp only [List.getElem?_toArray, List.getElem?_cons_succ, List.getElem?_cons_zero] at c
  have H1 := Lib.hid (H0.out.put 9 (.int .i64 0))
  simp only [List.setIfInBounds_toArray, List.set_cons_zero, List.set_cons_succ] at H1
  clear H0
  go_upto_region 3 with fail
  obtain ⟨w1, ew1⟩ : ∃ w1, wb.setCell ⟨w.heap.size, 9, none⟩ (.int .i64 0) = w1 := ⟨_, rfl⟩
  rw [ew1] at H1 ⊢
  clear c f p0 p1 p2 ew1
  have p0 := H1.out.pts.cell 0
  have p1 := H1.out.pts.cell 1
  have p2 := H1.out.pts.cell 2
  simp only [List.getElem?_toArray, List.getElem?_cons_succ, List.getElem?_cons_zero] at p0 p1 p2
  have c := H1.out.box.cell 10
  have f := H1.out.box.free 10
  simp only [List.getElem?_toArray, List.getElem?_cons_succ, List.getElem?_cons_zero] at c
  have H2 := Lib.hid (H1.out.put 10 (.int .i64 0))
  simp only [List.setIfInBounds_toArray, List.set_cons_zero, List.set_cons_succ] at H2
  clear H1
  go_upto_region 5 with fail
  obtain ⟨w2, ew2⟩ : ∃ w2, w1.setCell ⟨w.heap.size, 10, none⟩ (.int .i64 0) = w2 := ⟨_, rfl⟩
  rw [ew2] at H2 ⊢
  clear c f p0 p1 p2 ew2
  have p0 := H2.out.pts.cell 0
  have p1 := H2.out.pts.cell 1
  have p2 := H2.out.pts.cell 2
  simp only [List.getElem?_toArray, List.getElem?_cons_succ, List.getElem?_cons_zero] at p0 p1 p2
  have q := H2.out.fin #[.int .i64 kind, .int .i64 t, .int .i64 f, .int .u32 s, .int .i64 hops, .int .i64 no, .int .i64 to, .int .i64 index, .int .i64 total, .int .i64 0, .int .i64 0, .slice ad n cap] rfl
  have b1 := Lib.hid H2.out.box
  have b2 := Lib.hid H2.out.res
  have q1 := Lib.hid q.1
  have q2 := Lib.hid q.2
  unfold zero Pk.cells at b2
  simp only [List.length_nil] at b2
  clear q H2
  go_wp2_with (first
    | (refine wpList_load_row rfl 27 _ rfl _ rfl _ #[.int .i64 kind, .int .i64 t, .int .i64 f, .int .u32 s, .int .i64 hops, .int .i64 no, .int .i64 to, .int .i64 index, .int .i64 total, .int .i64 0, .int .i64 0, .slice ad n cap] _ _ b1.out Try.underlying27 rfl infoPk ?_)
    | (refine wpList_store_row rfl 27 _ _ rfl _ #[.int .i64 kind, .int .i64 t, .int .i64 f, .int .u32 s, .int .i64 hops, .int .i64 no, .int .i64 to, .int .i64 index, .int .i64 total, .int .i64 0, .int .i64 0, .slice ad n cap] rfl rfl _ _ b2.out infoPk rfl HO.out ?_))
  exact bodyPost_ret (results_pk1 rfl _ _ (w.heap.size + 2) _ rfl q1.out rfl) rfl ⟨rfl, q2.out⟩
set_option maxRecDepth 100000 in
set_option maxHeartbeats 1000000 in
theorem aside_3 (p : Pk) (w : World) :
    Calls Try.prog 32 #[pval p, .agg #[.bool false, .bool false, .bool true]] w fun e w' => e = .returned (pval { p with no := 0 }) ∧ Below w.heap.size w w' := by
  obtain ⟨wb, hwb⟩ : ∃ wb, Hid (wb = ((w.alloc (.cells p.cells 27)).alloc (.cells #[.bool false, .bool false, .bool true] 55)).alloc (.cells (Pk.cells zero) 27)) := ⟨_, Lib.hid rfl⟩
  have hX := boxes3 w wb _ _ _ _ _ _ hwb.out
  have H0 := Lib.hid (A3.mk hX.2.1 hX.2.2.1 hX.2.2.2 hX.1)
  obtain ⟨kind, ⟨t, f, s⟩, hops, no, to, index, total, stamp, value, ad, cap, body⟩ := p
  have HO := Lib.hid (pkP_one (⟨kind, (t, f, s), hops, 0, to, index, total, stamp, value, ad, cap, body⟩ : Pk))
  unfold zero Pk.cells at hwb
  unfold Pk.cells at HO H0
  unfold pval Pk.cells
  simp only [List.length_nil] at hwb HO H0 ⊢
  obtain ⟨n, hn⟩ : ∃ n, body.length = n := ⟨_, rfl⟩
  simp only [hn] at hwb HO H0 ⊢
  clear hn hX
  have p0 := H0.out.pts.cell 0
  have p1 := H0.out.pts.cell 1
  have p2 := H0.out.pts.cell 2
  simp only [List.getElem?_toArray, List.getElem?_cons_succ, List.getElem?_cons_zero] at p0 p1 p2
  go_enter Try.func32, Try.ntmps32
  go_upto_region 1 with fail
  rw [← hwb.out]
  clear hwb
  have c := H0.out.box.cell 5
  have f := H0.out.box.free 5
  simp only [List.getElem?_toArray, List.getElem?_cons_succ, List.getElem?_cons_zero] at c
  have H1 := Lib.hid (H0.out.put 5 (.int .i64 0))
  simp only [List.setIfInBounds_toArray, List.set_cons_zero, List.set_cons_succ] at H1
  clear H0
  go_upto_region 7 with fail
  obtain ⟨w1, ew1⟩ : ∃ w1, wb.setCell ⟨w.heap.size, 5, none⟩ (.int .i64 0) = w1 := ⟨_, rfl⟩
  rw [ew1] at H1 ⊢
  clear c f p0 p1 p2 ew1
  have p0 := H1.out.pts.cell 0
  have p1 := H1.out.pts.cell 1
  have p2 := H1.out.pts.cell 2
  simp only [List.getElem?_toArray, List.getElem?_cons_succ, List.getElem?_cons_zero] at p0 p1 p2
  have q := H1.out.fin #[.int .i64 kind, .int .i64 t, .int .i64 f, .int .u32 s, .int .i64 hops, .int .i64 0, .int .i64 to, .int .i64 index, .int .i64 total, .int .i64 stamp, .int .i64 value, .slice ad n cap] rfl
  have b1 := Lib.hid H1.out.box
  have b2 := Lib.hid H1.out.res
  have q1 := Lib.hid q.1
  have q2 := Lib.hid q.2
  unfold zero Pk.cells at b2
  simp only [List.length_nil] at b2
  clear q H1
  go_wp2_with (first
    | (refine wpList_load_row rfl 27 _ rfl _ rfl _ #[.int .i64 kind, .int .i64 t, .int .i64 f, .int .u32 s, .int .i64 hops, .int .i64 0, .int .i64 to, .int .i64 index, .int .i64 total, .int .i64 stamp, .int .i64 value, .slice ad n cap] _ _ b1.out Try.underlying27 rfl infoPk ?_)
    | (refine wpList_store_row rfl 27 _ _ rfl _ #[.int .i64 kind, .int .i64 t, .int .i64 f, .int .u32 s, .int .i64 hops, .int .i64 0, .int .i64 to, .int .i64 index, .int .i64 total, .int .i64 stamp, .int .i64 value, .slice ad n cap] rfl rfl _ _ b2.out infoPk rfl HO.out ?_))
  exact bodyPost_ret (results_pk1 rfl _ _ (w.heap.size + 2) _ rfl q1.out rfl) rfl ⟨rfl, q2.out⟩
/-- Once what its kind has is put aside. -/
theorem aside_any (p : Pk) (w : World) (h : kk p.kind = true) :
    Calls Try.prog 32 #[pval p, .agg (kcs p.kind)] w fun e w' => e = .returned (pval (offP p)) ∧ Below w.heap.size w w' := by
  rw [kk_iff] at h
  unfold offP
  rcases h with h | h | h
  · rw [if_pos h, show kcs p.kind = kcs 1 from by rw [h]]; exact aside_1 p w
  · rw [if_neg (by omega), if_pos h, show kcs p.kind = kcs 2 from by rw [h]]; exact aside_2 p w
  · rw [if_neg (by omega), if_neg (by omega), show kcs p.kind = kcs 3 from by rw [h]]; exact aside_3 p w
theorem probe_any (x : Int) (w : World) :
    Calls Try.prog 12 #[.int .i64 x] w fun e w' => e = .returned (pval (probeP x)) ∧ Below w.heap.size w w' := by
  have HB : Hid (∀ o, Below w.heap.size w (w.alloc o)) := Lib.hid (fun o => (Below.refl _ _).alloc (Nat.le_refl _) o)
  unfold pval Pk.cells probeP
  simp only [List.length_nil]
  go_enter Try.func12, Try.ntmps12
  go_wp2_with fail
  go_returns
  exact ⟨rfl, HB.out _⟩
theorem rprobe_any (x : Int) (w : World) :
    Calls Try.prog 13 #[.int .i64 x] w fun e w' => e = .returned (pval (probeP x)) ∧ Below w.heap.size w w' := by
  have HB : Hid (∀ o, Below w.heap.size w (w.alloc o)) := Lib.hid (fun o => (Below.refl _ _).alloc (Nat.le_refl _) o)
  unfold pval Pk.cells probeP
  simp only [List.length_nil]
  go_enter Try.func13, Try.ntmps13
  go_wp2_with fail
  go_returns
  exact ⟨rfl, HB.out _⟩
theorem beacon_any (k : Ky) (x : Int) (w : World) :
    Calls Try.prog 14 #[kval k, .int .i64 x] w fun e w' => e = .returned (pval (beacP k 1 x)) ∧ Below w.heap.size w w' := by
  have HB : Hid (∀ o o', Below w.heap.size w ((w.alloc o).alloc o')) := Lib.hid (fun o o' => ((Below.refl _ _).alloc (Nat.le_refl _) o).alloc (by simp) o')
  obtain ⟨t, f, s⟩ := k
  unfold kval pval Pk.cells beacP
  simp only [List.length_nil]
  go_enter Try.func14, Try.ntmps14
  go_wp2_with fail
  go_returns
  exact ⟨rfl, HB.out _ _⟩
theorem rbeacon_any (k : Ky) (x : Int) (w : World) :
    Calls Try.prog 15 #[kval k, .int .i64 x] w fun e w' => e = .returned (pval (beacP k 1 x)) ∧ Below w.heap.size w w' := by
  have HB : Hid (∀ o o', Below w.heap.size w ((w.alloc o).alloc o')) := Lib.hid (fun o o' => ((Below.refl _ _).alloc (Nat.le_refl _) o).alloc (by simp) o')
  obtain ⟨t, f, s⟩ := k
  unfold kval pval Pk.cells beacP
  simp only [List.length_nil]
  go_enter Try.func15, Try.ntmps15
  go_wp2_with fail
  go_returns
  exact ⟨rfl, HB.out _ _⟩
theorem recho_any (p : Pk) (v : Int) (w : World) :
    Calls Try.prog 11 #[pval p, .int .i64 v] w fun e w' => e = .returned (pval (echoP p.stamp v)) ∧ Below w.heap.size w w' := by
  have HB : Hid (∀ o o', Below w.heap.size w ((w.alloc o).alloc o')) := Lib.hid (fun o o' => ((Below.refl _ _).alloc (Nat.le_refl _) o).alloc (by simp) o')
  obtain ⟨kind, ⟨t, f, s⟩, hops, no, to, index, total, stamp, value, ad, cap, body⟩ := p
  unfold pval Pk.cells echoP
  simp only [List.length_nil]
  go_enter Try.func11, Try.ntmps11
  go_wp2_with fail
  go_returns
  exact ⟨rfl, HB.out _ _⟩
end Go.Proofs.Ytocfamocemmihaa.Pul
