/- The document's Get (layer 11). -/
import Derived.Test.YtanfnhgaooafeaaDoorPulX
import Derived.Test.YtanfnhgaooafeaaDoorBufX
namespace Go.Proofs.YtanfnhgaooafeaaDoor.Pul
open Go.ChangeShapes Go.WideShapes Go.ChangeAt Go.RowKit Go.Deep
open Go.Proofs.YtanfnhgaooafeaaDoor.Byt Go.Proofs.YtanfnhgaooafeaaDoor.Key Go.Proofs.YtanfnhgaooafeaaDoor.Buf Go.Proofs.YtanfnhgaooafeaaDoor.Hed Go.Proofs.YtanfnhgaooafeaaDoor.Dat Go.Proofs.YtanfnhgaooafeaaDoor.BufM
set_option linter.unusedVariables false
set_option linter.unusedSimpArgs false
/-- A packet's box and the packet handed back. -/
structure D2 (w : World) (cs : Array Value) (W : World) : Prop where
  box : Blk W w.heap.size 27 cs
  res : Blk W (w.heap.size + 1) 27 (Pk.cells zero)
  below : Below w.heap.size w W
theorem D2.start {w W : World} {cs : Array Value} (h : W = (w.alloc (.cells cs 27)).alloc (.cells (Pk.cells zero) 27)) : D2 w cs W := by
  obtain ⟨h1, h2, h3⟩ := boxes_two w W _ _ _ h
  exact ⟨h2, h3, h1⟩
theorem D2.drewN {w W : World} {cs : Array Value} (h : D2 w cs W) (n : Nat) : D2 w cs (W.drewN n) := ⟨h.box.drewN n, h.res.drewN n, Own.below_drewN h.below n⟩
theorem D2.put {w W : World} {cs : Array Value} (h : D2 w cs W) (i : Nat) (u : Value) : D2 w (cs.setIfInBounds i u) (W.setCell ⟨w.heap.size, i, none⟩ u) :=
  ⟨h.box.put i u, h.res.far (p := ⟨w.heap.size, i, none⟩) (by simp) u, h.below.setCell (p := ⟨w.heap.size, i, none⟩) (Nat.le_refl _) u⟩
theorem D2.fin {w W : World} {cs : Array Value} (h : D2 w cs W) (es : Array Value) (hs : (Pk.cells zero).size = es.size) : Blk (W.setRow (w.heap.size + 1) es) (w.heap.size + 1) 27 es ∧ Below w.heap.size w (W.setRow (w.heap.size + 1) es) :=
  ⟨Blk.row h.res es hs, below_setRow h.below (by omega) _⟩
theorem rds_put {w W : World} {G : Nat} {ad : Option Addr} {len cap : Nat} {l : List UInt8} (h : RdS W G ad len cap l) (hG : G ≤ w.heap.size) (i : Nat) (u : Value) : RdS (W.setCell ⟨w.heap.size, i, none⟩ u) G ad len cap l :=
  h.kept fun b hb => heap_setCell_other _ _ _ _ (by simp only; omega)
/-- What the document's Get leaves where it went well. -/
def RGo (p : Pk) (n : Nat) (w : World) (e : Ending) (w' : World) : Prop := ∃ ad cap, e = .returned (.tuple #[pval p, .slice ad n cap, .int .i64 0]) ∧ Below w.heap.size w w'
/-- What GetFixed and GetNum leave beside the boxes. -/
def GD (w : World) (G : Nat) (cs : Array Value) (r : Nat × List UInt8 × Nat) (e : Ending) (w' : World) : Prop :=
  ∃ ad cap, e = .returned (.tuple #[.int .u64 ((r.1 : Nat) : Int), .slice ad r.2.1.length cap, .int .i64 ((r.2.2 : Nat) : Int)]) ∧ Hid (RdS w' G ad r.2.1.length cap r.2.1) ∧ Hid (D2 w cs w')
theorem GD.of {w W : World} {G : Nat} {cs : Array Value} {r : Nat × List UInt8 × Nat} (h : D2 w cs W) {e : Ending} {w' : World} (hp : GPost W G r e w') : GD w G cs r e w' := by
  obtain ⟨ad, len, cap, n, rfl, rfl, hr⟩ := hp
  obtain rfl := hr.len_
  exact ⟨ad, cap, rfl, Lib.hid (hr.drewN n), Lib.hid (h.drewN n)⟩
set_option maxRecDepth 100000 in
set_option maxHeartbeats 2000000 in
theorem rgk_other (p : Pk) (ad0 : Option Addr) (len0 cap0 G : Nat) (l : List UInt8) (w : World) (h : RdS w G ad0 len0 cap0 l) (hG : G ≤ w.heap.size) (hk : kk p.kind = false) :
    Calls Tryd.prog 25 #[.slice ad0 len0 cap0, pval p] w fun e w' => e = .returned (.tuple #[pval zero, .slice none 0 0, .int .i64 7]) ∧ Below w.heap.size w w' := by
  obtain ⟨W1, hW1⟩ : ∃ W1, Hid (W1 = (w.alloc (.cells p.cells 27)).alloc (.cells (Pk.cells zero) 27)) := ⟨_, Lib.hid rfl⟩
  have H1 := Lib.hid (D2.start hW1.out)
  have hk2 : p.kind < 1 ∨ 3 < p.kind := by
    have := (not_congr (kk_iff p.kind)).1 (by rw [hk]; decide)
    omega
  clear hk h hG
  unfold zero
  obtain ⟨kind, ⟨t, f, q⟩, hops, no, to, index, total, stamp, value, ad, cap, body⟩ := p


  unfold Pk.cells zero at hW1
  unfold Pk.cells at H1
  unfold pval Pk.cells
  simp only [List.length_nil] at hW1 H1 ⊢
  obtain ⟨n, hn⟩ : ∃ n, body.length = n := ⟨_, rfl⟩
  simp only [hn] at hW1 H1 ⊢
  clear hn
  simp only at hk2
  by_cases h1 : kind < 1
  · have hd1 : decide (kind < 1) = true := decide_eq_true h1
    clear hk2
    have HC := Lib.hid (fun (W : World) (h : D2 w #[.int .i64 kind, .int .i64 t, .int .i64 f, .int .u32 q, .int .i64 hops, .int .i64 no, .int .i64 to, .int .i64 index, .int .i64 total, .int .i64 stamp, .int .i64 value, .slice ad n cap] W) => And.intro (h.box.cell 0) (h.box.cell 5))
    simp only [List.getElem?_toArray, List.getElem?_cons_succ, List.getElem?_cons_zero] at HC
    have c0 := (HC.out _ H1.out).1
    go_enter Tryd.func25, Tryd.ntmps25
    go_upto_region 1 with fail
    rw [← hW1.out]
    clear hW1
    have qq := H1.out.fin #[.int .i64 0, .int .i64 0, .int .i64 0, .int .u32 0, .int .i64 0, .int .i64 0, .int .i64 0, .int .i64 0, .int .i64 0, .int .i64 0, .int .i64 0, .slice none 0 0] rfl
    have b2 := Lib.hid H1.out.res
    have q1 := Lib.hid qq.1
    have q2 := Lib.hid qq.2
    have HO := Lib.hid zeroP_one
    unfold zero Pk.cells at b2 HO
    simp only [List.length_nil] at b2 HO
    clear qq H1
    go_wp2_with (refine wpList_store_row rfl 27 _ _ rfl _ #[.int .i64 0, .int .i64 0, .int .i64 0, .int .u32 0, .int .i64 0, .int .i64 0, .int .i64 0, .int .i64 0, .int .i64 0, .int .i64 0, .int .i64 0, .slice none 0 0] rfl rfl _ _ b2.out infoPk rfl HO.out ?_)
    exact bodyPost_ret (results_pk33 rfl _ _ (w.heap.size + 1) _ (.slice none 0 0) (.int .i64 7) rfl rfl rfl q1.out rfl) rfl ⟨rfl, q2.out⟩
  · have hd1 : decide (kind < 1) = false := decide_eq_false h1
    have hd3 : decide (kind > 3) = true := decide_eq_true (by omega)
    have hd4 : decide (3 < kind) = true := hd3
    clear hk2
    have HC := Lib.hid (fun (W : World) (h : D2 w #[.int .i64 kind, .int .i64 t, .int .i64 f, .int .u32 q, .int .i64 hops, .int .i64 no, .int .i64 to, .int .i64 index, .int .i64 total, .int .i64 stamp, .int .i64 value, .slice ad n cap] W) => And.intro (h.box.cell 0) (h.box.cell 5))
    simp only [List.getElem?_toArray, List.getElem?_cons_succ, List.getElem?_cons_zero] at HC
    have c0 := (HC.out _ H1.out).1
    go_enter Tryd.func25, Tryd.ntmps25
    go_upto_region 1 with fail
    rw [← hW1.out]
    clear hW1
    have qq := H1.out.fin #[.int .i64 0, .int .i64 0, .int .i64 0, .int .u32 0, .int .i64 0, .int .i64 0, .int .i64 0, .int .i64 0, .int .i64 0, .int .i64 0, .int .i64 0, .slice none 0 0] rfl
    have b2 := Lib.hid H1.out.res
    have q1 := Lib.hid qq.1
    have q2 := Lib.hid qq.2
    have HO := Lib.hid zeroP_one
    unfold zero Pk.cells at b2 HO
    simp only [List.length_nil] at b2 HO
    clear qq H1
    go_wp2_with (refine wpList_store_row rfl 27 _ _ rfl _ #[.int .i64 0, .int .i64 0, .int .i64 0, .int .u32 0, .int .i64 0, .int .i64 0, .int .i64 0, .int .i64 0, .int .i64 0, .int .i64 0, .int .i64 0, .slice none 0 0] rfl rfl _ _ b2.out infoPk rfl HO.out ?_)
    exact bodyPost_ret (results_pk33 rfl _ _ (w.heap.size + 1) _ (.slice none 0 0) (.int .i64 7) rfl rfl rfl q1.out rfl) rfl ⟨rfl, q2.out⟩
set_option maxRecDepth 100000 in
set_option maxHeartbeats 2000000 in
theorem rgk_1_err (p : Pk) (ad0 : Option Addr) (len0 cap0 G : Nat) (l : List UInt8) (w : World) (h : RdS w G ad0 len0 cap0 l) (hG : G ≤ w.heap.size) (hk : p.kind = 1) (he : (getF l 8).2.2 ≠ 0) :
    Calls Tryd.prog 25 #[.slice ad0 len0 cap0, pval p] w fun e w' => e = .returned (.tuple #[pval zero, .slice none 0 0, .int .i64 (((getF l 8).2.2 : Nat) : Int)]) ∧ Below w.heap.size w w' := by
  obtain ⟨W1, hW1⟩ : ∃ W1, Hid (W1 = (w.alloc (.cells p.cells 27)).alloc (.cells (Pk.cells zero) 27)) := ⟨_, Lib.hid rfl⟩
  have H1 := Lib.hid (D2.start hW1.out)
  have C1 : Hid (Calls Tryd.prog 43 #[.slice ad0 len0 cap0, .int .i64 8] W1 (GD w G p.cells (getF l 8))) := Lib.hid ((gfix_any ad0 len0 cap0 G l 8 W1 (h.kept fun b hb => H1.out.below.block b (by omega))).mono fun e w' hp => GD.of H1.out hp)
  have hq1 : ((((getF l 8).2.2 : Nat) : Int) == 0) = false := by simpa using he
  have hq2 : ((((getF l 8).2.2 : Nat) : Int) != 0) = true := by simpa using he
  unfold GD at C1
  clear he h hG
  generalize getF l 8 = r at *
  obtain ⟨x, rest, er⟩ := r
  simp only at C1 hq1 hq2 ⊢
  unfold zero
  obtain ⟨kind, ⟨t, f, q⟩, hops, no, to, index, total, stamp, value, ad, cap, body⟩ := p
  simp only at hk
  subst hk
  unfold Pk.cells zero at hW1
  unfold Pk.cells at H1 C1
  unfold pval Pk.cells
  simp only [List.length_nil] at hW1 H1 C1 ⊢
  obtain ⟨n, hn⟩ : ∃ n, body.length = n := ⟨_, rfl⟩
  simp only [hn] at hW1 H1 C1 ⊢
  clear hn
  have HC := Lib.hid (fun (W : World) (h : D2 w #[.int .i64 1, .int .i64 t, .int .i64 f, .int .u32 q, .int .i64 hops, .int .i64 no, .int .i64 to, .int .i64 index, .int .i64 total, .int .i64 stamp, .int .i64 value, .slice ad n cap] W) => And.intro (h.box.cell 0) (h.box.cell 5))
  simp only [List.getElem?_toArray, List.getElem?_cons_succ, List.getElem?_cons_zero] at HC
  have c0 := (HC.out _ H1.out).1
  go_enter Tryd.func25, Tryd.ntmps25
  go_upto_region 1 with fail
  rw [← hW1.out]
  clear hW1
  go_wp2_with fail
  refine (C1.out).mono ?_; rintro e w2 ⟨ad2, cap2, rfl, R2, H2⟩
  clear c0 C1 H1
  have qq := H2.out.fin #[.int .i64 0, .int .i64 0, .int .i64 0, .int .u32 0, .int .i64 0, .int .i64 0, .int .i64 0, .int .i64 0, .int .i64 0, .int .i64 0, .int .i64 0, .slice none 0 0] rfl
  have b2 := Lib.hid H2.out.res
  have q1 := Lib.hid qq.1
  have q2 := Lib.hid qq.2
  have HO := Lib.hid zeroP_one
  unfold zero Pk.cells at b2 HO
  simp only [List.length_nil] at b2 HO
  clear qq H2
  go_wp2_with (refine wpList_store_row rfl 27 _ _ rfl _ #[.int .i64 0, .int .i64 0, .int .i64 0, .int .u32 0, .int .i64 0, .int .i64 0, .int .i64 0, .int .i64 0, .int .i64 0, .int .i64 0, .int .i64 0, .slice none 0 0] rfl rfl _ _ b2.out infoPk rfl HO.out ?_)
  exact bodyPost_ret (results_pk33 rfl _ _ (w.heap.size + 1) _ (.slice none 0 0) (.int .i64 er) rfl rfl rfl q1.out rfl) rfl ⟨rfl, q2.out⟩
set_option maxRecDepth 100000 in
set_option maxHeartbeats 2000000 in
theorem rgk_2_err (p : Pk) (ad0 : Option Addr) (len0 cap0 G : Nat) (l : List UInt8) (w : World) (h : RdS w G ad0 len0 cap0 l) (hG : G ≤ w.heap.size) (hk : p.kind = 2) (he : (getF l 8).2.2 ≠ 0) :
    Calls Tryd.prog 25 #[.slice ad0 len0 cap0, pval p] w fun e w' => e = .returned (.tuple #[pval zero, .slice none 0 0, .int .i64 (((getF l 8).2.2 : Nat) : Int)]) ∧ Below w.heap.size w w' := by
  obtain ⟨W1, hW1⟩ : ∃ W1, Hid (W1 = (w.alloc (.cells p.cells 27)).alloc (.cells (Pk.cells zero) 27)) := ⟨_, Lib.hid rfl⟩
  have H1 := Lib.hid (D2.start hW1.out)
  have C1 : Hid (Calls Tryd.prog 43 #[.slice ad0 len0 cap0, .int .i64 8] W1 (GD w G p.cells (getF l 8))) := Lib.hid ((gfix_any ad0 len0 cap0 G l 8 W1 (h.kept fun b hb => H1.out.below.block b (by omega))).mono fun e w' hp => GD.of H1.out hp)
  have hq1 : ((((getF l 8).2.2 : Nat) : Int) == 0) = false := by simpa using he
  have hq2 : ((((getF l 8).2.2 : Nat) : Int) != 0) = true := by simpa using he
  unfold GD at C1
  clear he h hG
  generalize getF l 8 = r at *
  obtain ⟨x, rest, er⟩ := r
  simp only at C1 hq1 hq2 ⊢
  unfold zero
  obtain ⟨kind, ⟨t, f, q⟩, hops, no, to, index, total, stamp, value, ad, cap, body⟩ := p
  simp only at hk
  subst hk
  unfold Pk.cells zero at hW1
  unfold Pk.cells at H1 C1
  unfold pval Pk.cells
  simp only [List.length_nil] at hW1 H1 C1 ⊢
  obtain ⟨n, hn⟩ : ∃ n, body.length = n := ⟨_, rfl⟩
  simp only [hn] at hW1 H1 C1 ⊢
  clear hn
  have HC := Lib.hid (fun (W : World) (h : D2 w #[.int .i64 2, .int .i64 t, .int .i64 f, .int .u32 q, .int .i64 hops, .int .i64 no, .int .i64 to, .int .i64 index, .int .i64 total, .int .i64 stamp, .int .i64 value, .slice ad n cap] W) => And.intro (h.box.cell 0) (h.box.cell 5))
  simp only [List.getElem?_toArray, List.getElem?_cons_succ, List.getElem?_cons_zero] at HC
  have c0 := (HC.out _ H1.out).1
  go_enter Tryd.func25, Tryd.ntmps25
  go_upto_region 1 with fail
  rw [← hW1.out]
  clear hW1
  go_wp2_with fail
  refine (C1.out).mono ?_; rintro e w2 ⟨ad2, cap2, rfl, R2, H2⟩
  clear c0 C1 H1
  have qq := H2.out.fin #[.int .i64 0, .int .i64 0, .int .i64 0, .int .u32 0, .int .i64 0, .int .i64 0, .int .i64 0, .int .i64 0, .int .i64 0, .int .i64 0, .int .i64 0, .slice none 0 0] rfl
  have b2 := Lib.hid H2.out.res
  have q1 := Lib.hid qq.1
  have q2 := Lib.hid qq.2
  have HO := Lib.hid zeroP_one
  unfold zero Pk.cells at b2 HO
  simp only [List.length_nil] at b2 HO
  clear qq H2
  go_wp2_with (refine wpList_store_row rfl 27 _ _ rfl _ #[.int .i64 0, .int .i64 0, .int .i64 0, .int .u32 0, .int .i64 0, .int .i64 0, .int .i64 0, .int .i64 0, .int .i64 0, .int .i64 0, .int .i64 0, .slice none 0 0] rfl rfl _ _ b2.out infoPk rfl HO.out ?_)
  exact bodyPost_ret (results_pk33 rfl _ _ (w.heap.size + 1) _ (.slice none 0 0) (.int .i64 er) rfl rfl rfl q1.out rfl) rfl ⟨rfl, q2.out⟩
set_option maxRecDepth 100000 in
set_option maxHeartbeats 2000000 in
theorem rgk_3_err (p : Pk) (ad0 : Option Addr) (len0 cap0 G : Nat) (l : List UInt8) (w : World) (h : RdS w G ad0 len0 cap0 l) (hG : G ≤ w.heap.size) (hk : p.kind = 3) (he : (getN l).2.2 ≠ 0) :
    Calls Tryd.prog 25 #[.slice ad0 len0 cap0, pval p] w fun e w' => e = .returned (.tuple #[pval zero, .slice none 0 0, .int .i64 (((getN l).2.2 : Nat) : Int)]) ∧ Below w.heap.size w w' := by
  obtain ⟨W1, hW1⟩ : ∃ W1, Hid (W1 = (w.alloc (.cells p.cells 27)).alloc (.cells (Pk.cells zero) 27)) := ⟨_, Lib.hid rfl⟩
  have H1 := Lib.hid (D2.start hW1.out)
  have C1 : Hid (Calls Tryd.prog 42 #[.slice ad0 len0 cap0] W1 (GD w G p.cells (getN l))) := Lib.hid ((gnum_any ad0 len0 cap0 G l W1 (h.kept fun b hb => H1.out.below.block b (by omega))).mono fun e w' hp => GD.of H1.out hp)
  have hq1 : ((((getN l).2.2 : Nat) : Int) == 0) = false := by simpa using he
  have hq2 : ((((getN l).2.2 : Nat) : Int) != 0) = true := by simpa using he
  unfold GD at C1
  clear he h hG
  generalize getN l = r at *
  obtain ⟨x, rest, er⟩ := r
  simp only at C1 hq1 hq2 ⊢
  unfold zero
  obtain ⟨kind, ⟨t, f, q⟩, hops, no, to, index, total, stamp, value, ad, cap, body⟩ := p
  simp only at hk
  subst hk
  unfold Pk.cells zero at hW1
  unfold Pk.cells at H1 C1
  unfold pval Pk.cells
  simp only [List.length_nil] at hW1 H1 C1 ⊢
  obtain ⟨n, hn⟩ : ∃ n, body.length = n := ⟨_, rfl⟩
  simp only [hn] at hW1 H1 C1 ⊢
  clear hn
  have HC := Lib.hid (fun (W : World) (h : D2 w #[.int .i64 3, .int .i64 t, .int .i64 f, .int .u32 q, .int .i64 hops, .int .i64 no, .int .i64 to, .int .i64 index, .int .i64 total, .int .i64 stamp, .int .i64 value, .slice ad n cap] W) => And.intro (h.box.cell 0) (h.box.cell 5))
  simp only [List.getElem?_toArray, List.getElem?_cons_succ, List.getElem?_cons_zero] at HC
  have c0 := (HC.out _ H1.out).1
  go_enter Tryd.func25, Tryd.ntmps25
  go_upto_region 1 with fail
  rw [← hW1.out]
  clear hW1
  go_wp2_with fail
  refine (C1.out).mono ?_; rintro e w2 ⟨ad2, cap2, rfl, R2, H2⟩
  clear c0 C1 H1
  have qq := H2.out.fin #[.int .i64 0, .int .i64 0, .int .i64 0, .int .u32 0, .int .i64 0, .int .i64 0, .int .i64 0, .int .i64 0, .int .i64 0, .int .i64 0, .int .i64 0, .slice none 0 0] rfl
  have b2 := Lib.hid H2.out.res
  have q1 := Lib.hid qq.1
  have q2 := Lib.hid qq.2
  have HO := Lib.hid zeroP_one
  unfold zero Pk.cells at b2 HO
  simp only [List.length_nil] at b2 HO
  clear qq H2
  go_wp2_with (refine wpList_store_row rfl 27 _ _ rfl _ #[.int .i64 0, .int .i64 0, .int .i64 0, .int .u32 0, .int .i64 0, .int .i64 0, .int .i64 0, .int .i64 0, .int .i64 0, .int .i64 0, .int .i64 0, .slice none 0 0] rfl rfl _ _ b2.out infoPk rfl HO.out ?_)
  exact bodyPost_ret (results_pk33 rfl _ _ (w.heap.size + 1) _ (.slice none 0 0) (.int .i64 er) rfl rfl rfl q1.out rfl) rfl ⟨rfl, q2.out⟩
set_option maxRecDepth 100000 in
set_option maxHeartbeats 2000000 in
theorem rgk_3_range (p : Pk) (ad0 : Option Addr) (len0 cap0 G : Nat) (l : List UInt8) (w : World) (h : RdS w G ad0 len0 cap0 l) (hG : G ≤ w.heap.size) (hk : p.kind = 3) (he : (getN l).2.2 = 0) (hx : 1152921504606846976 < (getN l).1) :
    Calls Tryd.prog 25 #[.slice ad0 len0 cap0, pval p] w fun e w' => e = .returned (.tuple #[pval zero, .slice none 0 0, .int .i64 2]) ∧ Below w.heap.size w w' := by
  obtain ⟨W1, hW1⟩ : ∃ W1, Hid (W1 = (w.alloc (.cells p.cells 27)).alloc (.cells (Pk.cells zero) 27)) := ⟨_, Lib.hid rfl⟩
  have H1 := Lib.hid (D2.start hW1.out)
  have C1 : Hid (Calls Tryd.prog 42 #[.slice ad0 len0 cap0] W1 (GD w G p.cells (getN l))) := Lib.hid ((gnum_any ad0 len0 cap0 G l W1 (h.kept fun b hb => H1.out.below.block b (by omega))).mono fun e w' hp => GD.of H1.out hp)
  unfold GD at C1
  clear h hG
  generalize getN l = r at *
  obtain ⟨x, rest, er⟩ := r
  simp only at C1 he hx ⊢
  subst he
  have hd1 : decide ((x : Int) > 1152921504606846976) = true := decide_eq_true (by omega)
  have hd2 : decide (1152921504606846976 < (x : Int)) = true := hd1
  clear hx
  unfold zero
  obtain ⟨kind, ⟨t, f, q⟩, hops, no, to, index, total, stamp, value, ad, cap, body⟩ := p
  simp only at hk
  subst hk
  unfold Pk.cells zero at hW1
  unfold Pk.cells at H1 C1
  unfold pval Pk.cells
  simp only [List.length_nil] at hW1 H1 C1 ⊢
  obtain ⟨n, hn⟩ : ∃ n, body.length = n := ⟨_, rfl⟩
  simp only [hn] at hW1 H1 C1 ⊢
  clear hn
  have HC := Lib.hid (fun (W : World) (h : D2 w #[.int .i64 3, .int .i64 t, .int .i64 f, .int .u32 q, .int .i64 hops, .int .i64 no, .int .i64 to, .int .i64 index, .int .i64 total, .int .i64 stamp, .int .i64 value, .slice ad n cap] W) => And.intro (h.box.cell 0) (h.box.cell 5))
  simp only [List.getElem?_toArray, List.getElem?_cons_succ, List.getElem?_cons_zero] at HC
  have c0 := (HC.out _ H1.out).1
  go_enter Tryd.func25, Tryd.ntmps25
  go_upto_region 1 with fail
  rw [← hW1.out]
  clear hW1
  go_wp2_with fail
  refine (C1.out).mono ?_; rintro e w2 ⟨ad2, cap2, rfl, R2, H2⟩
  clear c0 C1 H1
  have qq := H2.out.fin #[.int .i64 0, .int .i64 0, .int .i64 0, .int .u32 0, .int .i64 0, .int .i64 0, .int .i64 0, .int .i64 0, .int .i64 0, .int .i64 0, .int .i64 0, .slice none 0 0] rfl
  have b2 := Lib.hid H2.out.res
  have q1 := Lib.hid qq.1
  have q2 := Lib.hid qq.2
  have HO := Lib.hid zeroP_one
  unfold zero Pk.cells at b2 HO
  simp only [List.length_nil] at b2 HO
  clear qq H2
  go_wp2_with (refine wpList_store_row rfl 27 _ _ rfl _ #[.int .i64 0, .int .i64 0, .int .i64 0, .int .u32 0, .int .i64 0, .int .i64 0, .int .i64 0, .int .i64 0, .int .i64 0, .int .i64 0, .int .i64 0, .slice none 0 0] rfl rfl _ _ b2.out infoPk rfl HO.out ?_)
  exact bodyPost_ret (results_pk33 rfl _ _ (w.heap.size + 1) _ (.slice none 0 0) (.int .i64 2) rfl rfl rfl q1.out rfl) rfl ⟨rfl, q2.out⟩
set_option maxRecDepth 100000 in
set_option maxHeartbeats 2000000 in
theorem rgk_1_ok (p : Pk) (ad0 : Option Addr) (len0 cap0 G : Nat) (l : List UInt8) (w : World) (h : RdS w G ad0 len0 cap0 l) (hG : G ≤ w.heap.size) (hk : p.kind = 1) (he : (getF l 8).2.2 = 0) :
    Calls Tryd.prog 25 #[.slice ad0 len0 cap0, pval p] w (RGo { p with stamp := sg (getF l 8).1 } (getF l 8).2.1.length w) := by
  obtain ⟨W1, hW1⟩ : ∃ W1, Hid (W1 = (w.alloc (.cells p.cells 27)).alloc (.cells (Pk.cells zero) 27)) := ⟨_, Lib.hid rfl⟩
  have H1 := Lib.hid (D2.start hW1.out)
  have C1 : Hid (Calls Tryd.prog 43 #[.slice ad0 len0 cap0, .int .i64 8] W1 (GD w G p.cells (getF l 8))) := Lib.hid ((gfix_any ad0 len0 cap0 G l 8 W1 (h.kept fun b hb => H1.out.below.block b (by omega))).mono fun e w' hp => GD.of H1.out hp)
  unfold GD at C1
  clear h hG
  generalize getF l 8 = r at *
  obtain ⟨x, rest, er⟩ := r
  simp only at C1 he ⊢
  subst he
  obtain ⟨rn, hrn⟩ : ∃ rn, rest.length = rn := ⟨_, rfl⟩
  rw [hrn] at C1 ⊢
  have hv0 : Hid (IntKind.i64.wrap (x : Int) = sg x) := Lib.hid rfl
  generalize sg x = v0 at *
  clear hrn
  have HP : Hid (∀ ad2 cap2 W, Below w.heap.size w W → RGo { p with stamp := v0 } rn w (.returned (.tuple #[pval { p with stamp := v0 }, .slice ad2 rn cap2, .int .i64 0])) W) := Lib.hid (fun ad2 cap2 W hB => ⟨ad2, cap2, rfl, hB⟩)
  generalize RGo { p with stamp := v0 } rn w = Got at *
  unfold pval at HP
  obtain ⟨kind, ⟨t, f, q⟩, hops, no, to, index, total, stamp, value, ad, cap, body⟩ := p
  simp only at hk
  subst hk
  unfold Pk.cells zero at hW1
  unfold Pk.cells at H1 C1 HP
  unfold pval Pk.cells
  simp only [List.length_nil] at hW1 H1 C1 HP ⊢
  obtain ⟨n, hn⟩ : ∃ n, body.length = n := ⟨_, rfl⟩
  simp only [hn] at hW1 H1 C1 HP ⊢
  have HC := Lib.hid (fun (W : World) (h : D2 w #[.int .i64 1, .int .i64 t, .int .i64 f, .int .u32 q, .int .i64 hops, .int .i64 no, .int .i64 to, .int .i64 index, .int .i64 total, .int .i64 stamp, .int .i64 value, .slice ad n cap] W) => And.intro (h.box.cell 0) (h.box.cell 5))
  simp only [List.getElem?_toArray, List.getElem?_cons_succ, List.getElem?_cons_zero] at HC
  have c0 := (HC.out _ H1.out).1
  go_enter Tryd.func25, Tryd.ntmps25
  go_upto_region 1 with fail
  rw [← hW1.out]
  clear hW1
  go_wp2_with fail
  refine (C1.out).mono ?_; rintro e w2 ⟨ad2, cap2, rfl, R2, H2⟩
  clear c0 C1 H1
  have c := H2.out.box.cell 9
  have f9 := H2.out.box.free 9
  have c0 := H2.out.box.cell 0
  simp only [List.getElem?_toArray, List.getElem?_cons_succ, List.getElem?_cons_zero] at c c0
  have H3 := Lib.hid (H2.out.put 9 (.int .i64 v0))
  simp only [List.setIfInBounds_toArray, List.set_cons_zero, List.set_cons_succ] at H3
  clear H2
  have hw0 := hv0.out
  go_upto_region 15 with fail
  clear hw0
  obtain ⟨w3, ew3⟩ : ∃ z, w2.setCell ⟨w.heap.size, 9, none⟩ (.int .i64 v0) = z := ⟨_, rfl⟩
  try rw [hv0.out]
  rw [ew3] at H3 ⊢
  clear c f9 c0 ew3 hv0
  have c0 := H3.out.box.cell 0
  simp only [List.getElem?_toArray, List.getElem?_cons_succ, List.getElem?_cons_zero] at c0
  have qq := H3.out.fin #[.int .i64 1, .int .i64 t, .int .i64 f, .int .u32 q, .int .i64 hops, .int .i64 no, .int .i64 to, .int .i64 index, .int .i64 total, .int .i64 v0, .int .i64 value, .slice ad n cap] rfl
  have b1 := Lib.hid H3.out.box
  have b2 := Lib.hid H3.out.res
  have q1 := Lib.hid qq.1
  have q2 := Lib.hid qq.2
  have HO := Lib.hid (pkP_one (⟨1, (t, f, q), hops, no, to, index, total, v0, value, ad, cap, body⟩ : Pk))
  unfold zero Pk.cells at b2
  unfold Pk.cells at HO
  simp only [List.length_nil, hn] at b2 HO
  clear qq H3 hn
  go_wp2_with (first
    | (refine wpList_load_row rfl 27 _ rfl _ rfl _ #[.int .i64 1, .int .i64 t, .int .i64 f, .int .u32 q, .int .i64 hops, .int .i64 no, .int .i64 to, .int .i64 index, .int .i64 total, .int .i64 v0, .int .i64 value, .slice ad n cap] _ _ b1.out Tryd.underlying27 rfl infoPk ?_)
    | (refine wpList_store_row rfl 27 _ _ rfl _ #[.int .i64 1, .int .i64 t, .int .i64 f, .int .u32 q, .int .i64 hops, .int .i64 no, .int .i64 to, .int .i64 index, .int .i64 total, .int .i64 v0, .int .i64 value, .slice ad n cap] rfl rfl _ _ b2.out infoPk rfl HO.out ?_))
  exact bodyPost_ret (results_pk33 rfl _ _ (w.heap.size + 1) _ (.slice ad2 rn cap2) (.int .i64 0) rfl rfl rfl q1.out rfl) rfl (HP.out _ _ _ q2.out)
set_option maxRecDepth 100000 in
set_option maxHeartbeats 2000000 in
theorem rgk_3_ok (p : Pk) (ad0 : Option Addr) (len0 cap0 G : Nat) (l : List UInt8) (w : World) (h : RdS w G ad0 len0 cap0 l) (hG : G ≤ w.heap.size) (hk : p.kind = 3) (he : (getN l).2.2 = 0) (hx : (getN l).1 ≤ 1152921504606846976) :
    Calls Tryd.prog 25 #[.slice ad0 len0 cap0, pval p] w (RGo { p with no := sg (getN l).1 } (getN l).2.1.length w) := by
  obtain ⟨W1, hW1⟩ : ∃ W1, Hid (W1 = (w.alloc (.cells p.cells 27)).alloc (.cells (Pk.cells zero) 27)) := ⟨_, Lib.hid rfl⟩
  have H1 := Lib.hid (D2.start hW1.out)
  have C1 : Hid (Calls Tryd.prog 42 #[.slice ad0 len0 cap0] W1 (GD w G p.cells (getN l))) := Lib.hid ((gnum_any ad0 len0 cap0 G l W1 (h.kept fun b hb => H1.out.below.block b (by omega))).mono fun e w' hp => GD.of H1.out hp)
  unfold GD at C1
  clear h hG
  generalize getN l = r at *
  obtain ⟨x, rest, er⟩ := r
  simp only at C1 he hx ⊢
  subst he
  obtain ⟨rn, hrn⟩ : ∃ rn, rest.length = rn := ⟨_, rfl⟩
  rw [hrn] at C1 ⊢
  have hd1 : decide ((x : Int) > 1152921504606846976) = false := decide_eq_false (by omega)
  have hd2 : decide (1152921504606846976 < (x : Int)) = false := hd1
  clear hx
  have hv0 : Hid (IntKind.i64.wrap (x : Int) = sg x) := Lib.hid rfl
  generalize sg x = v0 at *
  clear hrn
  have HP : Hid (∀ ad2 cap2 W, Below w.heap.size w W → RGo { p with no := v0 } rn w (.returned (.tuple #[pval { p with no := v0 }, .slice ad2 rn cap2, .int .i64 0])) W) := Lib.hid (fun ad2 cap2 W hB => ⟨ad2, cap2, rfl, hB⟩)
  generalize RGo { p with no := v0 } rn w = Got at *
  unfold pval at HP
  obtain ⟨kind, ⟨t, f, q⟩, hops, no, to, index, total, stamp, value, ad, cap, body⟩ := p
  simp only at hk
  subst hk
  unfold Pk.cells zero at hW1
  unfold Pk.cells at H1 C1 HP
  unfold pval Pk.cells
  simp only [List.length_nil] at hW1 H1 C1 HP ⊢
  obtain ⟨n, hn⟩ : ∃ n, body.length = n := ⟨_, rfl⟩
  simp only [hn] at hW1 H1 C1 HP ⊢
  have HC := Lib.hid (fun (W : World) (h : D2 w #[.int .i64 3, .int .i64 t, .int .i64 f, .int .u32 q, .int .i64 hops, .int .i64 no, .int .i64 to, .int .i64 index, .int .i64 total, .int .i64 stamp, .int .i64 value, .slice ad n cap] W) => And.intro (h.box.cell 0) (h.box.cell 5))
  simp only [List.getElem?_toArray, List.getElem?_cons_succ, List.getElem?_cons_zero] at HC
  have c0 := (HC.out _ H1.out).1
  go_enter Tryd.func25, Tryd.ntmps25
  go_upto_region 1 with fail
  rw [← hW1.out]
  clear hW1
  go_wp2_with fail
  refine (C1.out).mono ?_; rintro e w2 ⟨ad2, cap2, rfl, R2, H2⟩
  clear c0 C1 H1
  have c := H2.out.box.cell 5
  have f9 := H2.out.box.free 5
  have c0 := H2.out.box.cell 0
  simp only [List.getElem?_toArray, List.getElem?_cons_succ, List.getElem?_cons_zero] at c c0
  have H3 := Lib.hid (H2.out.put 5 (.int .i64 v0))
  simp only [List.setIfInBounds_toArray, List.set_cons_zero, List.set_cons_succ] at H3
  clear H2
  have hw0 := hv0.out
  go_upto_region 10 with fail
  clear hw0
  obtain ⟨w3, ew3⟩ : ∃ z, w2.setCell ⟨w.heap.size, 5, none⟩ (.int .i64 v0) = z := ⟨_, rfl⟩
  try rw [hv0.out]
  rw [ew3] at H3 ⊢
  clear c f9 c0 ew3 hv0
  have c0 := H3.out.box.cell 0
  simp only [List.getElem?_toArray, List.getElem?_cons_succ, List.getElem?_cons_zero] at c0
  have qq := H3.out.fin #[.int .i64 3, .int .i64 t, .int .i64 f, .int .u32 q, .int .i64 hops, .int .i64 v0, .int .i64 to, .int .i64 index, .int .i64 total, .int .i64 stamp, .int .i64 value, .slice ad n cap] rfl
  have b1 := Lib.hid H3.out.box
  have b2 := Lib.hid H3.out.res
  have q1 := Lib.hid qq.1
  have q2 := Lib.hid qq.2
  have HO := Lib.hid (pkP_one (⟨3, (t, f, q), hops, v0, to, index, total, stamp, value, ad, cap, body⟩ : Pk))
  unfold zero Pk.cells at b2
  unfold Pk.cells at HO
  simp only [List.length_nil, hn] at b2 HO
  clear qq H3 hn
  go_wp2_with (first
    | (refine wpList_load_row rfl 27 _ rfl _ rfl _ #[.int .i64 3, .int .i64 t, .int .i64 f, .int .u32 q, .int .i64 hops, .int .i64 v0, .int .i64 to, .int .i64 index, .int .i64 total, .int .i64 stamp, .int .i64 value, .slice ad n cap] _ _ b1.out Tryd.underlying27 rfl infoPk ?_)
    | (refine wpList_store_row rfl 27 _ _ rfl _ #[.int .i64 3, .int .i64 t, .int .i64 f, .int .u32 q, .int .i64 hops, .int .i64 v0, .int .i64 to, .int .i64 index, .int .i64 total, .int .i64 stamp, .int .i64 value, .slice ad n cap] rfl rfl _ _ b2.out infoPk rfl HO.out ?_))
  exact bodyPost_ret (results_pk33 rfl _ _ (w.heap.size + 1) _ (.slice ad2 rn cap2) (.int .i64 0) rfl rfl rfl q1.out rfl) rfl (HP.out _ _ _ q2.out)
set_option maxRecDepth 100000 in
set_option maxHeartbeats 2000000 in
theorem rgk_2_err2 (p : Pk) (ad0 : Option Addr) (len0 cap0 G : Nat) (l : List UInt8) (w : World) (h : RdS w G ad0 len0 cap0 l) (hG : G ≤ w.heap.size) (hk : p.kind = 2) (he : (getF l 8).2.2 = 0) (he2 : (getF (getF l 8).2.1 8).2.2 ≠ 0) :
    Calls Tryd.prog 25 #[.slice ad0 len0 cap0, pval p] w fun e w' => e = .returned (.tuple #[pval zero, .slice none 0 0, .int .i64 (((getF (getF l 8).2.1 8).2.2 : Nat) : Int)]) ∧ Below w.heap.size w w' := by
  obtain ⟨W1, hW1⟩ : ∃ W1, Hid (W1 = (w.alloc (.cells p.cells 27)).alloc (.cells (Pk.cells zero) 27)) := ⟨_, Lib.hid rfl⟩
  have H1 := Lib.hid (D2.start hW1.out)
  have C1 : Hid (Calls Tryd.prog 43 #[.slice ad0 len0 cap0, .int .i64 8] W1 (GD w G p.cells (getF l 8))) := Lib.hid ((gfix_any ad0 len0 cap0 G l 8 W1 (h.kept fun b hb => H1.out.below.block b (by omega))).mono fun e w' hp => GD.of H1.out hp)
  have C2 : Hid (∀ cs ad cap W, RdS W G ad (getF l 8).2.1.length cap (getF l 8).2.1 → D2 w cs W → Calls Tryd.prog 43 #[.slice ad (getF l 8).2.1.length cap, .int .i64 8] W (GD w G cs (getF (getF l 8).2.1 8))) := Lib.hid (fun cs ad cap W hr hd => (gfix_any ad _ cap G _ 8 W hr).mono fun e w' hp => GD.of hd hp)
  have HR : Hid (∀ (W : World) ad len cap m i u, RdS W G ad len cap m → RdS (W.setCell ⟨w.heap.size, i, none⟩ u) G ad len cap m) := Lib.hid (fun W ad len cap m i u hr => rds_put hr hG i u)
  have hq1 : ((((getF (getF l 8).2.1 8).2.2 : Nat) : Int) == 0) = false := by simpa using he2
  have hq2 : ((((getF (getF l 8).2.1 8).2.2 : Nat) : Int) != 0) = true := by simpa using he2
  clear he2
  unfold GD at C1 C2
  clear h hG
  generalize getF (getF l 8).2.1 8 = r2 at *
  generalize getF l 8 = r at *
  obtain ⟨x, rest, er⟩ := r
  obtain ⟨x2, rest2, er2⟩ := r2
  simp only at C1 C2 he hq1 hq2 ⊢
  subst he
  obtain ⟨rn, hrn⟩ : ∃ rn, rest.length = rn := ⟨_, rfl⟩
  rw [hrn] at C1 C2
  unfold zero
  have hv0 : Hid (IntKind.i64.wrap (x : Int) = sg x) := Lib.hid rfl
  generalize sg x = v0 at *
  clear hrn
  obtain ⟨kind, ⟨t, f, q⟩, hops, no, to, index, total, stamp, value, ad, cap, body⟩ := p
  simp only at hk
  subst hk
  unfold Pk.cells zero at hW1
  unfold Pk.cells at H1 C1
  unfold pval Pk.cells
  simp only [List.length_nil] at hW1 H1 C1 ⊢
  obtain ⟨n, hn⟩ : ∃ n, body.length = n := ⟨_, rfl⟩
  simp only [hn] at hW1 H1 C1 ⊢
  clear hn
  have HC := Lib.hid (fun (W : World) (h : D2 w #[.int .i64 2, .int .i64 t, .int .i64 f, .int .u32 q, .int .i64 hops, .int .i64 no, .int .i64 to, .int .i64 index, .int .i64 total, .int .i64 stamp, .int .i64 value, .slice ad n cap] W) => And.intro (h.box.cell 0) (h.box.cell 5))
  simp only [List.getElem?_toArray, List.getElem?_cons_succ, List.getElem?_cons_zero] at HC
  have c0 := (HC.out _ H1.out).1
  go_enter Tryd.func25, Tryd.ntmps25
  go_upto_region 1 with fail
  rw [← hW1.out]
  clear hW1
  go_wp2_with fail
  refine (C1.out).mono ?_; rintro e w2 ⟨ad2, cap2, rfl, R2, H2⟩
  clear c0 C1 H1
  have c := H2.out.box.cell 9
  have f9 := H2.out.box.free 9
  have c0 := H2.out.box.cell 0
  simp only [List.getElem?_toArray, List.getElem?_cons_succ, List.getElem?_cons_zero] at c c0
  have H3 := Lib.hid (H2.out.put 9 (.int .i64 v0))
  have R3 := Lib.hid (HR.out _ _ _ _ _ 9 (.int .i64 v0) R2.out)
  simp only [List.setIfInBounds_toArray, List.set_cons_zero, List.set_cons_succ] at H3
  clear H2 R2
  have hw0 := hv0.out
  go_upto_region 15 with fail
  clear hw0
  obtain ⟨w3, ew3⟩ : ∃ z, w2.setCell ⟨w.heap.size, 9, none⟩ (.int .i64 v0) = z := ⟨_, rfl⟩
  try rw [hv0.out]
  rw [ew3] at H3 R3 ⊢
  clear c f9 c0 ew3 hv0 HR
  have C3 := Lib.hid (C2.out _ _ _ _ R3.out H3.out)
  have c0 := H3.out.box.cell 0
  simp only [List.getElem?_toArray, List.getElem?_cons_succ, List.getElem?_cons_zero] at c0
  clear C2
  go_wp2_with fail
  refine (C3.out).mono ?_; rintro e w4 ⟨ad4, cap4, rfl, R4, H4⟩
  clear c0 C3 H3 R3 R4
  have qq := H4.out.fin #[.int .i64 0, .int .i64 0, .int .i64 0, .int .u32 0, .int .i64 0, .int .i64 0, .int .i64 0, .int .i64 0, .int .i64 0, .int .i64 0, .int .i64 0, .slice none 0 0] rfl
  have b2 := Lib.hid H4.out.res
  have q1 := Lib.hid qq.1
  have q2 := Lib.hid qq.2
  have HO := Lib.hid zeroP_one
  unfold zero Pk.cells at b2 HO
  simp only [List.length_nil] at b2 HO
  clear qq H4
  go_wp2_with (refine wpList_store_row rfl 27 _ _ rfl _ #[.int .i64 0, .int .i64 0, .int .i64 0, .int .u32 0, .int .i64 0, .int .i64 0, .int .i64 0, .int .i64 0, .int .i64 0, .int .i64 0, .int .i64 0, .slice none 0 0] rfl rfl _ _ b2.out infoPk rfl HO.out ?_)
  exact bodyPost_ret (results_pk33 rfl _ _ (w.heap.size + 1) _ (.slice none 0 0) (.int .i64 er2) rfl rfl rfl q1.out rfl) rfl ⟨rfl, q2.out⟩
set_option maxRecDepth 100000 in
set_option maxHeartbeats 2000000 in
theorem rgk_2_ok (p : Pk) (ad0 : Option Addr) (len0 cap0 G : Nat) (l : List UInt8) (w : World) (h : RdS w G ad0 len0 cap0 l) (hG : G ≤ w.heap.size) (hk : p.kind = 2) (he : (getF l 8).2.2 = 0) (he2 : (getF (getF l 8).2.1 8).2.2 = 0) :
    Calls Tryd.prog 25 #[.slice ad0 len0 cap0, pval p] w (RGo { p with stamp := sg (getF l 8).1, value := sg (getF (getF l 8).2.1 8).1 } (getF (getF l 8).2.1 8).2.1.length w) := by
  obtain ⟨W1, hW1⟩ : ∃ W1, Hid (W1 = (w.alloc (.cells p.cells 27)).alloc (.cells (Pk.cells zero) 27)) := ⟨_, Lib.hid rfl⟩
  have H1 := Lib.hid (D2.start hW1.out)
  have C1 : Hid (Calls Tryd.prog 43 #[.slice ad0 len0 cap0, .int .i64 8] W1 (GD w G p.cells (getF l 8))) := Lib.hid ((gfix_any ad0 len0 cap0 G l 8 W1 (h.kept fun b hb => H1.out.below.block b (by omega))).mono fun e w' hp => GD.of H1.out hp)
  have C2 : Hid (∀ cs ad cap W, RdS W G ad (getF l 8).2.1.length cap (getF l 8).2.1 → D2 w cs W → Calls Tryd.prog 43 #[.slice ad (getF l 8).2.1.length cap, .int .i64 8] W (GD w G cs (getF (getF l 8).2.1 8))) := Lib.hid (fun cs ad cap W hr hd => (gfix_any ad _ cap G _ 8 W hr).mono fun e w' hp => GD.of hd hp)
  have HR : Hid (∀ (W : World) ad len cap m i u, RdS W G ad len cap m → RdS (W.setCell ⟨w.heap.size, i, none⟩ u) G ad len cap m) := Lib.hid (fun W ad len cap m i u hr => rds_put hr hG i u)
  unfold GD at C1 C2
  clear h hG
  generalize getF (getF l 8).2.1 8 = r2 at *
  generalize getF l 8 = r at *
  obtain ⟨x, rest, er⟩ := r
  obtain ⟨x2, rest2, er2⟩ := r2
  simp only at C1 C2 he he2 ⊢
  subst he
  obtain ⟨rn, hrn⟩ : ∃ rn, rest.length = rn := ⟨_, rfl⟩
  rw [hrn] at C1 C2
  subst he2
  obtain ⟨rn2, hrn2⟩ : ∃ rn, rest2.length = rn := ⟨_, rfl⟩
  rw [hrn2] at C2 ⊢
  have hv1 : Hid (IntKind.i64.wrap (x2 : Int) = sg x2) := Lib.hid rfl
  generalize sg x2 = v1 at *
  clear hrn2
  have hv0 : Hid (IntKind.i64.wrap (x : Int) = sg x) := Lib.hid rfl
  generalize sg x = v0 at *
  clear hrn
  have HP : Hid (∀ ad2 cap2 W, Below w.heap.size w W → RGo { p with stamp := v0, value := v1 } rn2 w (.returned (.tuple #[pval { p with stamp := v0, value := v1 }, .slice ad2 rn2 cap2, .int .i64 0])) W) := Lib.hid (fun ad2 cap2 W hB => ⟨ad2, cap2, rfl, hB⟩)
  generalize RGo { p with stamp := v0, value := v1 } rn2 w = Got at *
  unfold pval at HP
  obtain ⟨kind, ⟨t, f, q⟩, hops, no, to, index, total, stamp, value, ad, cap, body⟩ := p
  simp only at hk
  subst hk
  unfold Pk.cells zero at hW1
  unfold Pk.cells at H1 C1 HP
  unfold pval Pk.cells
  simp only [List.length_nil] at hW1 H1 C1 HP ⊢
  obtain ⟨n, hn⟩ : ∃ n, body.length = n := ⟨_, rfl⟩
  simp only [hn] at hW1 H1 C1 HP ⊢
  have HC := Lib.hid (fun (W : World) (h : D2 w #[.int .i64 2, .int .i64 t, .int .i64 f, .int .u32 q, .int .i64 hops, .int .i64 no, .int .i64 to, .int .i64 index, .int .i64 total, .int .i64 stamp, .int .i64 value, .slice ad n cap] W) => And.intro (h.box.cell 0) (h.box.cell 5))
  simp only [List.getElem?_toArray, List.getElem?_cons_succ, List.getElem?_cons_zero] at HC
  have c0 := (HC.out _ H1.out).1
  go_enter Tryd.func25, Tryd.ntmps25
  go_upto_region 1 with fail
  rw [← hW1.out]
  clear hW1
  go_wp2_with fail
  refine (C1.out).mono ?_; rintro e w2 ⟨ad2, cap2, rfl, R2, H2⟩
  clear c0 C1 H1
  have c := H2.out.box.cell 9
  have f9 := H2.out.box.free 9
  have c0 := H2.out.box.cell 0
  simp only [List.getElem?_toArray, List.getElem?_cons_succ, List.getElem?_cons_zero] at c c0
  have H3 := Lib.hid (H2.out.put 9 (.int .i64 v0))
  have R3 := Lib.hid (HR.out _ _ _ _ _ 9 (.int .i64 v0) R2.out)
  simp only [List.setIfInBounds_toArray, List.set_cons_zero, List.set_cons_succ] at H3
  clear H2 R2
  have hw0 := hv0.out
  go_upto_region 15 with fail
  clear hw0
  obtain ⟨w3, ew3⟩ : ∃ z, w2.setCell ⟨w.heap.size, 9, none⟩ (.int .i64 v0) = z := ⟨_, rfl⟩
  try rw [hv0.out]
  rw [ew3] at H3 R3 ⊢
  clear c f9 c0 ew3 hv0 HR
  have C3 := Lib.hid (C2.out _ _ _ _ R3.out H3.out)
  have c0 := H3.out.box.cell 0
  simp only [List.getElem?_toArray, List.getElem?_cons_succ, List.getElem?_cons_zero] at c0
  clear C2
  go_wp2_with fail
  refine (C3.out).mono ?_; rintro e w4 ⟨ad4, cap4, rfl, R4, H4⟩
  clear c0 C3 H3 R3 R4
  have c := H4.out.box.cell 10
  have f9 := H4.out.box.free 10
  have c0 := H4.out.box.cell 0
  simp only [List.getElem?_toArray, List.getElem?_cons_succ, List.getElem?_cons_zero] at c c0
  have H5 := Lib.hid (H4.out.put 10 (.int .i64 v1))
  simp only [List.setIfInBounds_toArray, List.set_cons_zero, List.set_cons_succ] at H5
  clear H4
  have hw1 := hv1.out
  go_upto_region 20 with fail
  clear hw1
  obtain ⟨w5, ew5⟩ : ∃ z, w4.setCell ⟨w.heap.size, 10, none⟩ (.int .i64 v1) = z := ⟨_, rfl⟩
  try rw [hv1.out]
  rw [ew5] at H5 ⊢
  clear c f9 c0 ew5 hv1
  have qq := H5.out.fin #[.int .i64 2, .int .i64 t, .int .i64 f, .int .u32 q, .int .i64 hops, .int .i64 no, .int .i64 to, .int .i64 index, .int .i64 total, .int .i64 v0, .int .i64 v1, .slice ad n cap] rfl
  have b1 := Lib.hid H5.out.box
  have b2 := Lib.hid H5.out.res
  have q1 := Lib.hid qq.1
  have q2 := Lib.hid qq.2
  have HO := Lib.hid (pkP_one (⟨2, (t, f, q), hops, no, to, index, total, v0, v1, ad, cap, body⟩ : Pk))
  unfold zero Pk.cells at b2
  unfold Pk.cells at HO
  simp only [List.length_nil, hn] at b2 HO
  clear qq H5 hn
  go_wp2_with (first
    | (refine wpList_load_row rfl 27 _ rfl _ rfl _ #[.int .i64 2, .int .i64 t, .int .i64 f, .int .u32 q, .int .i64 hops, .int .i64 no, .int .i64 to, .int .i64 index, .int .i64 total, .int .i64 v0, .int .i64 v1, .slice ad n cap] _ _ b1.out Tryd.underlying27 rfl infoPk ?_)
    | (refine wpList_store_row rfl 27 _ _ rfl _ #[.int .i64 2, .int .i64 t, .int .i64 f, .int .u32 q, .int .i64 hops, .int .i64 no, .int .i64 to, .int .i64 index, .int .i64 total, .int .i64 v0, .int .i64 v1, .slice ad n cap] rfl rfl _ _ b2.out infoPk rfl HO.out ?_))
  exact bodyPost_ret (results_pk33 rfl _ _ (w.heap.size + 1) _ (.slice ad4 rn2 cap4) (.int .i64 0) rfl rfl rfl q1.out rfl) rfl (HP.out _ _ _ q2.out)
end Go.Proofs.YtanfnhgaooafeaaDoor.Pul
