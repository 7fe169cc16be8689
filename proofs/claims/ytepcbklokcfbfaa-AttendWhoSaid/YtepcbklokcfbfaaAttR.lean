/- The document's Get (layer 12). -/
import Derived.Test.YtepcbklokcfbfaaAttP
namespace Go.Proofs.Ytepcbklokcfbfaa.Att
open Go.ChangeShapes Go.WideShapes Go.ChangeAt Go.RowKit Go.Deep
open Go.Proofs.Ytepcbklokcfbfaa.Byt Go.Proofs.Ytepcbklokcfbfaa.Key Go.Proofs.Ytepcbklokcfbfaa.Buf Go.Proofs.Ytepcbklokcfbfaa.Hed Go.Proofs.Ytepcbklokcfbfaa.Dat Go.Proofs.Ytepcbklokcfbfaa.BufM Go.Proofs.Ytepcbklokcfbfaa.Pkt
set_option linter.unusedVariables false
set_option linter.unusedSimpArgs false
set_option maxRecDepth 100000 in
set_option maxHeartbeats 2000000 in
theorem ragk_err (p : Pk) (ad0 : Option Addr) (len0 cap0 G : Nat) (l : List UInt8) (w : World) (h : RdS w G ad0 len0 cap0 l) (hG : G ≤ w.heap.size) (he : (getN l).2.2 ≠ 0) :
    Calls Try.prog 21 #[.slice ad0 len0 cap0, pval p] w fun e w' => e = .returned (.tuple #[pval zero, .slice none 0 0, .int .i64 (((getN l).2.2 : Nat) : Int)]) ∧ Below w.heap.size w w' := by
  obtain ⟨W1, hW1⟩ : ∃ W1, Hid (W1 = (w.alloc (.cells p.cells 27)).alloc (.cells (Pk.cells zero) 27)) := ⟨_, Lib.hid rfl⟩
  have H1 := Lib.hid (D2.start hW1.out)
  have C1 : Hid (Calls Try.prog 36 #[.slice ad0 len0 cap0] W1 (GD w G p.cells (getN l))) := Lib.hid ((gnum_any ad0 len0 cap0 G l W1 (h.kept fun b hb => H1.out.below.block b (by omega))).mono fun e w' hp => GD.of H1.out hp)
  have hq1 : ((((getN l).2.2 : Nat) : Int) == 0) = false := by simpa using he
  have hq2 : ((((getN l).2.2 : Nat) : Int) != 0) = true := by simpa using he
  unfold GD at C1
  clear he h hG
  generalize getN l = r at *
  obtain ⟨x, rest, er⟩ := r
  simp only at C1 hq1 hq2 ⊢
  unfold zero
  obtain ⟨kind, ⟨t, f, q⟩, hops, no, to, index, total, stamp, value, ad, cap, body⟩ := p
  unfold Pk.cells zero at hW1
  unfold Pk.cells at H1 C1
  unfold pval Pk.cells
  simp only [List.length_nil] at hW1 H1 C1 ⊢
  obtain ⟨n, hn⟩ : ∃ n, body.length = n := ⟨_, rfl⟩
  simp only [hn] at hW1 H1 C1 ⊢
  clear hn
  go_enter Try.func21, Try.ntmps21
  go_upto_region 1 with fail
  rw [← hW1.out]
  clear hW1
  go_wp2_with fail
  refine (C1.out).mono ?_; rintro e w2 ⟨ad2, cap2, rfl, R2, H2⟩
  clear C1 H1
  have qq := H2.out.fin #[.int .i64 0, .int .i64 0, .int .i64 0, .int .u32 0, .int .i64 0, .int .i64 0, .int .i64 0, .int .i64 0, .int .i64 0, .int .i64 0, .int .i64 0, .slice none 0 0] rfl
  have b2 := Lib.hid H2.out.res
  have q1 := Lib.hid qq.1
  have q2 := Lib.hid qq.2
  have HO := Lib.hid zeroP_one
  unfold zero Pk.cells at b2 HO
  simp only [List.length_nil] at b2 HO
  clear qq H2
  go_wp2_with (refine wpList_store_row rfl 27 _ _ rfl _ #[.int .i64 0, .int .i64 0, .int .i64 0, .int .u32 0, .int .i64 0, .int .i64 0, .int .i64 0, .int .i64 0, .int .i64 0, .int .i64 0, .int .i64 0, .slice none 0 0] rfl rfl _ _ b2.out infoPk rfl HO.out ?_)
  exact bodyPost_ret (results_pk33 rfl _ _ (w.heap.size + 1) _ (.slice none 0 0) (.int .i64 er) rfl rfl rfl q1.out rfl) rfl ⟨rfl, q2.out⟩
set_option maxRecDepth 100000 in
set_option maxHeartbeats 2000000 in
theorem ragk_range (p : Pk) (ad0 : Option Addr) (len0 cap0 G : Nat) (l : List UInt8) (w : World) (h : RdS w G ad0 len0 cap0 l) (hG : G ≤ w.heap.size) (he : (getN l).2.2 = 0) (hx : 1152921504606846976 < (getN l).1) :
    Calls Try.prog 21 #[.slice ad0 len0 cap0, pval p] w fun e w' => e = .returned (.tuple #[pval zero, .slice none 0 0, .int .i64 2]) ∧ Below w.heap.size w w' := by
  obtain ⟨W1, hW1⟩ : ∃ W1, Hid (W1 = (w.alloc (.cells p.cells 27)).alloc (.cells (Pk.cells zero) 27)) := ⟨_, Lib.hid rfl⟩
  have H1 := Lib.hid (D2.start hW1.out)
  have C1 : Hid (Calls Try.prog 36 #[.slice ad0 len0 cap0] W1 (GD w G p.cells (getN l))) := Lib.hid ((gnum_any ad0 len0 cap0 G l W1 (h.kept fun b hb => H1.out.below.block b (by omega))).mono fun e w' hp => GD.of H1.out hp)
  unfold GD at C1
  clear h hG
  generalize getN l = r at *
  obtain ⟨x, rest, er⟩ := r
  simp only at C1 he hx ⊢
  subst he
  have hd1 : decide ((x : Int) > 1152921504606846976) = true := decide_eq_true (by omega)
  have hd2 : decide (1152921504606846976 < (x : Int)) = true := hd1
  clear hx
  unfold zero
  obtain ⟨kind, ⟨t, f, q⟩, hops, no, to, index, total, stamp, value, ad, cap, body⟩ := p
  unfold Pk.cells zero at hW1
  unfold Pk.cells at H1 C1
  unfold pval Pk.cells
  simp only [List.length_nil] at hW1 H1 C1 ⊢
  obtain ⟨n, hn⟩ : ∃ n, body.length = n := ⟨_, rfl⟩
  simp only [hn] at hW1 H1 C1 ⊢
  clear hn
  go_enter Try.func21, Try.ntmps21
  go_upto_region 1 with fail
  rw [← hW1.out]
  clear hW1
  go_wp2_with fail
  refine (C1.out).mono ?_; rintro e w2 ⟨ad2, cap2, rfl, R2, H2⟩
  clear C1 H1
  have qq := H2.out.fin #[.int .i64 0, .int .i64 0, .int .i64 0, .int .u32 0, .int .i64 0, .int .i64 0, .int .i64 0, .int .i64 0, .int .i64 0, .int .i64 0, .int .i64 0, .slice none 0 0] rfl
  have b2 := Lib.hid H2.out.res
  have q1 := Lib.hid qq.1
  have q2 := Lib.hid qq.2
  have HO := Lib.hid zeroP_one
  unfold zero Pk.cells at b2 HO
  simp only [List.length_nil] at b2 HO
  clear qq H2
  go_wp2_with (refine wpList_store_row rfl 27 _ _ rfl _ #[.int .i64 0, .int .i64 0, .int .i64 0, .int .u32 0, .int .i64 0, .int .i64 0, .int .i64 0, .int .i64 0, .int .i64 0, .int .i64 0, .int .i64 0, .slice none 0 0] rfl rfl _ _ b2.out infoPk rfl HO.out ?_)
  exact bodyPost_ret (results_pk33 rfl _ _ (w.heap.size + 1) _ (.slice none 0 0) (.int .i64 2) rfl rfl rfl q1.out rfl) rfl ⟨rfl, q2.out⟩
set_option maxRecDepth 100000 in
set_option maxHeartbeats 2000000 in
theorem ragk_ok (p : Pk) (ad0 : Option Addr) (len0 cap0 G : Nat) (l : List UInt8) (w : World) (h : RdS w G ad0 len0 cap0 l) (hG : G ≤ w.heap.size) (he : (getN l).2.2 = 0) (hx : (getN l).1 ≤ 1152921504606846976) :
    Calls Try.prog 21 #[.slice ad0 len0 cap0, pval p] w (RGo { p with no := sg (getN l).1 } (getN l).2.1.length w) := by
  obtain ⟨W1, hW1⟩ : ∃ W1, Hid (W1 = (w.alloc (.cells p.cells 27)).alloc (.cells (Pk.cells zero) 27)) := ⟨_, Lib.hid rfl⟩
  have H1 := Lib.hid (D2.start hW1.out)
  have C1 : Hid (Calls Try.prog 36 #[.slice ad0 len0 cap0] W1 (GD w G p.cells (getN l))) := Lib.hid ((gnum_any ad0 len0 cap0 G l W1 (h.kept fun b hb => H1.out.below.block b (by omega))).mono fun e w' hp => GD.of H1.out hp)
  unfold GD at C1
  clear h hG
  generalize getN l = r at *
  obtain ⟨x, rest, er⟩ := r
  simp only at C1 he hx ⊢
  subst he
  obtain ⟨rn, hrn⟩ : ∃ rn, rest.length = rn := ⟨_, rfl⟩
  rw [hrn] at C1 ⊢
  have hd1 : decide ((x : Int) > 1152921504606846976) = false := decide_eq_false (by omega)
  have hd2 : decide (1152921504606846976 < (x : Int)) = false := hd1
  clear hx
  have hv0 : Hid (IntKind.i64.wrap (x : Int) = sg x) := Lib.hid rfl
  generalize sg x = v0 at *
  clear hrn
  have HP : Hid (∀ ad2 cap2 W, Below w.heap.size w W → RGo { p with no := v0 } rn w (.returned (.tuple #[pval { p with no := v0 }, .slice ad2 rn cap2, .int .i64 0])) W) := Lib.hid (fun ad2 cap2 W hB => ⟨ad2, cap2, rfl, hB⟩)
  generalize RGo { p with no := v0 } rn w = Got at *
  unfold pval at HP
  obtain ⟨kind, ⟨t, f, q⟩, hops, no, to, index, total, stamp, value, ad, cap, body⟩ := p
  unfold Pk.cells zero at hW1
  unfold Pk.cells at H1 C1 HP
  unfold pval Pk.cells
  simp only [List.length_nil] at hW1 H1 C1 HP ⊢
  obtain ⟨n, hn⟩ : ∃ n, body.length = n := ⟨_, rfl⟩
  simp only [hn] at hW1 H1 C1 HP ⊢
  go_enter Try.func21, Try.ntmps21
  go_upto_region 1 with fail
  rw [← hW1.out]
  clear hW1
  go_wp2_with fail
  refine (C1.out).mono ?_; rintro e w2 ⟨ad2, cap2, rfl, R2, H2⟩
  clear C1 H1
  have c := H2.out.box.cell 5
  have f9 := H2.out.box.free 5
  simp only [List.getElem?_toArray, List.getElem?_cons_succ, List.getElem?_cons_zero] at c
  have H3 := Lib.hid (H2.out.put 5 (.int .i64 v0))
  simp only [List.setIfInBounds_toArray, List.set_cons_zero, List.set_cons_succ] at H3
  clear H2
  have hw0 := hv0.out
  go_upto_region 7 with fail
  clear hw0
  obtain ⟨w3, ew3⟩ : ∃ z, w2.setCell ⟨w.heap.size, 5, none⟩ (.int .i64 v0) = z := ⟨_, rfl⟩
  try rw [hv0.out]
  rw [ew3] at H3 ⊢
  clear c f9 ew3 hv0
  have qq := H3.out.fin #[.int .i64 kind, .int .i64 t, .int .i64 f, .int .u32 q, .int .i64 hops, .int .i64 v0, .int .i64 to, .int .i64 index, .int .i64 total, .int .i64 stamp, .int .i64 value, .slice ad n cap] rfl
  have b1 := Lib.hid H3.out.box
  have b2 := Lib.hid H3.out.res
  have q1 := Lib.hid qq.1
  have q2 := Lib.hid qq.2
  have HO := Lib.hid (pkP_one (⟨kind, (t, f, q), hops, v0, to, index, total, stamp, value, ad, cap, body⟩ : Pk))
  unfold zero Pk.cells at b2
  unfold Pk.cells at HO
  simp only [List.length_nil, hn] at b2 HO
  clear qq H3 hn
  go_wp2_with (first
    | (refine wpList_load_row rfl 27 _ rfl _ rfl _ #[.int .i64 kind, .int .i64 t, .int .i64 f, .int .u32 q, .int .i64 hops, .int .i64 v0, .int .i64 to, .int .i64 index, .int .i64 total, .int .i64 stamp, .int .i64 value, .slice ad n cap] _ _ b1.out Try.underlying27 rfl infoPk ?_)
    | (refine wpList_store_row rfl 27 _ _ rfl _ #[.int .i64 kind, .int .i64 t, .int .i64 f, .int .u32 q, .int .i64 hops, .int .i64 v0, .int .i64 to, .int .i64 index, .int .i64 total, .int .i64 stamp, .int .i64 value, .slice ad n cap] rfl rfl _ _ b2.out infoPk rfl HO.out ?_))
  exact bodyPost_ret (results_pk33 rfl _ _ (w.heap.size + 1) _ (.slice ad2 rn cap2) (.int .i64 0) rfl rfl rfl q1.out rfl) rfl (HP.out _ _ _ q2.out)
end Go.Proofs.Ytepcbklokcfbfaa.Att
