/- A packet whose body is kept short (layer 14): the statements' Cut. -/
import Derived.Test.YtanfnhgaooafeaaGreatDoorPktA
import Derived.Test.YtanfnhgaooafeaaGreatDoorDatD
namespace Go.Proofs.YtanfnhgaooafeaaGreatDoor.Sea
open Go.ChangeShapes Go.WideShapes Go.ChangeAt Go.RowKit Go.Deep
open Go.Proofs.YtanfnhgaooafeaaGreatDoor.Byt Go.Proofs.YtanfnhgaooafeaaGreatDoor.Key Go.Proofs.YtanfnhgaooafeaaGreatDoor.Buf Go.Proofs.YtanfnhgaooafeaaGreatDoor.Hed Go.Proofs.YtanfnhgaooafeaaGreatDoor.Dat Go.Proofs.YtanfnhgaooafeaaGreatDoor.BufM Go.Proofs.YtanfnhgaooafeaaGreatDoor.Pkt
set_option linter.unusedVariables false
set_option linter.unusedSimpArgs false
set_option maxRecDepth 100000 in
set_option maxHeartbeats 2000000 in
theorem scut_any (p : Pk) (w : World) (hr : RdB w p.ad p.body) (hn : p.ad = none → p.cap = 0) (hle : p.body.length ≤ p.cap) (hm : p.cap ≤ 9223372036854775807) :
    Calls Tryz.prog 4 #[pval p] w fun e w' => ∃ ad' cap', e = .returned (pval (bodP p ad' cap' (p.body.take 1030))) ∧ OwnB w' (w.heap.size + 2) (.slice ad' (p.body.take 1030).length cap') (p.body.take 1030) ∧ Below w.heap.size w w' := by
  obtain ⟨W1, hW1⟩ : ∃ W1, Hid (W1 = (w.alloc (.cells p.cells 27)).alloc (.cells (Pk.cells zero) 27)) := ⟨_, Lib.hid rfl⟩
  have HX := Lib.hid (boxes_two w W1 _ _ _ hW1.out)
  have hs1 : W1.heap.size = w.heap.size + 2 := by rw [hW1.out]; simp
  have HO : Hid (OwnB (W1.alloc (.cells #[] 5)) (w.heap.size + 2) (.slice (some ⟨W1.heap.size, 0, none⟩) 0 0) []) := Lib.hid (hs1 ▸ Buf.own_zero W1)
  have hBa : Below W1.heap.size W1 (W1.alloc (.cells #[] 5)) := (Below.refl _ _).alloc (Nat.le_refl _) _
  have HRD := Lib.hid ((hr.below (HX.out.1.trans (hBa.mono HX.out.1.size))).take 1030)
  have HBz : Hid (w.heap.size + 2 ≤ (W1.alloc (.cells #[] 5)).heap.size) := Lib.hid (hs1 ▸ hBa.size)
  have HE : Hid ((min (p.body.length : Int) 1030).toNat = (p.body.take 1030).length) := Lib.hid (by rw [List.length_take]; omega)
  have HY : Hid ((p.body.take 1030).length ≤ 1030) := Lib.hid (by rw [List.length_take]; omega)
  have HCx : Hid (_ ∧ _) := Lib.hid (And.intro (blk_cells (HX.out.2.1.alloc (.cells #[] 5))) (blk_cells HX.out.2.1))
  have HS := Lib.hid hs1
  have hin : (p.body.length : Int) ≤ (p.cap : Int) ∧ (p.cap : Int) ≤ 9223372036854775807 := by omega
  obtain ⟨hin1, hin2⟩ := hin
  unfold bodP
  generalize p.body.take 1030 = y0 at *
  obtain ⟨kind, ⟨t, f, s⟩, hops, no, to, index, total, stamp, value, ad, cap, body⟩ := p
  unfold pval
  unfold Pk.cells zero at HX hW1
  unfold Pk.cells
  simp only [List.length_nil] at HX hW1 HE HRD HCx hin1 hin2 hn ⊢
  obtain ⟨n, hnn⟩ : ∃ n, body.length = n := ⟨_, rfl⟩
  obtain ⟨m, hmm⟩ : ∃ m, y0.length = m := ⟨_, rfl⟩
  simp only [hnn] at HX hW1 HE HCx hin1 ⊢
  have HM := Lib.hid hmm
  clear hnn hs1 hBa hle hr
  go_enter Tryz.func4, Tryz.ntmps4
  go_upto_region 1 with fail
  rw [← hW1.out]
  obtain ⟨⟨c0, c1, c2, c3, c4, c5, c6, c7, c8, c9, c10, c11⟩, d0, d1, d2, d3, d4, d5, d6, d7, d8, d9, d10, d11⟩ := HCx.out
  go_upto_region 2 with (at_builtin; refine Hed.app_step rfl _ _ rfl (w.heap.size + 2) (some ⟨W1.heap.size, 0, none⟩) 0 0 [] rfl HO.out ad _ cap y0 rfl HE.out HRD.out hn (by have := HY.out; simp; omega) HBz.out ?_; intro l1 ad1 cap1 w3 hl1 ho3 hb3 _; have k11 := (Blk.below2 (HX.out.2.1.alloc (.cells #[] 5)) hb3 (by omega)).cell 11; have f11 := (Blk.below2 (HX.out.2.1.alloc (.cells #[] 5)) hb3 (by omega)).free 11; simp only [List.getElem?_toArray, List.getElem?_cons_succ, List.getElem?_cons_zero] at k11)
  have hl1e : l1 = y0 := by rw [hl1.out, List.nil_append]
  subst hl1e
  simp only [HM.out] at ho3 ⊢
  clear c0 c1 c2 c3 c4 c5 c6 c7 c8 c9 c10 c11 d0 d1 d2 d3 d4 d5 d6 d7 d8 d9 d10 d11 k11 f11 HCx
  have hb := HX.out.2.1.alloc (.cells #[] 5)
  have hd := HX.out.2.2.alloc (.cells #[] 5)
  have hB1 : Below w.heap.size w (W1.alloc (.cells #[] 5)) := HX.out.1.alloc HX.out.1.size _
  have b3 := hb.below2 hb3 (by omega)
  have d3 := hd.below2 hb3 (by omega)
  have g1 := Lib.hid (b3.put 11 (.slice ad1 m cap1))
  have g2 := Lib.hid (d3.far (p := ⟨w.heap.size, 11, none⟩) (by simp) (.slice ad1 m cap1))
  have HA := Lib.hid ((Away.refl w.heap.size w3).set 11 (.slice ad1 m cap1))
  have HB4 := Lib.hid ((hB1.trans (hb3.mono (by omega))).trans (HA.out.below (Nat.le_refl _)))
  have HO4 := Lib.hid (HA.out.own ho3 (by omega))
  clear hb hd hB1 b3 d3 HA ho3 hb3 hl1
  generalize w3.setCell ⟨w.heap.size, 11, none⟩ (.slice ad1 m cap1) = w4 at *
  have HO5 := Lib.hid (own_kept (w' := w4.setRow (w.heap.size + 1) #[.int .i64 kind, .int .i64 t, .int .i64 f, .int .u32 s, .int .i64 hops, .int .i64 no, .int .i64 to, .int .i64 index, .int .i64 total, .int .i64 stamp, .int .i64 value, .slice ad1 m cap1]) HO4.out (by simp) (fun k hk => setRow_other _ _ _ _ (by have := own_at HO4.out hk; omega)))
  have HB5 : Hid (Below w.heap.size w (w4.setRow (w.heap.size + 1) #[.int .i64 kind, .int .i64 t, .int .i64 f, .int .u32 s, .int .i64 hops, .int .i64 no, .int .i64 to, .int .i64 index, .int .i64 total, .int .i64 stamp, .int .i64 value, .slice ad1 m cap1])) := Lib.hid (below_setRow HB4.out (by omega) _)
  have g4 := Lib.hid (Blk.row g2.out #[.int .i64 kind, .int .i64 t, .int .i64 f, .int .u32 s, .int .i64 hops, .int .i64 no, .int .i64 to, .int .i64 index, .int .i64 total, .int .i64 stamp, .int .i64 value, .slice ad1 m cap1] rfl)
  have O : Hid (Array.all (#[.int .i64 kind, .int .i64 t, .int .i64 f, .int .u32 s, .int .i64 hops, .int .i64 no, .int .i64 to, .int .i64 index, .int .i64 total, .int .i64 stamp, .int .i64 value, .slice ad1 m cap1] : Array Value) (·.oneCell') = true) := Lib.hid (by simp [Value.oneCell'])
  clear HX hW1 HO HO4 HB4 HRD HE
  go_wp2_with (first
    | (refine wpList_load_row rfl 27 _ rfl _ rfl _ #[.int .i64 kind, .int .i64 t, .int .i64 f, .int .u32 s, .int .i64 hops, .int .i64 no, .int .i64 to, .int .i64 index, .int .i64 total, .int .i64 stamp, .int .i64 value, .slice ad1 m cap1] _ _ g1.out Tryz.underlying27 rfl infoPk ?_)
    | (refine wpList_store_row rfl 27 _ _ rfl _ #[.int .i64 kind, .int .i64 t, .int .i64 f, .int .u32 s, .int .i64 hops, .int .i64 no, .int .i64 to, .int .i64 index, .int .i64 total, .int .i64 stamp, .int .i64 value, .slice ad1 m cap1] rfl rfl _ _ g2.out infoPk rfl O.out ?_))
  exact bodyPost_ret (results_pk1 rfl _ _ (w.heap.size + 1) #[.int .i64 kind, .int .i64 t, .int .i64 f, .int .u32 s, .int .i64 hops, .int .i64 no, .int .i64 to, .int .i64 index, .int .i64 total, .int .i64 stamp, .int .i64 value, .slice ad1 m cap1] rfl g4.out rfl) rfl ⟨ad1, cap1, rfl, HO5.out, HB5.out⟩
end Go.Proofs.YtanfnhgaooafeaaGreatDoor.Sea
