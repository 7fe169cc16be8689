/- A head is read (layer 9): Get; of a reader that is nil. -/
import Derived.Test.YtanfnhgaooafeaaGreatDoorHedM
namespace Go.Proofs.YtanfnhgaooafeaaGreatDoor.Hed
open Go.ChangeShapes Go.WideShapes Go.ChangeAt Go.RowKit Go.Deep
open Go.Proofs.YtanfnhgaooafeaaGreatDoor.Byt Go.Proofs.YtanfnhgaooafeaaGreatDoor.Key Go.Proofs.YtanfnhgaooafeaaGreatDoor.Buf Go.Proofs.YtanfnhgaooafeaaGreatDoor.BufM
set_option linter.unusedVariables false
set_option linter.unusedSimpArgs false
/-- What Get hands back. -/
def ht (s : St) : Pk × Int := if (gt s).2.1 = 0 then ((gt s).1, 0) else (zero, (gt s).2.1)
set_option maxRecDepth 100000 in
set_option maxHeartbeats 2000000 in
theorem hget_any (g : Nat) (s : St) (w : World) (h : RR w g s) :
    Calls Tryz.prog 56 #[.pointer (some ⟨g, 0, none⟩)] w (RPost w g (gt s).2.2 (.tuple #[pval (ht s).1, .int .i64 (ht s).2])) := by
  have H0 := Lib.hid (GS.start h (hcs 0 0 0 0 0))
  have CG := Lib.hid (get_any g s _ H0.out.rr)
  unfold ht
  generalize gt s = R at *
  obtain ⟨P, e1, s'⟩ := R
  simp only at CG ⊢
  obtain ⟨V, hV⟩ : ∃ V, Hid ((if e1 = 0 then (P, 0) else (zero, e1)) = V) := ⟨_, Lib.hid rfl⟩
  have HV1 : Hid (e1 = 0 → V = (P, 0)) := Lib.hid (fun h => by rw [← hV.out, if_pos h])
  have HV2 : Hid (e1 ≠ 0 → V = (zero, e1)) := Lib.hid (fun h => by rw [← hV.out, if_neg h])
  rw [hV.out]
  clear hV
  generalize hbp : w.heap.size = bp at *
  obtain ⟨W0, hW0⟩ : ∃ W0, Hid (w.alloc (.cells (hcs 0 0 0 0 0) 27) = W0) := ⟨_, Lib.hid rfl⟩
  rw [hW0.out] at H0 CG
  obtain ⟨kind, ⟨t, f, q⟩, hops, no, to, index, total, stamp, value, ad, cap, body⟩ := P
  unfold pval Pk.cells at CG
  simp only at CG
  clear h
  go_enter Tryz.func56, Tryz.ntmps56
  go_upto_region 1 with fail
  rw [hW0.out]
  try rw [hbp]
  go_wp2_with fail
  refine (CG.out).mono ?_; intro e w1 hp
  obtain ⟨rfl, H1⟩ := H0.out.next hp
  clear hp H0 CG
  go_upto_region 2 with fail
  obtain ⟨W2, hW2⟩ : ∃ W2, Hid (W2 = w1.alloc (.cells #[.int .i64 kind, .int .i64 t, .int .i64 f, .int .u32 q, .int .i64 hops, .int .i64 no, .int .i64 to, .int .i64 index, .int .i64 total, .int .i64 stamp, .int .i64 value, .slice ad body.length cap] 27)) := ⟨_, Lib.hid rfl⟩
  rw [← hW2.out]
  have hX := one_box w1 W2 _ _ hW2.out
  have H2 := Lib.hid (H1.out.kept hX.1)
  have B2 := Lib.hid hX.2
  have bX := Lib.hid H2.out.box
  clear hX hW2 H1
  by_cases hz : e1 = 0
  · have hv := Lib.hid (HV1.out hz)
    clear HV1 HV2
    subst hz
    have oX : Hid (Array.all (#[.int .i64 kind, .int .i64 t, .int .i64 f, .int .u32 q, .int .i64 hops, .int .i64 no, .int .i64 to, .int .i64 index, .int .i64 total, .int .i64 stamp, .int .i64 value, .slice ad body.length cap] : Array Value) (·.oneCell') = true) := Lib.hid (by simp [Value.oneCell'])
    have HX := Lib.hid (H2.out.row #[.int .i64 kind, .int .i64 t, .int .i64 f, .int .u32 q, .int .i64 hops, .int .i64 no, .int .i64 to, .int .i64 index, .int .i64 total, .int .i64 stamp, .int .i64 value, .slice ad body.length cap] rfl)
    go_wp2_with (first
      | (refine wpList_load_row rfl 27 _ rfl _ rfl _ #[.int .i64 kind, .int .i64 t, .int .i64 f, .int .u32 q, .int .i64 hops, .int .i64 no, .int .i64 to, .int .i64 index, .int .i64 total, .int .i64 stamp, .int .i64 value, .slice ad body.length cap] _ _ B2.out Tryz.underlying27 rfl infoPk ?_)
      | (refine wpList_store_row rfl 27 _ _ rfl _ #[.int .i64 kind, .int .i64 t, .int .i64 f, .int .u32 q, .int .i64 hops, .int .i64 no, .int .i64 to, .int .i64 index, .int .i64 total, .int .i64 stamp, .int .i64 value, .slice ad body.length cap] rfl rfl _ _ bX.out infoPk rfl oX.out ?_))
    exact bodyPost_ret (results_pk rfl _ _ bp _ (.int .i64 0) rfl rfl HX.out.box rfl) rfl (by rw [hv.out]; exact HX.out.post _)
  · have hv := Lib.hid (HV2.out hz)
    clear HV1 HV2
    have hne : (e1 != 0) = true := by simpa using hz
    clear hz
    have oX := Lib.hid (hcs_one 0 0 0 0 0)
    have HX := Lib.hid (H2.out.row (hcs 0 0 0 0 0) rfl)
    go_wp2_with (refine wpList_store_row rfl 27 _ _ rfl _ (hcs 0 0 0 0 0) rfl rfl _ _ bX.out infoPk rfl oX.out ?_)
    exact bodyPost_ret (results_pk rfl _ _ bp (hcs 0 0 0 0 0) (.int .i64 e1) rfl rfl HX.out.box rfl) rfl (by rw [hv.out]; exact HX.out.post _)
theorem found_nil (b : Bool) (wr : Int) (w : World) :
    Calls Tryz.prog 99 #[.pointer none, .bool b, .int .i64 wr] w fun e w' => e = .returned (.int .i64 1) ∧ w = w' := by
  have CE := Lib.hid (Buf.err_nil w)
  go_enter Tryz.func99, Tryz.ntmps99
  go_wp2_with fail
  refine (CE.out).mono ?_; rintro e w' ⟨rfl, rfl⟩
  go_wp2_with fail
  go_ret
  exact ⟨rfl, rfl⟩
set_option maxRecDepth 100000 in
set_option maxHeartbeats 1000000 in
theorem get_nil (w : World) :
    Calls Tryz.prog 85 #[.pointer none] w fun e w' => e = .returned (.tuple #[.agg (hcs 0 0 0 0 0), .int .i64 1]) ∧ Below w.heap.size w w' := by
  have HB : Hid (∀ o, Below w.heap.size w (w.alloc o)) := Lib.hid (fun o => (Below.refl _ _).alloc (Nat.le_refl _) o)
  have CB := Lib.hid (fun W => rbyte_nil W)
  have CF := Lib.hid (fun b wr W => found_nil b wr W)
  have CK := Lib.hid (fun W => iskind_any 0 W)
  go_enter Tryz.func85, Tryz.ntmps85
  go_wp2_with fail
  refine (CB.out _).mono ?_; rintro e w' ⟨rfl, rfl⟩
  go_wp2_with fail
  refine (CK.out _).mono ?_; rintro e w' ⟨rfl, rfl⟩
  go_wp2_with fail
  refine (CF.out _ _ _).mono ?_; rintro e w' ⟨rfl, rfl⟩
  go_wp2_with fail
  go_returns
  exact ⟨rfl, HB.out _⟩
set_option maxRecDepth 100000 in
set_option maxHeartbeats 1000000 in
theorem hget_nil (w : World) :
    Calls Tryz.prog 56 #[.pointer none] w fun e w' => e = .returned (.tuple #[.agg (hcs 0 0 0 0 0), .int .i64 1]) ∧ Below w.heap.size w w' := by
  obtain ⟨W0, hW0⟩ : ∃ W0, Hid (W0 = w.alloc (.cells (hcs 0 0 0 0 0) 27)) := ⟨_, Lib.hid rfl⟩
  have hX := one_box w W0 _ _ hW0.out
  have HB0 := Lib.hid hX.1
  have b0 := Lib.hid hX.2
  have CG := Lib.hid (get_nil W0)
  clear hX
  go_enter Tryz.func56, Tryz.ntmps56
  go_upto_region 1 with fail
  rw [← hW0.out]
  go_wp2_with fail
  refine (CG.out).mono ?_; rintro e w1 ⟨rfl, hB1⟩
  have HB1 := Lib.hid (HB0.out.trans (hB1.mono HB0.out.size))
  have b1 := Lib.hid (b0.out.below hB1)
  clear hB1 CG hW0 b0
  go_upto_region 2 with fail
  obtain ⟨W2, hW2⟩ : ∃ W2, Hid (W2 = w1.alloc (.cells (hcs 0 0 0 0 0) 27)) := ⟨_, Lib.hid rfl⟩
  rw [← hW2.out]
  have hX := one_box w1 W2 _ _ hW2.out
  have HB2 := Lib.hid (HB1.out.trans (hX.1.mono HB1.out.size))
  have b2 := Lib.hid (b1.out.below hX.1)
  have oX := Lib.hid (hcs_one 0 0 0 0 0)
  have b3 := Lib.hid (Blk.row b2.out (hcs 0 0 0 0 0) rfl)
  have HB3 := Lib.hid (below_setRow HB2.out (Nat.le_refl w.heap.size) (hcs 0 0 0 0 0))
  clear hX hW2 b1
  go_wp2_with (refine wpList_store_row rfl 27 _ _ rfl _ (hcs 0 0 0 0 0) rfl rfl _ _ b2.out infoPk rfl oX.out ?_)
  exact bodyPost_ret (results_pk rfl _ _ w.heap.size (hcs 0 0 0 0 0) (.int .i64 1) rfl rfl b3.out rfl) rfl ⟨rfl, HB3.out⟩
end Go.Proofs.YtanfnhgaooafeaaGreatDoor.Hed
