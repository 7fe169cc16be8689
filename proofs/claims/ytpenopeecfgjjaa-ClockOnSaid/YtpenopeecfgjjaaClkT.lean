/- Contract of the document's Tick of a clock that is not cold (layer 22). -/
import Derived.Test.YtpenopeecfgjjaaClkR
import Derived.BigRegion
namespace Go.Proofs.Ytpenopeecfgjjaa.Clk
open Go.ChangeShapes Go.WideShapes Go.ChangeAt Go.RowKit
open Go.Proofs.Ytpenopeecfgjjaa.Rw Go.Proofs.Ytpenopeecfgjjaa.Slw
set_option linter.unusedVariables false
set_option maxHeartbeats 4000000 in
theorem rtick_warm (p a l v i : Int) (hp : p ≠ 0) (g0 : 1 ≤ v) (g1 : v ≤ 256) (a0 : 0 ≤ a) (a1 : a ≤ 1152921504606846976) (h0 : -1152921504606846976 ≤ l) (h1 : l ≤ 1152921504606846976) (w : World) :
    Calls Try.prog 24 #[rkV p a l v, .int .i64 i] w fun e w' => e = .returned (.tuple #[rkV p (a + adV v l a i) (l - smV v l (siV i)) v, .int .i64 (adV v l a i)]) ∧ Below w.heap.size w w' := by
  have CS := Lib.hid (fun W => rsstep_any l v i g0 g1 h0 h1 W)
  rw [show siV i + smV v l (siV i) = ztV v l i from rfl] at CS
  unfold rsV at CS
  have hz := ad_ti l i g0 g1 a0 a1
  obtain ⟨z0, z1⟩ := zt_bd l i g0 g1
  obtain ⟨b0, b1, b2⟩ := ad_bd l i g0 g1 a0 a1
  have CC := Lib.hid (fun W => rtime_any (a + ztV v l i) W)
  rw [hz] at CC
  clear hz
  generalize adV v l a i = x at *
  generalize ztV v l i = z at *
  generalize l - smV v l (siV i) = r at *
  have e1 : (p == 0) = false := beq_eq_false_iff_ne.2 hp
  clear hp
  unfold rkV
  go_enter Try.func24, Try.ntmps24
  go_wp2_with fail
  refine (CS.out _).mono ?_; rintro e W1 ⟨rfl, hB⟩
  obtain ⟨K1, K2, hB2⟩ := two_boxes hB
  obtain ⟨k0, k1, k2, k3⟩ := blk4 K1
  have HK1 := Lib.hid K1
  have HK2 := Lib.hid K2
  have hsz : w.heap.size + 2 ≤ W1.heap.size := by have := hB.size; simpa using this
  clear K1 K2 hB
  go_upto_region 4 with fail
  clear k0 k1 k2 k3
  obtain ⟨k0, k1, k2, k3⟩ := blk4 (HK1.out.alloc (.cells #[.int .i64 r, .int .i64 v] 26))
  obtain ⟨m0, m1, m2, m3⟩ := blk4 (HK2.out.alloc (.cells #[.int .i64 r, .int .i64 v] 26))
  obtain ⟨f0, f1, f2, f3⟩ := free4 (HK2.out.alloc (.cells #[.int .i64 r, .int .i64 v] 26))
  go_wp2_with fail
  refine (CC.out _).mono ?_; rintro e W2 ⟨rfl, rfl⟩
  have n0 := (Blk.new W1 26 #[.int .i64 r, .int .i64 v]).cell 0
  have n1 := (Blk.new W1 26 #[.int .i64 r, .int .i64 v]).cell 1
  simp only [List.getElem?_toArray, List.getElem?_cons_succ, List.getElem?_cons_zero] at n0 n1
  go_upto_region 5 with fail
  have HF := Lib.hid ((put4 (HK2.out.alloc (.cells #[.int .i64 r, .int .i64 v] 26)) (.int .i64 p) (.int .i64 (a + x)) (.int .i64 r) (.int .i64 v)).below ((Below.refl _ _).drew))
  clear HK1 HK2
  go_region
  go_wp2_with fail
  refine bodyPost_ret (results_rk2 rfl _ _ (w.heap.size + 1) _ _ rfl rfl HF.out rfl) rfl ⟨by rw [show a + x - a = x by omega]; rfl, by go_grown⟩
end Go.Proofs.Ytpenopeecfgjjaa.Clk
