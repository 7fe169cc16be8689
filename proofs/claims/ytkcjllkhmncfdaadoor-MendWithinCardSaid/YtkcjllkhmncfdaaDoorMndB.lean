/- Contracts of package mend (layer 27): One. -/
import Derived.Test.YtkcjllkhmncfdaaDoorMndA
import Derived.Test.YtkcjllkhmncfdaaDoorTrmD
import Derived.Test.YtkcjllkhmncfdaaDoorRowB
import Derived.BigRegion
import Derived.Deep.RegionLaw
namespace Go.Proofs.YtkcjllkhmncfdaaDoor.Mnd
open Go.ChangeShapes Go.WideShapes Go.ChangeAt Go.RowKit
open I64s (Sl OwnL ListPost app_one)
open Nodes (Tabs allN setP_lt and_lt)
open Trm (midV)
set_option linter.unusedVariables false
set_option linter.unusedSimpArgs false
/-- The list that is made, and the turn's box beside it. -/
structure OS (w : World) (g g0 : Nat) (bx : Array Value) (n : Nat) (zs : List Int) (W : World) : Prop where
  own : W.ownsRow w.heap.size 2 1 (.slice (some ⟨g, 0, none⟩) n n) n (zs.map (Value.int .i64))
  box : Rw.Blk W g0 33 bx
  below : Below w.heap.size w W
  ge : w.heap.size ≤ g
section
variable {w W V : World} {g g0 n : Nat} {bx : Array Value} {zs : List Int}
theorem OS.ne (h : OS w g g0 bx n zs W) : g ≠ g0 := fun e => by
  have := Rw.own_ne h.own h.box (by decide)
  simp [Value.ownBlock] at this
  exact this e
theorem OS.step (h : OS w g g0 bx n zs W) (hB : Below W.heap.size W V) : OS w g g0 bx n zs V :=
  ⟨World.ownsRow.kept h.own (row := Option.none) ⟨hB.os, hB.tape, hB.output, hB.size, fun j hj _ => hB.block j hj⟩ (by simp [Value.ownBlock]), h.box.below hB, h.below.trans (hB.mono h.below.size), h.ge⟩
theorem OS.cast {ys : List Int} (h : OS w g g0 bx n zs W) (e : zs = ys) : OS w g g0 bx n ys W := e ▸ h
theorem OS.set (h : OS w g g0 bx n zs W) (x : Nat) (v : Int) : OS w g g0 bx n (zs.set x v) (W.setCell ⟨g, x, none⟩ (.int .i64 v)) := by
  refine ⟨?_, h.box.far (p := ⟨g, x, none⟩) (fun e => h.ne e.symm) _, h.below.setCell (p := ⟨g, x, none⟩) h.ge _, h.ge⟩
  rw [List.map_set]
  exact (h.own.stored x _).1
theorem OS.drew (h : OS w g g0 bx n zs W) : OS w g g0 bx n zs W.drew := ⟨h.own, h.box, h.below.trans ⟨rfl, rfl, rfl, Nat.le_refl _, fun _ _ => rfl⟩, h.ge⟩
theorem OS.cell (h : OS w g g0 bx n zs W) {x : Nat} (hx : x < n) : W.cell? ⟨g, x, none⟩ = some (.int .i64 (zs.getD x 0)) := by
  have hl : zs.length = n := by have := h.own.1; simpa using this
  rw [h.own.cellAt x (by omega)]
  have : x < zs.length := by omega
  simp [this]
end
def tv (S : Nat) (ade : Option Addr) (ne cape : Nat) (add : Option Addr) (nd capd : Nat) : Array Value := #[.int .u64 (S : Int), .slice ade ne cape, .slice add nd capd]
set_option maxHeartbeats 4000000 in
theorem one_any (adc : Option Addr) (capc : Nat) (c : List Int) (S : Nat) (ade : Option Addr) (cape : Nat) (rs : List Rw) (add : Option Addr) (capd : Nat) (ds : List Int) (f : Int) (w : World)
    (hc : Sl w adc capc c) (hl : LL w ade rs) (hd : Sl w add capd ds) (hS : S < 18446744073709551616) (hn : c.length ≤ 1000) (hT : Tabs w) :
    Calls Tryd.prog 6 #[.slice adc c.length capc, .agg #[.int .u64 (S : Int), .slice ade rs.length cape, .slice add ds.length capd], .int .i64 f] w (ListPost (oneL c S (rs.map Rw.zs) ds f) w) := by
  obtain ⟨i0, hi, hz0, hz1, hz2⟩ := I64s.info_parts
  obtain ⟨n, hnn⟩ : ∃ n, c.length = n := ⟨_, rfl⟩
  have CW := Lib.hid (fun W (hB : Below w.heap.size w W) => those_any adc n capc S hS W (by omega) (hT.below hB))
  have CR := Lib.hid (fun W k (hB : Below w.heap.size w W) (hk : k ≤ 1000000) => row_any ade cape rs k W (hl.below hB) hk)
  have CG := Lib.hid (fun W adw capw k (hB : Below w.heap.size w W) (hw : Nodes.Rd W adw (natI (whoL S n))) (hk : k ≤ 1000000) => by
    have := readings_any adc capc c adw capw (whoL S n) (rs.getD k default).ad (rs.getD k default).cap (rs.getD k default).zs k W (hc.below hB) hw ((hl.below hB).sl k) (who_le S n) (fun q hq => (who_mem.1 hq).1) hk
    rw [hnn] at this
    exact this)
  have CM := Lib.hid (fun W ad cap k (h : Sl W ad cap (rdgs c (rs.getD k default).zs k (whoL S n))) => Trm.tmid_any f ad cap (rdgs c (rs.getD k default).zs k (whoL S n)) W h (by have := who_le S n; rw [rdgs_len]; omega) (rdgs_64 c _ k _))
  have CT := Lib.hid (fun W k (hB : Below w.heap.size w W) (hk : k ≤ 1000000) => by
    have := told_any adc capc c k W (hc.below hB) hk
    rw [hnn] at this
    exact this)
  have CD := Lib.hid (fun W k (hB : Below w.heap.size w W) (hk : k ≤ 1000000) => told_any add capd ds k W (hd.below hB) hk)
  have HV : Hid (∀ k, oneAt c S (rs.map Rw.zs) ds f k = tld c k + midV f (rdgs c (rs.getD k default).zs k (whoL S n)) + tld ds k) := Lib.hid (fun k => by unfold oneAt; rw [hnn, row_is])
  have HBd : Hid (∀ k, (-1099511627776 ≤ tld c k ∧ tld c k ≤ 1099511627776) ∧ (-3298534883328 ≤ midV f (rdgs c (rs.getD k default).zs k (whoL S n)) ∧ midV f (rdgs c (rs.getD k default).zs k (whoL S n)) ≤ 3298534883328) ∧ (-1099511627776 ≤ tld ds k ∧ tld ds k ≤ 1099511627776)) := Lib.hid (fun k => ⟨tld_bd c k, mid_rdgs c _ k _ f, tld_bd ds k⟩)
  have HZ := Lib.hid (show List.replicate n (0 : Int) = oneK c S (rs.map Rw.zs) ds f 0 by rw [oneK_zero, hnn])
  have HSt : Hid (∀ k, k < n → (oneK c S (rs.map Rw.zs) ds f k).set k (oneAt c S (rs.map Rw.zs) ds f k) = oneK c S (rs.map Rw.zs) ds f (k + 1)) := Lib.hid (fun k hk => oneK_step c S _ ds f (by omega))
  have HA := Lib.hid (show oneK c S (rs.map Rw.zs) ds f n = oneL c S (rs.map Rw.zs) ds f by rw [← hnn, oneK_all])
  have HLn := Lib.hid (show (oneL c S (rs.map Rw.zs) ds f).length = n by rw [oneL_len, hnn])
  have HT := Lib.hid hT
  have HWl := Lib.hid (who_le S n)
  rw [hnn] at hn ⊢
  unfold ListPost at CG ⊢
  unfold Nodes.ListPost at CW
  rw [HLn.out]
  have HNl := Lib.hid (show (natI (whoL S n)).length = (whoL S n).length from natI_len _)
  rw [HNl.out] at CW
  have HRl : Hid (∀ k, (rdgs c (rs.getD k default).zs k (whoL S n)).length = (whoL S n).length) := Lib.hid (fun k => rdgs_len _ _ _ _)
  clear hc hl hd hS hnn hT
  generalize oneL c S (rs.map Rw.zs) ds f = zl at *
  generalize oneK c S (rs.map Rw.zs) ds f = zk at *
  generalize oneAt c S (rs.map Rw.zs) ds f = za at *
  generalize rs.map Rw.zs = rz at *
  generalize rs.length = ne at *
  generalize ds.length = nd at *
  generalize (whoL S n).length = m at *
  have HB0 : Hid (Below w.heap.size w (w.alloc (.cells #[.int .u64 (S : Int), .slice ade ne cape, .slice add nd capd] 33))) := Lib.hid ((Below.refl _ _).alloc (Nat.le_refl _) _)
  have HX0 := Lib.hid (Rw.Blk.new w 33 #[.int .u64 (S : Int), .slice ade ne cape, .slice add nd capd])
  go_enter Tryd.func6, Tryd.ntmps6
  go_wp2_with fail
  refine (CW.out _ HB0.out).mono ?_; rintro e w1 ⟨adw, capw, rfl, hown1, hB1⟩
  have HX1 := Lib.hid (HX0.out.below hB1)
  have HB1 := Lib.hid (HB0.out.trans (hB1.mono HB0.out.size))
  have HR1 := Lib.hid hown1.rd.1
  clear hown1 hB1 HX0 HB0
  go_upto_region 3 with (at_make; refine wpList_make_full _ rfl _ _ 27 rfl w.heap.size 2 i0 (.int .i64 0) 1 Tryd.underlying27 hi hz0 hz1 .i64 .i64 _ _ n rfl rfl rfl rfl (by rw [hz2]; omega) (by unfold maxLen; omega) HB1.out.size ?_; intro w2 hown2 hg2)
  have HO : Hid (OS w w1.heap.size w.heap.size #[.int .u64 (S : Int), .slice ade ne cape, .slice add nd capd] n (zk 0) w2) := Lib.hid (by
    refine ⟨?_, HX1.out.grown hg2 (by simp), HB1.out.grown hg2 HB1.out.size (fun j hj => by cases hj), HB1.out.size⟩
    rw [Nat.mul_one, show (Value.int .i64 0).cells = #[.int .i64 0] from rfl, toList_madeCells_one] at hown2
    rw [← HZ.out]
    simpa using hown2)
  have HR2 : Hid (Below w1.heap.size w1 w2) := Lib.hid ((Below.refl _ _).grown hg2 (Nat.le_refl _) (fun j hj => by cases hj))
  have HRW : Hid (∀ W, Below w1.heap.size w1 W → Nodes.Rd W adw (natI (whoL S n))) := Lib.hid (fun W hW => HR1.out.below hW)
  obtain ⟨g, hgq⟩ : ∃ g, Hid (w1.heap.size = g) := ⟨_, Lib.hid rfl⟩
  rw [hgq.out] at HO HR2 HRW ⊢
  clear hown2 hg2 HX1 HB1 HR1 HZ
  go_wp2_with fail
  go_loopw [21] (fun i wr => ∃ k : Nat, k ≤ n ∧ i = .int .i64 k ∧ Hid (OS w g w.heap.size #[.int .u64 (S : Int), .slice ade ne cape, .slice add nd capd] n (zk k) wr) ∧ Hid (Below g w1 wr)) (fun i _ => n - (intOf i).toNat)
  case atStart => exact ⟨0, Nat.zero_le _, rfl, HO, HR2⟩
  case round =>
    clear HO HR2
    obtain ⟨k, hk, rfl, HO, HRd⟩ := hrel
    have hgle : g ≤ wr.heap.size := by have := HRd.out.size; have := hgq.out; omega
    by_cases hlt : k < n
    · have C1 := Lib.hid (CR.out wr k HO.out.below (by omega))
      have C2 := Lib.hid (CG.out wr adw capw k HO.out.below (HRW.out _ HRd.out) (by omega))
      have q1 := HO.out.box.cell 1
      simp only [List.getElem?_toArray, List.getElem?_cons_succ, List.getElem?_cons_zero] at q1
      obtain ⟨b1, b2, b3⟩ := HBd.out k
      have HVk := HV.out k
      have HSk := HSt.out k hlt
      have CMk : Hid (∀ W ad cap, Sl W ad cap (rdgs c (rs.getD k default).zs k (whoL S n)) → _) := Lib.hid (fun W ad cap h => CM.out W ad cap k h)
      have HRk := HRl.out k
      have HT1 : Hid (∀ W, Below w.heap.size w W → Calls Tryd.prog 19 #[.slice adc n capc, .int .i64 (k : Int)] W fun e w' => e = .returned (.int .i64 (tld c k)) ∧ W = w') := Lib.hid (fun W hB => CT.out W k hB (by omega))
      have HD1 : Hid (∀ W, Below w.heap.size w W → Calls Tryd.prog 19 #[.slice add nd capd, .int .i64 (k : Int)] W fun e w' => e = .returned (.int .i64 (tld ds k)) ∧ W = w') := Lib.hid (fun W hB => CD.out W k hB (by omega))
      rw [HRk] at C2 CMk
      clear HV HSt HBd CM CR CG CT CD HRl
      generalize rdgs c (rs.getD k default).zs k (whoL S n) = rd at *
      generalize midV f rd = md at *
      generalize tld c k = x at *
      generalize tld ds k = z at *
      generalize rs.getD k default = r at *
      go_wp2_with fail
      refine (C1.out).mono ?_; rintro e w' ⟨rfl, rfl⟩
      go_wp2_with fail
      refine (C2.out).mono ?_; rintro e w3 ⟨ad3, cap3, rfl, hown3, hB3⟩
      have HO3 := Lib.hid (HO.out.step hB3)
      have HRd3 := Lib.hid (HRd.out.trans (hB3.mono hgle))
      have hgle3 : g ≤ w3.heap.size := Nat.le_trans hgle hB3.size
      have C3 := Lib.hid (CMk.out w3 ad3 cap3 hown3.sl)
      clear hown3 hB3 HO HRd C1 C2 CMk q1
      go_wp2_with fail
      refine (C3.out).mono ?_; rintro e w4 ⟨rfl, hB4⟩
      have HO4 := Lib.hid (HO3.out.step hB4)
      have HRd4 := Lib.hid (HRd3.out.trans (hB4.mono hgle3))
      clear hB4 HO3 HRd3 C3
      have q2 := HO4.out.box.cell 2
      simp only [List.getElem?_toArray, List.getElem?_cons_succ, List.getElem?_cons_zero] at q2
      have q3 := HO4.out.cell hlt
      have q4 := HO4.out.own.frozenAt k
      have hdr : Hid (Below w4.heap.size w4 w4.drew) := Lib.hid (Own.below_drewN (Below.refl _ _) 1)
      have HW1 : Hid (IntKind.i64.wrap (x + md) = x + md) := Lib.hid (wrap_id (by omega) (by omega))
      have HW2 : Hid (IntKind.i64.wrap (x + md + z) = x + md + z) := Lib.hid (wrap_id (by omega) (by omega))
      have HT2 : Hid (Calls Tryd.prog 19 #[.slice adc n capc, .int .i64 (k : Int)] w4.drew fun e w' => e = .returned (.int .i64 x) ∧ w4.drew = w') := Lib.hid (HT1.out _ (HO4.out.below.trans (hdr.out.mono HO4.out.below.size)))
      have HD2 : Hid (Calls Tryd.prog 19 #[.slice add nd capd, .int .i64 (k : Int)] w4.drew fun e w' => e = .returned (.int .i64 z) ∧ w4.drew = w') := Lib.hid (HD1.out _ (HO4.out.below.trans (hdr.out.mono HO4.out.below.size)))
      generalize (zk k).getD k 0 = old at *
      clear HT1 HD1
      go_upto_region 7 with fail
      have HO5 : Hid (OS w g w.heap.size #[.int .u64 (S : Int), .slice ade ne cape, .slice add nd capd] n (zk (k + 1)) ((w4.setCell ⟨g, k, none⟩ (.int .i64 (x + md + z))).drew)) := Lib.hid (by
        have := (HO4.out.set k (x + md + z)).drew
        rw [← HVk, HSk] at this
        rw [← HVk]
        exact this)
      have HR5 : Hid (Below g w1 ((w4.setCell ⟨g, k, none⟩ (.int .i64 (x + md + z))).drew)) := Lib.hid ((HRd4.out.setCell (p := ⟨g, k, none⟩) (Nat.le_refl _) _).trans ⟨rfl, rfl, rfl, Nat.le_refl _, fun _ _ => rfl⟩)
      clear CW HT HWl HNl hi hz0 hz1 hz2 HA HLn HSk hdr HO4 HRd4 HVk HRW hgq hgle hgle3
      go_region_with (go_at_call 19; first | (with_reducible refine (HT2.out).mono ?_; rintro e W ⟨rfl, rfl⟩) | (with_reducible refine (HD2.out).mono ?_; rintro e W ⟨rfl, rfl⟩))
      all_goals
        rw [HW1.out, HW2.out]
        go_wp2_with fail
        go_roundw
        case rel => exact ⟨k + 1, by omega, by go_num, HO5, HR5⟩
        case measure => simp [intOf]; omega
    · obtain rfl : k = n := by omega
      have HO2 := HO.out
      rw [HA.out] at HO2
      have HO3 := Lib.hid HO2
      clear HO HO2
      go_wp2_with fail
      go_ret
      exact ⟨_, _, rfl, by unfold OwnL; rw [HLn.out]; exact HO3.out.own, HO3.out.below⟩
end Go.Proofs.YtkcjllkhmncfdaaDoor.Mnd
