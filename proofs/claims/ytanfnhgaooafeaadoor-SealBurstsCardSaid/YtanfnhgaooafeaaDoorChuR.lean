/- The document's Get (layer 13). -/
import Derived.Test.YtanfnhgaooafeaaDoorChuX
import Derived.Test.YtanfnhgaooafeaaDoorHedP
import Derived.BigRegion
namespace Go.Proofs.YtanfnhgaooafeaaDoor.Chu
open Go.ChangeShapes Go.WideShapes Go.ChangeAt Go.RowKit Go.Deep
open Go.Proofs.YtanfnhgaooafeaaDoor.Byt Go.Proofs.YtanfnhgaooafeaaDoor.Key Go.Proofs.YtanfnhgaooafeaaDoor.Buf Go.Proofs.YtanfnhgaooafeaaDoor.Hed Go.Proofs.YtanfnhgaooafeaaDoor.Dat Go.Proofs.YtanfnhgaooafeaaDoor.BufM Go.Proofs.YtanfnhgaooafeaaDoor.Pkt
set_option linter.unusedVariables false
set_option linter.unusedSimpArgs false
/-- What the document tells is wrong. -/
def dE3 (r : List UInt8) : Nat := if (r.getD 2 0).toNat ≤ (r.getD 1 0).toNat then 5 else (getB (r.drop 3) 64).2.2
def dE2 (r : List UInt8) : Nat := if r = [] then 3 else if 63 < (r.getD 0 0).toNat then 8 else if r.length < 3 then 3 else dE3 r
def dE (l : List UInt8) : Nat := if (getN l).2.2 ≠ 0 then (getN l).2.2 else if 1152921504606846976 < (getN l).1 then 2 else dE2 (getN l).2.1
/-- What is left. -/
def dR (l : List UInt8) : List UInt8 := (getB ((getN l).2.1.drop 3) 64).2.1
/-- The packet with what stands there. -/
def dP (p : Pk) (l : List UInt8) : Pk := { p with no := sg (getN l).1, to := ((getN l).2.1.getD 0 0).toNat, index := ((getN l).2.1.getD 1 0).toNat, total := ((getN l).2.1.getD 2 0).toNat, body := (getB ((getN l).2.1.drop 3) 64).1 }
theorem dE_parts (l : List UInt8) (E : Nat) (h : dE l = E) : ((getN l).2.2 ≠ 0 → E = (getN l).2.2) ∧ ((getN l).2.2 = 0 → 1152921504606846976 < (getN l).1 → E = 2) ∧ ((getN l).2.2 = 0 → ¬ 1152921504606846976 < (getN l).1 → dE2 (getN l).2.1 = E) := by
  subst h
  unfold dE
  exact ⟨fun h => by rw [if_pos h], fun h h2 => by rw [if_neg (by omega), if_pos h2], fun h h2 => by rw [if_neg (by omega), if_neg h2]⟩
theorem dE2_parts (r : List UInt8) (E : Nat) (h : dE2 r = E) : (r = [] → E = 3) ∧ (r ≠ [] → 63 < (r.getD 0 0).toNat → E = 8) ∧ (r ≠ [] → ¬ 63 < (r.getD 0 0).toNat → r.length < 3 → E = 3) ∧ (r ≠ [] → ¬ 63 < (r.getD 0 0).toNat → ¬ r.length < 3 → dE3 r = E) := by
  subst h
  unfold dE2
  exact ⟨fun h => by rw [if_pos h], fun h h2 => by rw [if_neg h, if_pos h2], fun h h2 h3 => by rw [if_neg h, if_neg h2, if_pos h3], fun h h2 h3 => by rw [if_neg h, if_neg h2, if_neg h3]⟩
theorem dE3_parts (r : List UInt8) (E : Nat) (h : dE3 r = E) : ((r.getD 2 0).toNat ≤ (r.getD 1 0).toNat → E = 5) ∧ (¬ (r.getD 2 0).toNat ≤ (r.getD 1 0).toNat → E = (getB (r.drop 3) 64).2.2) := by
  subst h
  unfold dE3
  exact ⟨fun h => by rw [if_pos h], fun h => by rw [if_neg h]⟩
/-- What the document's Get leaves. -/
def DPost (w : World) (P : Pk) (E rl : Nat) (en : Ending) (w' : World) : Prop :=
  Below w.heap.size w w' ∧ (E ≠ 0 → en = .returned (.tuple #[pval zero, .slice none 0 0, .int .i64 (E : Int)])) ∧ (E = 0 → ∃ ad cap ad2 cap2, en = .returned (.tuple #[pval (memP P ad cap), .slice ad2 rl cap2, .int .i64 0]) ∧ RdB w' ad P.body)
theorem d2_all12 {w W : World} {v0 v1 v2 v3 v4 v5 v6 v7 v8 v9 v10 v11 : Value} (h : D2 w #[v0, v1, v2, v3, v4, v5, v6, v7, v8, v9, v10, v11] W) : (W.cell? ⟨w.heap.size, 0, none⟩ = some v0 ∧ W.cell? ⟨w.heap.size, 1, none⟩ = some v1 ∧ W.cell? ⟨w.heap.size, 2, none⟩ = some v2 ∧ W.cell? ⟨w.heap.size, 3, none⟩ = some v3 ∧ W.cell? ⟨w.heap.size, 4, none⟩ = some v4 ∧ W.cell? ⟨w.heap.size, 5, none⟩ = some v5 ∧ W.cell? ⟨w.heap.size, 6, none⟩ = some v6 ∧ W.cell? ⟨w.heap.size, 7, none⟩ = some v7 ∧ W.cell? ⟨w.heap.size, 8, none⟩ = some v8 ∧ W.cell? ⟨w.heap.size, 9, none⟩ = some v9 ∧ W.cell? ⟨w.heap.size, 10, none⟩ = some v10 ∧ W.cell? ⟨w.heap.size, 11, none⟩ = some v11) ∧ (W.frozen? ⟨w.heap.size, 0, none⟩ = false ∧ W.frozen? ⟨w.heap.size, 1, none⟩ = false ∧ W.frozen? ⟨w.heap.size, 2, none⟩ = false ∧ W.frozen? ⟨w.heap.size, 3, none⟩ = false ∧ W.frozen? ⟨w.heap.size, 4, none⟩ = false ∧ W.frozen? ⟨w.heap.size, 5, none⟩ = false ∧ W.frozen? ⟨w.heap.size, 6, none⟩ = false ∧ W.frozen? ⟨w.heap.size, 7, none⟩ = false ∧ W.frozen? ⟨w.heap.size, 8, none⟩ = false ∧ W.frozen? ⟨w.heap.size, 9, none⟩ = false ∧ W.frozen? ⟨w.heap.size, 10, none⟩ = false ∧ W.frozen? ⟨w.heap.size, 11, none⟩ = false) :=
  ⟨⟨h.box.cell 0, h.box.cell 1, h.box.cell 2, h.box.cell 3, h.box.cell 4, h.box.cell 5, h.box.cell 6, h.box.cell 7, h.box.cell 8, h.box.cell 9, h.box.cell 10, h.box.cell 11⟩, h.box.free 0, h.box.free 1, h.box.free 2, h.box.free 3, h.box.free 4, h.box.free 5, h.box.free 6, h.box.free 7, h.box.free 8, h.box.free 9, h.box.free 10, h.box.free 11⟩
set_option maxRecDepth 100000 in
set_option maxHeartbeats 4000000 in
theorem rcget_any (p : Pk) (ad0 : Option Addr) (len0 cap0 G : Nat) (l : List UInt8) (w : World) (h : RdS w G ad0 len0 cap0 l) (hG : G ≤ w.heap.size) :
    Calls Tryd.prog 24 #[.slice ad0 len0 cap0, pval p] w (DPost w (dP p l) (dE l) (dR l).length) := by
  obtain ⟨W1, hW1⟩ : ∃ W1, Hid (W1 = (w.alloc (.cells p.cells 27)).alloc (.cells (Pk.cells zero) 27)) := ⟨_, Lib.hid rfl⟩
  have H1 := Lib.hid (D2.start hW1.out)
  have C1 : Hid (Calls Tryd.prog 42 #[.slice ad0 len0 cap0] W1 (GD w G p.cells (getN l))) := Lib.hid ((gnum_any ad0 len0 cap0 G l W1 (h.kept fun b hb => H1.out.below.block b (by omega))).mono fun e w' hp => GD.of H1.out hp)
  have CB : Hid (∀ W cs ad len cap m, RdS W G ad len cap m → D2 w cs W → Calls Tryd.prog 44 #[.slice ad len cap, .int .i64 64] W fun e w' => ∃ ad' cap' ad2 cap2, e = .returned (.tuple #[.slice ad' (getB m 64).1.length cap', .slice ad2 (getB m 64).2.1.length cap2, .int .i64 (((getB m 64).2.2 : Nat) : Int)]) ∧ Hid (RdS W G ad' (getB m 64).1.length cap' (getB m 64).1) ∧ Hid (D2 w cs w') ∧ Hid (Below w.heap.size W w')) := Lib.hid (fun W cs ad len cap m hr hd => (gbytes_any ad len cap G m 64 W hr (by omega)).mono fun e w' hq => by
    obtain ⟨ad', len', cap', ad2, len2, cap2, n, rfl, rfl, r1, r2⟩ := hq
    obtain rfl := r1.len_
    obtain rfl := r2.len_
    exact ⟨ad', cap', ad2, cap2, rfl, Lib.hid r1, Lib.hid (hd.drewN n), Lib.hid (Own.below_drewN (Below.refl _ W) n)⟩)
  have HS : Hid (∀ W V ad len cap m, Below w.heap.size w W → Below w.heap.size w V → RdS W G ad len cap m → RdS V G ad len cap m) := Lib.hid (fun W V ad len cap m hW hV hr => hr.kept fun b hb => (hV.block b (by omega)).trans (hW.block b (by omega)).symm)
  have HE := Lib.hid (dE_parts l _ rfl)
  have HPk := Lib.hid (show dP p l = { p with no := sg (getN l).1, to := ((getN l).2.1.getD 0 0).toNat, index := ((getN l).2.1.getD 1 0).toNat, total := ((getN l).2.1.getD 2 0).toNat, body := (getB ((getN l).2.1.drop 3) 64).1 } from rfl)
  have HRl := Lib.hid (show (dR l).length = (getB ((getN l).2.1.drop 3) 64).2.1.length from rfl)
  have HBad : Hid (∀ (c : Nat) W, (dE l = c ∧ c ≠ 0) → Below w.heap.size w W → DPost w (dP p l) (dE l) (dR l).length (.returned (.tuple #[pval zero, .slice none 0 0, .int .i64 (c : Int)])) W) := Lib.hid (fun c W hc hB => by
    obtain ⟨h1, h2⟩ := hc
    refine ⟨hB, fun _ => by rw [h1], fun h0 => absurd (h1.symm.trans h0) h2⟩)
  have HGood : Hid (∀ W ad cap ad2 cap2, dE l = 0 → RdB W ad (dP p l).body → Below w.heap.size w W → DPost w (dP p l) (dE l) (dR l).length (.returned (.tuple #[pval (memP (dP p l) ad cap), .slice ad2 (dR l).length cap2, .int .i64 0])) W) := Lib.hid (fun W ad cap ad2 cap2 h0 hr hB => ⟨hB, fun h1 => absurd h0 h1, fun _ => ⟨ad, cap, ad2, cap2, rfl, hr⟩⟩)
  generalize dE l = E at *
  generalize dP p l = P at *
  generalize (dR l).length = RL at *
  generalize DPost w P E RL = Fin at *
  have HGw := Lib.hid hG
  unfold GD at C1
  clear h hG
  generalize getN l = r0 at *
  obtain ⟨x, r, er⟩ := r0
  simp only at C1 HE HPk HRl
  obtain ⟨kind, ⟨t, f, q⟩, hops, no, to, index, total, stamp, value, ad, cap, body⟩ := p
  unfold pval Pk.cells zero at HBad
  unfold Pk.cells zero at hW1
  unfold Pk.cells at H1 C1
  unfold pval Pk.cells
  simp only [List.length_nil] at hW1 H1 C1 HBad HPk ⊢
  obtain ⟨n, hn⟩ : ∃ n, body.length = n := ⟨_, rfl⟩
  simp only [hn] at hW1 H1 C1 ⊢
  clear hn
  obtain ⟨rl, hrl⟩ : ∃ rl, Hid (r.length = rl) := ⟨_, Lib.hid rfl⟩
  rw [hrl.out] at C1
  by_cases he : er = 0
  case neg =>
    have hE : Hid (E = er ∧ er ≠ 0) := Lib.hid ⟨HE.out.1 he, he⟩
    have hq1 : ((er : Int) == 0) = false := by simpa using he
    have hq2 : ((er : Int) != 0) = true := by simpa using he
    clear he HE HPk HRl hrl HGw CB HS
    go_enter Tryd.func24, Tryd.ntmps24
    go_upto_region 1 with fail
    rw [← hW1.out]
    clear hW1
    go_wp2_with fail
    refine (C1.out).mono ?_; rintro e w2 ⟨ad2, cap2, rfl, R2, H2⟩
    clear C1 H1
    have qq := H2.out.fin #[.int .i64 0, .int .i64 0, .int .i64 0, .int .u32 0, .int .i64 0, .int .i64 0, .int .i64 0, .int .i64 0, .int .i64 0, .int .i64 0, .int .i64 0, .slice none 0 0] rfl
    have b2 := Lib.hid H2.out.res
    have q1 := Lib.hid qq.1
    have q2 := Lib.hid (HBad.out _ _ hE.out qq.2)
    have HO := Lib.hid zeroP_one
    unfold zero Pk.cells at b2 HO
    simp only [List.length_nil] at b2 HO
    clear qq H2 HBad HGood
    go_wp2_with (refine wpList_store_row rfl 27 _ _ rfl _ #[.int .i64 0, .int .i64 0, .int .i64 0, .int .u32 0, .int .i64 0, .int .i64 0, .int .i64 0, .int .i64 0, .int .i64 0, .int .i64 0, .int .i64 0, .slice none 0 0] rfl rfl _ _ b2.out infoPk rfl HO.out ?_)
    exact bodyPost_ret (results_pk33 rfl _ _ (w.heap.size + 1) _ (.slice none 0 0) (.int .i64 (er : Int)) rfl rfl rfl q1.out rfl) rfl q2.out
  case pos =>
    subst he
    have HE := Lib.hid (HE.out.2)
    by_cases hx : 1152921504606846976 < x
    case pos =>
      have hE : Hid (E = 2 ∧ 2 ≠ 0) := Lib.hid ⟨HE.out.1 rfl hx, by omega⟩
      have hd1 : decide ((x : Int) > 1152921504606846976) = true := decide_eq_true (by omega)
      have hd2 : decide (1152921504606846976 < (x : Int)) = true := hd1
      clear hx HE HPk HRl hrl HGw CB HS
      go_enter Tryd.func24, Tryd.ntmps24
      go_upto_region 1 with fail
      rw [← hW1.out]
      clear hW1
      go_wp2_with fail
      refine (C1.out).mono ?_; rintro e w2 ⟨ad2, cap2, rfl, R2, H2⟩
      clear C1 H1
      have qq := H2.out.fin #[.int .i64 0, .int .i64 0, .int .i64 0, .int .u32 0, .int .i64 0, .int .i64 0, .int .i64 0, .int .i64 0, .int .i64 0, .int .i64 0, .int .i64 0, .slice none 0 0] rfl
      have b2 := Lib.hid H2.out.res
      have q1 := Lib.hid qq.1
      have q2 := Lib.hid (HBad.out _ _ hE.out qq.2)
      have HO := Lib.hid zeroP_one
      unfold zero Pk.cells at b2 HO
      simp only [List.length_nil] at b2 HO
      clear qq H2 HBad HGood
      go_wp2_with (refine wpList_store_row rfl 27 _ _ rfl _ #[.int .i64 0, .int .i64 0, .int .i64 0, .int .u32 0, .int .i64 0, .int .i64 0, .int .i64 0, .int .i64 0, .int .i64 0, .int .i64 0, .int .i64 0, .slice none 0 0] rfl rfl _ _ b2.out infoPk rfl HO.out ?_)
      exact bodyPost_ret (results_pk33 rfl _ _ (w.heap.size + 1) _ (.slice none 0 0) (.int .i64 2) rfl rfl rfl q1.out rfl) rfl q2.out
    case neg =>
      have HE2 := Lib.hid (dE2_parts r E (HE.out.2 rfl hx))
      have hd1 : decide ((x : Int) > 1152921504606846976) = false := decide_eq_false (by omega)
      have hd2 : decide (1152921504606846976 < (x : Int)) = false := hd1
      clear hx HE
      by_cases hr : r = []
      case pos =>
        have hE : Hid (E = 3 ∧ 3 ≠ 0) := Lib.hid ⟨HE2.out.1 hr, by omega⟩
        obtain rfl : rl = 0 := by rw [← hrl.out, hr]; rfl
        clear hr HE2 HPk HRl hrl HGw CB HS
        go_enter Tryd.func24, Tryd.ntmps24
        go_upto_region 1 with fail
        rw [← hW1.out]
        clear hW1
        go_wp2_with fail
        refine (C1.out).mono ?_; rintro e w2 ⟨ad2, cap2, rfl, R2, H2⟩
        clear C1 H1
        have qq := H2.out.fin #[.int .i64 0, .int .i64 0, .int .i64 0, .int .u32 0, .int .i64 0, .int .i64 0, .int .i64 0, .int .i64 0, .int .i64 0, .int .i64 0, .int .i64 0, .slice none 0 0] rfl
        have b2 := Lib.hid H2.out.res
        have q1 := Lib.hid qq.1
        have q2 := Lib.hid (HBad.out _ _ hE.out qq.2)
        have HO := Lib.hid zeroP_one
        unfold zero Pk.cells at b2 HO
        simp only [List.length_nil] at b2 HO
        clear qq H2 HBad HGood
        go_wp2_with (refine wpList_store_row rfl 27 _ _ rfl _ #[.int .i64 0, .int .i64 0, .int .i64 0, .int .u32 0, .int .i64 0, .int .i64 0, .int .i64 0, .int .i64 0, .int .i64 0, .int .i64 0, .int .i64 0, .slice none 0 0] rfl rfl _ _ b2.out infoPk rfl HO.out ?_)
        exact bodyPost_ret (results_pk33 rfl _ _ (w.heap.size + 1) _ (.slice none 0 0) (.int .i64 3) rfl rfl rfl q1.out rfl) rfl q2.out
      case neg =>
        have HE2 := Lib.hid (HE2.out.2)
        have hlp : 0 < r.length := List.length_pos_iff.2 hr
        have hl1 : ¬ ((rl : Int) < 1) := by have := hrl.out; omega
        have hl1b : decide ((rl : Int) < 1) = false := decide_eq_false hl1
        have hl1c : (0 : Int) < (rl : Int) := by omega
        have hk0 := (r.getD 0 0).toNat_lt
        have hk1 := (r.getD 1 0).toNat_lt
        have hk2 := (r.getD 2 0).toNat_lt
        obtain ⟨k0, hk0e⟩ : ∃ k, Hid ((r.getD 0 0).toNat = k) := ⟨_, Lib.hid rfl⟩
        obtain ⟨k1, hk1e⟩ : ∃ k, Hid ((r.getD 1 0).toNat = k) := ⟨_, Lib.hid rfl⟩
        obtain ⟨k2, hk2e⟩ : ∃ k, Hid ((r.getD 2 0).toNat = k) := ⟨_, Lib.hid rfl⟩
        have HX : Hid (∀ W ad cap, RdS W G ad rl cap r → ∃ b off, ad = some ⟨b, off, none⟩ ∧ Hid (b < G) ∧ W.cell? ⟨b, off, none⟩ = some (.int .u8 (k0 : Int)) ∧ Hid (1 < rl → W.cell? ⟨b, off + 1, none⟩ = some (.int .u8 (k1 : Int))) ∧ Hid (2 < rl → W.cell? ⟨b, off + 2, none⟩ = some (.int .u8 (k2 : Int)))) := Lib.hid (fun W ad cap hq => by
          obtain ⟨b, off, rfl, hc⟩ := hq.rd.at (k := 0) hlp
          refine ⟨b, off, rfl, Lib.hid ?_, by rw [← hk0e.out]; exact hc, Lib.hid fun h1 => ?_, Lib.hid fun h2 => ?_⟩
          · rcases hq.lies.2 with h | ⟨b2, o2, e2, h2⟩
            · cases h
            · cases e2; exact h2
          · obtain ⟨b3, o3, e3, h3⟩ := hq.rd.at (k := 1) (by have := hrl.out; omega)
            cases e3
            rw [← hk1e.out]; exact h3
          · obtain ⟨b3, o3, e3, h3⟩ := hq.rd.at (k := 2) (by have := hrl.out; omega)
            cases e3
            rw [← hk2e.out]; exact h3)
        rw [hk0e.out] at hk0 HE2 HPk
        rw [hk1e.out] at hk1 HPk
        rw [hk2e.out] at hk2 HPk
        have HE3 := Lib.hid (fun E h => dE3_parts r E h)
        rw [hk1e.out, hk2e.out] at HE3
        clear hk0e hk1e hk2e hlp
        go_enter Tryd.func24, Tryd.ntmps24
        go_upto_region 1 with fail
        rw [← hW1.out]
        clear hW1
        go_wp2_with fail
        refine (C1.out).mono ?_; rintro e w2 ⟨ad2, cap2, rfl, R2, H2⟩
        obtain ⟨b, off, rfl, HbG, x0, HX1, HX2⟩ := HX.out _ _ _ R2.out
        have HXc : Hid (∀ W cap, RdS W G (some ⟨b, off, none⟩) rl cap r → W.cell? ⟨b, off, none⟩ = some (.int .u8 (k0 : Int)) ∧ Hid (1 < rl → W.cell? ⟨b, off + 1, none⟩ = some (.int .u8 (k1 : Int))) ∧ Hid (2 < rl → W.cell? ⟨b, off + 2, none⟩ = some (.int .u8 (k2 : Int)))) := Lib.hid (fun W cap hq => by
          obtain ⟨b', off', e, -, h1, h2, h3⟩ := HX.out W (some ⟨b, off, none⟩) cap hq
          cases e
          exact ⟨h1, h2, h3⟩)
        clear C1 H1 HX
        by_cases h63 : 63 < k0
        case pos =>
          have hE : Hid (E = 8 ∧ 8 ≠ 0) := Lib.hid ⟨HE2.out.1 hr h63, by omega⟩
          have hd3 : decide ((k0 : Int) > 63) = true := decide_eq_true (by omega)
          have hd4 : decide ((63 : Int) < (k0 : Int)) = true := hd3
          clear h63 HE2 HE3 HPk HRl hrl HGw CB HS HX1 HX2 HbG HXc
          have qq := H2.out.fin #[.int .i64 0, .int .i64 0, .int .i64 0, .int .u32 0, .int .i64 0, .int .i64 0, .int .i64 0, .int .i64 0, .int .i64 0, .int .i64 0, .int .i64 0, .slice none 0 0] rfl
          have b2 := Lib.hid H2.out.res
          have q1 := Lib.hid qq.1
          have q2 := Lib.hid (HBad.out _ _ hE.out qq.2)
          have HO := Lib.hid zeroP_one
          unfold zero Pk.cells at b2 HO
          simp only [List.length_nil] at b2 HO
          clear qq H2 HBad HGood
          go_wp2_with (refine wpList_store_row rfl 27 _ _ rfl _ #[.int .i64 0, .int .i64 0, .int .i64 0, .int .u32 0, .int .i64 0, .int .i64 0, .int .i64 0, .int .i64 0, .int .i64 0, .int .i64 0, .int .i64 0, .slice none 0 0] rfl rfl _ _ b2.out infoPk rfl HO.out ?_)
          exact bodyPost_ret (results_pk33 rfl _ _ (w.heap.size + 1) _ (.slice none 0 0) (.int .i64 8) rfl rfl rfl q1.out rfl) rfl q2.out
        case neg =>
          have HE2 := Lib.hid (HE2.out.2)
          have hd3 : decide ((k0 : Int) > 63) = false := decide_eq_false (by omega)
          have hd4 : decide ((63 : Int) < (k0 : Int)) = false := hd3
          by_cases hl3 : rl < 3
          case pos =>
            have hE : Hid (E = 3 ∧ 3 ≠ 0) := Lib.hid ⟨HE2.out.1 hr h63 (by have := hrl.out; omega), by omega⟩
            have hd5 : decide ((rl : Int) < 3) = true := decide_eq_true (by omega)
            clear h63 HE2 HE3 HPk HRl hrl HGw CB HS HX1 HX2 HbG HXc
            have qq := H2.out.fin #[.int .i64 0, .int .i64 0, .int .i64 0, .int .u32 0, .int .i64 0, .int .i64 0, .int .i64 0, .int .i64 0, .int .i64 0, .int .i64 0, .int .i64 0, .slice none 0 0] rfl
            have b2 := Lib.hid H2.out.res
            have q1 := Lib.hid qq.1
            have q2 := Lib.hid (HBad.out _ _ hE.out qq.2)
            have HO := Lib.hid zeroP_one
            unfold zero Pk.cells at b2 HO
            simp only [List.length_nil] at b2 HO
            clear qq H2 HBad HGood
            go_wp2_with (refine wpList_store_row rfl 27 _ _ rfl _ #[.int .i64 0, .int .i64 0, .int .i64 0, .int .u32 0, .int .i64 0, .int .i64 0, .int .i64 0, .int .i64 0, .int .i64 0, .int .i64 0, .int .i64 0, .slice none 0 0] rfl rfl _ _ b2.out infoPk rfl HO.out ?_)
            exact bodyPost_ret (results_pk33 rfl _ _ (w.heap.size + 1) _ (.slice none 0 0) (.int .i64 3) rfl rfl rfl q1.out rfl) rfl q2.out
          case neg =>
            have HE3 := Lib.hid (HE3.out E (HE2.out.2 hr h63 (by have := hrl.out; omega)))
            have hd5 : decide ((rl : Int) < 3) = false := decide_eq_false (by omega)
            have hl2 : (1 : Int) < (rl : Int) := by omega
            have hl4 : (2 : Int) < (rl : Int) := by omega
            have x1 := HX1.out (by omega)
            have x2 := HX2.out (by omega)
            clear HE2 HX1 HX2 h63
            by_cases h12 : k2 ≤ k1
            case pos =>
              have hE : Hid (E = 5 ∧ 5 ≠ 0) := Lib.hid ⟨HE3.out.1 h12, by omega⟩
              have hd6 : decide ((k1 : Int) ≥ (k2 : Int)) = true := decide_eq_true (by omega)
              have hd7 : decide ((k2 : Int) ≤ (k1 : Int)) = true := hd6
              have hd8 : decide (k2 ≤ k1) = true := decide_eq_true h12
              clear HE3 HPk HRl hrl HGw CB HS HbG HXc
              go_upto_region 12 with fail
              go_region
              have H3 : Hid (D2 w _ w2.drew) := Lib.hid (H2.out.drewN 1)
              clear H2 R2 x0 x1 x2
              have qq := H3.out.fin #[.int .i64 0, .int .i64 0, .int .i64 0, .int .u32 0, .int .i64 0, .int .i64 0, .int .i64 0, .int .i64 0, .int .i64 0, .int .i64 0, .int .i64 0, .slice none 0 0] rfl
              have b2 := Lib.hid H3.out.res
              have q1 := Lib.hid qq.1
              have q2 := Lib.hid (HBad.out _ _ hE.out qq.2)
              have HO := Lib.hid zeroP_one
              unfold zero Pk.cells at b2 HO
              simp only [List.length_nil] at b2 HO
              clear qq H3 HBad HGood
              go_wp2_with (refine wpList_store_row rfl 27 _ _ rfl _ #[.int .i64 0, .int .i64 0, .int .i64 0, .int .u32 0, .int .i64 0, .int .i64 0, .int .i64 0, .int .i64 0, .int .i64 0, .int .i64 0, .int .i64 0, .slice none 0 0] rfl rfl _ _ b2.out infoPk rfl HO.out ?_)
              exact bodyPost_ret (results_pk33 rfl _ _ (w.heap.size + 1) _ (.slice none 0 0) (.int .i64 5) rfl rfl rfl q1.out rfl) rfl q2.out
            case neg =>
              have HE3 := Lib.hid (HE3.out.2 h12)
              have hd6 : decide ((k1 : Int) ≥ (k2 : Int)) = false := decide_eq_false (by omega)
              have hd7 : decide ((k2 : Int) ≤ (k1 : Int)) = false := hd6
              have hd8 : decide (k2 ≤ k1) = false := decide_eq_false h12
              clear h12
              go_upto_region 12 with fail
              go_region
              have H3 : Hid (D2 w _ w2.drew) := Lib.hid (H2.out.drewN 1)
              have R3 : Hid (RdS w2.drew G _ rl cap2 r) := Lib.hid (R2.out.drewN 1)
              have CB3 : Hid (∀ ad', Hid (ad' = cutAd (some ⟨b, off, none⟩) cap2 3) → _) := Lib.hid (fun ad' ha => by
                have := CB.out _ _ _ _ _ _ (R3.out.cut 3) H3.out
                rw [← ha.out] at this
                exact this)
              have hrl3 : 3 ≤ rl := by omega
              clear H2 R2 x0 x1 x2 CB hd6 hd7 hd8
              generalize w2.drew = w3 at *
              generalize getB (r.drop 3) 64 = rb at *
              obtain ⟨out, rest, eb⟩ := rb
              simp only at CB3 HE3 HPk HRl
              obtain ⟨m, hm⟩ : ∃ m, Hid (out.length = m) := ⟨_, Lib.hid rfl⟩
              rw [hm.out] at CB3
              rw [← HRl.out] at CB3
              go_wp2_with (refine slice_step rfl _ 3 rfl (some ⟨b, off, none⟩) rl cap2 rfl hrl3 ?_; intro ad3 had3)
              refine (CB3.out ad3 had3).mono ?_; rintro e w4 ⟨ad4, cap4, ad5, cap5, rfl, R4, H4, HB4⟩
              clear CB3 had3
              by_cases heb : eb = 0
              case neg =>
                have hE : Hid (E = eb ∧ eb ≠ 0) := Lib.hid ⟨HE3.out, heb⟩
                have hq3 : ((eb : Int) != 0) = true := by simpa using heb
                clear heb HE3 HPk HRl hrl HGw HS HbG HXc H3 R3 R4 HB4
                have qq := H4.out.fin #[.int .i64 0, .int .i64 0, .int .i64 0, .int .u32 0, .int .i64 0, .int .i64 0, .int .i64 0, .int .i64 0, .int .i64 0, .int .i64 0, .int .i64 0, .slice none 0 0] rfl
                have b2 := Lib.hid H4.out.res
                have q1 := Lib.hid qq.1
                have q2 := Lib.hid (HBad.out _ _ hE.out qq.2)
                have HO := Lib.hid zeroP_one
                unfold zero Pk.cells at b2 HO
                simp only [List.length_nil] at b2 HO
                clear qq H4 HBad HGood
                go_wp2_with (refine wpList_store_row rfl 27 _ _ rfl _ #[.int .i64 0, .int .i64 0, .int .i64 0, .int .u32 0, .int .i64 0, .int .i64 0, .int .i64 0, .int .i64 0, .int .i64 0, .int .i64 0, .int .i64 0, .slice none 0 0] rfl rfl _ _ b2.out infoPk rfl HO.out ?_)
                exact bodyPost_ret (results_pk33 rfl _ _ (w.heap.size + 1) _ (.slice none 0 0) (.int .i64 (eb : Int)) rfl rfl rfl q1.out rfl) rfl q2.out
              case pos =>
                subst heb
                obtain ⟨⟨c0, c1, c2, c3, c4, c5, c6, c7, c8, c9, c10, c11⟩, f0, f1, f2, f3, f4, f5, f6, f7, f8, f9, f10, f11⟩ := d2_all12 H4.out
                have R5 := HXc.out w4 cap2 (HS.out w3 w4 _ _ _ _ H3.out.below H4.out.below R3.out)
                have x0 := R5.1
                have x1 := R5.2.1.out (by omega)
                have x2 := R5.2.2.out (by omega)
                have hne : b ≠ w.heap.size := by have := HbG.out; have := HGw.out; omega
                have hv0 : Hid (IntKind.i64.wrap (x : Int) = sg x) := Lib.hid rfl
                generalize sg x = v0 at *
                have hw0 := hv0.out
                clear R5
                go_upto_region 17 with fail
                go_region
                have H5 : Hid (D2 w #[.int .i64 kind, .int .i64 t, .int .i64 f, .int .u32 q, .int .i64 hops, .int .i64 v0, .int .i64 (k0 : Int), .int .i64 (k1 : Int), .int .i64 (k2 : Int), .int .i64 stamp, .int .i64 value, .slice ad4 m cap4] (((((w4.setCell ⟨w.heap.size, 5, none⟩ (.int .i64 v0)).setCell ⟨w.heap.size, 6, none⟩ (.int .i64 (k0 : Int))).setCell ⟨w.heap.size, 7, none⟩ (.int .i64 (k1 : Int))).setCell ⟨w.heap.size, 8, none⟩ (.int .i64 (k2 : Int))).setCell ⟨w.heap.size, 11, none⟩ (.slice ad4 m cap4)).drew) := Lib.hid (by
                  have := ((((((H4.out.put 5 (.int .i64 v0)).put 6 (.int .i64 (k0 : Int))).put 7 (.int .i64 (k1 : Int))).put 8 (.int .i64 (k2 : Int))).put 11 (.slice ad4 m cap4)).drewN 1)
                  simp only [List.setIfInBounds_toArray, List.set_cons_zero, List.set_cons_succ] at this
                  exact this)
                try rw [hv0.out]
                generalize (((((w4.setCell ⟨w.heap.size, 5, none⟩ (.int .i64 v0)).setCell ⟨w.heap.size, 6, none⟩ (.int .i64 (k0 : Int))).setCell ⟨w.heap.size, 7, none⟩ (.int .i64 (k1 : Int))).setCell ⟨w.heap.size, 8, none⟩ (.int .i64 (k2 : Int))).setCell ⟨w.heap.size, 11, none⟩ (.slice ad4 m cap4)).drew = w5 at *
                have hR5 := HS.out w3 w5 _ _ _ _ H3.out.below H5.out.below R4.out
                have hP := HPk.out
                subst hP
                unfold memP pval Pk.cells at HGood
                simp only [hm.out] at HGood
                have qq := H5.out.fin #[.int .i64 kind, .int .i64 t, .int .i64 f, .int .u32 q, .int .i64 hops, .int .i64 v0, .int .i64 (k0 : Int), .int .i64 (k1 : Int), .int .i64 (k2 : Int), .int .i64 stamp, .int .i64 value, .slice ad4 m cap4] rfl
                have b1 := Lib.hid H5.out.box
                have b2 := Lib.hid H5.out.res
                have q1 := Lib.hid qq.1
                have q2 := Lib.hid (HGood.out _ ad4 cap4 ad5 cap5 HE3.out (HS.out w5 _ _ _ _ _ H5.out.below qq.2 hR5).rd qq.2)
                have HO := Lib.hid (row_one kind t f q hops v0 (k0 : Int) (k1 : Int) (k2 : Int) stamp value ad4 m cap4)
                unfold zero Pk.cells at b2
                simp only [List.length_nil] at b2
                clear qq H5 HBad HGood hR5 R4 H4 H3 R3 HB4 c0 c1 c2 c3 c4 c5 c6 c7 c8 c9 c10 c11 f0 f1 f2 f3 f4 f5 f6 f7 f8 f9 f10 f11 x0 x1 x2 HXc HS hw0
                go_wp2_with (first
                  | (refine wpList_load_row rfl 27 _ rfl _ rfl _ #[.int .i64 kind, .int .i64 t, .int .i64 f, .int .u32 q, .int .i64 hops, .int .i64 v0, .int .i64 (k0 : Int), .int .i64 (k1 : Int), .int .i64 (k2 : Int), .int .i64 stamp, .int .i64 value, .slice ad4 m cap4] _ _ b1.out Tryd.underlying27 rfl infoPk ?_)
                  | (refine wpList_store_row rfl 27 _ _ rfl _ #[.int .i64 kind, .int .i64 t, .int .i64 f, .int .u32 q, .int .i64 hops, .int .i64 v0, .int .i64 (k0 : Int), .int .i64 (k1 : Int), .int .i64 (k2 : Int), .int .i64 stamp, .int .i64 value, .slice ad4 m cap4] rfl rfl _ _ b2.out infoPk rfl HO.out ?_))
                exact bodyPost_ret (results_pk33 rfl _ _ (w.heap.size + 1) _ (.slice ad5 RL cap5) (.int .i64 0) rfl rfl rfl q1.out rfl) rfl q2.out
end Go.Proofs.YtanfnhgaooafeaaDoor.Chu
