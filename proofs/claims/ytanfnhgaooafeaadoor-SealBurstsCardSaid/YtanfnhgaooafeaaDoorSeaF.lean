/- Contracts (layer 14): the document's Decode. -/
import Derived.Test.YtanfnhgaooafeaaDoorSeaE
import Derived.Test.YtanfnhgaooafeaaDoorHedP
import Derived.Test.YtanfnhgaooafeaaDoorDatY
namespace Go.Proofs.YtanfnhgaooafeaaDoor.Sea
open Go.ChangeShapes Go.WideShapes Go.ChangeAt Go.RowKit Go.Deep
open Go.Proofs.YtanfnhgaooafeaaDoor.Byt Go.Proofs.YtanfnhgaooafeaaDoor.Key Go.Proofs.YtanfnhgaooafeaaDoor.Buf Go.Proofs.YtanfnhgaooafeaaDoor.Hed Go.Proofs.YtanfnhgaooafeaaDoor.Dat Go.Proofs.YtanfnhgaooafeaaDoor.BufM Go.Proofs.YtanfnhgaooafeaaDoor.Pkt
set_option linter.unusedVariables false
set_option linter.unusedSimpArgs false
/-- How what is behind is read, by the document's own. -/
def RGetP (P : Pk) (r : List UInt8) (W : World) (e : Ending) (w' : World) : Prop :=
  ∃ q ad2 n2 cap2, e = .returned (.tuple #[pval q, .slice ad2 n2 cap2, .int .i64 ((tE P r : Nat) : Int)]) ∧ Hid (Below W.heap.size W w') ∧
    Hid (tE P r = 0 → n2 = (tR P r).length ∧ ∃ ad cap, q = memP (tP P r) ad cap ∧ RdB w' ad (tP P r).body)
def RGetAt (P : Pk) (r : List UInt8) (fr : Nat) : Prop := ∀ W ad0 len0 cap0 G, RdS W G ad0 len0 cap0 r → G ≤ W.heap.size → Calls Tryd.prog fr #[.slice ad0 len0 cap0, pval P] W (RGetP P r W)
/-- What the document's Decode hands back. -/
def RDecP (P : Pk) (n : Nat) (w : World) (e : Ending) (w' : World) : Prop :=
  ∃ ad cap, e = .returned (.tuple #[pval (memP P ad cap), .int .i64 ((n : Nat) : Int)]) ∧ Hid (Below w.heap.size w w') ∧ Hid (RdB w' ad P.body)
set_option maxRecDepth 100000 in
set_option maxHeartbeats 2000000 in
theorem rdecode_bad (ad : Option Addr) (len cap : Nat) (l : List UInt8) (w : World) (hlen : l.length = len) (hcap : len ≤ cap) (hm : cap ≤ 9223372036854775807) (hr : RdB w ad l) (hb : beE l ≠ 0) :
    Calls Tryd.prog 8 #[.slice ad len cap] w (RDecP zero (beE l) w) := by
  obtain ⟨wb, hwb⟩ : ∃ wb, Hid (wb = w.alloc (.cells (Pk.cells zero) 27)) := ⟨_, Lib.hid rfl⟩
  have HX := Lib.hid (one_box w wb _ _ hwb.out)
  unfold Pk.cells zero at hwb
  simp only [List.length_nil] at hwb
  have hF : RDecP zero (beE l) w (.returned (.tuple #[pval zero, .int .i64 ((beE l : Nat) : Int)])) (wb.setRow w.heap.size zero.cells) := ⟨none, 0, rfl, Lib.hid (below_setRow HX.out.1 (Nat.le_refl _) _), Lib.hid (.inl rfl)⟩
  unfold beE at hb hF ⊢
  rw [hlen] at hb hF ⊢
  by_cases h1 : 1100 < len
  · rw [if_pos h1] at hF ⊢
    have h1' : (1100 : Int) < (len : Int) := by omega
    clear hr hlen hb hF
    go_enter Tryd.func8, Tryd.ntmps8
    go_upto_region 1 with fail
    rw [← hwb.out]
    go_wp2_with (refine store_pk rfl _ _ rfl w.heap.size zero rfl rfl _ HX.out.2 rfl ?_)
    exact bodyPost_ret (results_pk2 rfl _ _ w.heap.size zero.cells _ rfl rfl (Blk.row HX.out.2 _ rfl) rfl) rfl (by unfold RDecP; exact ⟨none, 0, rfl, Lib.hid (below_setRow HX.out.1 (Nat.le_refl _) _), Lib.hid (.inl rfl)⟩)
  · rw [if_neg h1] at hb hF ⊢
    have h1' : ¬ (1100 : Int) < (len : Int) := by omega
    by_cases h2 : len < 5
    · rw [if_pos h2] at hF ⊢
      have h2' : (len : Int) < 5 := by omega
      clear hr hlen hb hF
      go_enter Tryd.func8, Tryd.ntmps8
      go_upto_region 1 with fail
      rw [← hwb.out]
      go_wp2_with (refine store_pk rfl _ _ rfl w.heap.size zero rfl rfl _ HX.out.2 rfl ?_)
      exact bodyPost_ret (results_pk2 rfl _ _ w.heap.size zero.cells _ rfl rfl (Blk.row HX.out.2 _ rfl) rfl) rfl (by unfold RDecP; exact ⟨none, 0, rfl, Lib.hid (below_setRow HX.out.1 (Nat.le_refl _) _), Lib.hid (.inl rfl)⟩)
    · rw [if_neg h2] at hb ⊢
      clear hF
      have h2' : ¬ (len : Int) < 5 := by omega
      have CG := Lib.hid (Crc.rgoodC_any ad len cap l wb hlen hcap hm (by omega) (hr.below HX.out.1))
      have hgb : Crc.goodB l = false := by
        cases h : Crc.goodB l with
        | false => rfl
        | true => rw [h] at hb; simp at hb
      rw [if_pos hgb]
      rw [hgb] at CG
      clear hr hlen hb hgb
      go_enter Tryd.func8, Tryd.ntmps8
      go_upto_region 1 with fail
      rw [← hwb.out]
      go_wp2_with fail
      refine (CG.out).mono ?_; rintro e w1 ⟨rfl, hB1⟩
      have HB1 := Lib.hid hB1
      have HQ1 := Lib.hid (HX.out.2.below hB1)
      clear hB1
      go_wp2_with (refine store_pk rfl _ _ rfl w.heap.size zero rfl rfl _ HQ1.out rfl ?_)
      exact bodyPost_ret (results_pk2 rfl _ _ w.heap.size zero.cells _ rfl rfl (Blk.row HQ1.out _ rfl) rfl) rfl (by unfold RDecP; exact ⟨none, 0, rfl, Lib.hid (below_setRow (HX.out.1.trans (HB1.out.mono HX.out.1.size)) (Nat.le_refl _) _), Lib.hid (.inl rfl)⟩)
set_option maxRecDepth 100000 in
set_option maxHeartbeats 4000000 in
theorem rdecode_main (ad : Option Addr) (n cap G : Nat) (l : List UInt8) (w : World) (h : RdS w G ad (n + 4) cap l) (hG : G ≤ w.heap.size) (hb : beE l = 0)
    (H4 : (rg (l.take n)).1.kind = 4 → RGetAt (rg (l.take n)).1 (rg (l.take n)).2.1 22) (H5 : (rg (l.take n)).1.kind = 5 → RGetAt (rg (l.take n)).1 (rg (l.take n)).2.1 23)
    (H6 : (rg (l.take n)).1.kind = 6 → RGetAt (rg (l.take n)).1 (rg (l.take n)).2.1 24) (H7 : (rg (l.take n)).1.kind ≠ 4 → (rg (l.take n)).1.kind ≠ 5 → (rg (l.take n)).1.kind ≠ 6 → (rg (l.take n)).2.2 = 0 → RGetAt (rg (l.take n)).1 (rg (l.take n)).2.1 25) :
    Calls Tryd.prog 8 #[.slice ad (n + 4) cap] w (RDecP (if sdE (l.take n) = 0 then sdP (l.take n) else zero) (sdE (l.take n)) w) := by
  obtain ⟨wb, hwb⟩ : ∃ wb, Hid (wb = w.alloc (.cells (Pk.cells zero) 27)) := ⟨_, Lib.hid rfl⟩
  have HX := Lib.hid (one_box w wb _ _ hwb.out)
  unfold Pk.cells zero at hwb
  simp only [List.length_nil] at hwb
  have hlen := h.len_
  have h5 : 5 ≤ n + 4 ∧ n + 4 ≤ 1100 ∧ Crc.goodB l = true := by
    unfold beE at hb
    rw [hlen] at hb
    by_cases h1 : 1100 < n + 4
    · rw [if_pos h1] at hb; omega
    · rw [if_neg h1] at hb
      by_cases h2 : n + 4 < 5
      · rw [if_pos h2] at hb; omega
      · rw [if_neg h2] at hb
        cases h : Crc.goodB l with
        | false => rw [if_pos h] at hb; omega
        | true => exact ⟨by omega, by omega, rfl⟩
  obtain ⟨h51, h52, hgb⟩ := h5
  have CB := Lib.hid (Crc.rgoodC_any ad (n + 4) cap l wb hlen h.le h.max (by omega) (h.rd.below HX.out.1))
  rw [hgb] at CB
  have hl2 : (l.take n).length = n := by rw [List.length_take]; omega
  have CH : Hid (∀ W, Below w.heap.size w W → Calls Tryd.prog 21 #[.slice ad n cap] W (RGP W G (rg (l.take n)))) := Lib.hid (fun W hW => Hed.rget_any ad n cap G (l.take n) W ⟨hl2, (h.rd.take n).below hW, h.lies, by have := h.le; omega, h.max⟩ (Nat.le_trans hG hW.size))
  have hE : sdE (l.take n) = if (rg (l.take n)).2.2 ≠ 0 then (rg (l.take n)).2.2 else if tE (rg (l.take n)).1 (rg (l.take n)).2.1 ≠ 0 then tE (rg (l.take n)).1 (rg (l.take n)).2.1 else if tR (rg (l.take n)).1 (rg (l.take n)).2.1 = [] then 0 else 5 := rfl
  have hP : sdP (l.take n) = tP (rg (l.take n)).1 (rg (l.take n)).2.1 := rfl
  have HI1 : IntKind.i64.wrap (((n + 4 : Nat) : Int) - 4) = (n : Int) := by rw [IntKind.wrap_i64]; omega
  have hin : (n : Int) ≤ (cap : Int) ∧ (0 : Int) ≤ (n : Int) ∧ (cap : Int) ≤ 9223372036854775807 ∧ n ≤ cap := by have := h.le; have := h.max; omega
  obtain ⟨hin1, hin2, hin3, hin4⟩ := hin
  have HGw := Lib.hid hG
  rw [hE, hP]
  clear hE hP h hlen hb hgb hl2 hG
  generalize rg (l.take n) = RG at *
  obtain ⟨P, r, eh⟩ := RG
  simp only at H4 H5 H6 H7 ⊢
  unfold RGP at CH
  simp only at CH
  obtain ⟨E, hEE⟩ : ∃ E, (if eh ≠ 0 then eh else if tE P r ≠ 0 then tE P r else if tR P r = [] then 0 else 5) = E := ⟨_, rfl⟩
  rw [hEE]
  obtain ⟨Z, hZ⟩ : ∃ Z, (if E = 0 then tP P r else zero) = Z := ⟨_, rfl⟩
  rw [hZ]
  have HE := Lib.hid hEE
  have HZ := Lib.hid hZ
  clear hEE hZ
  by_cases heh : eh = 0
  · subst heh
    go_enter Tryd.func8, Tryd.ntmps8
    go_upto_region 1 with fail
    rw [← hwb.out]
    go_wp2_with fail
    refine (CB.out).mono ?_; rintro e w1 ⟨rfl, hB1⟩
    have HB1 := Lib.hid (HX.out.1.trans (hB1.mono HX.out.1.size))
    have HQ1 := Lib.hid (HX.out.2.below hB1)
    have HS1 := Lib.hid (Nat.lt_of_lt_of_le HX.out.2.lt hB1.size)
    clear hB1 CB
    go_wp2_with fail
    refine (CH.out w1 HB1.out).mono ?_; rintro e w2 ⟨ad2, n2, cap2, rfl, hB2, hS2⟩
    go_upto_region 8 with (refine store_pk rfl _ _ rfl w2.heap.size P rfl rfl #[.int .i64 0, .int .i64 0, .int .i64 0, .int .u32 0, .int .i64 0, .int .i64 0, .int .i64 0, .int .i64 0, .int .i64 0, .int .i64 0, .int .i64 0, .slice none 0 0] (heap_alloc_last w2 _) rfl ?_)
    obtain ⟨W3, hW3⟩ : ∃ W3, Hid (W3 = (w2.alloc (.cells #[.int .i64 0, .int .i64 0, .int .i64 0, .int .u32 0, .int .i64 0, .int .i64 0, .int .i64 0, .int .i64 0, .int .i64 0, .int .i64 0, .int .i64 0, .slice none 0 0] 27)).setRow w2.heap.size P.cells) := ⟨_, Lib.hid rfl⟩
    rw [← hW3.out]
    have hB23 : Below w2.heap.size w2 W3 := by rw [hW3.out]; exact below_setRow ((Below.refl _ _).alloc (Nat.le_refl _) _) (Nat.le_refl _) _
    have HB13 := Lib.hid (hB2.trans (hB23.mono hB2.size))
    have HQ3 := Lib.hid (HQ1.out.below HB13.out)
    have HB3 := Lib.hid (HB1.out.trans (HB13.out.mono HB1.out.size))
    have HP3 : Hid (Blk W3 w2.heap.size 27 P.cells) := Lib.hid (by rw [hW3.out]; exact Blk.row (Blk.new w2 27 #[.int .i64 0, .int .i64 0, .int .i64 0, .int .u32 0, .int .i64 0, .int .i64 0, .int .i64 0, .int .i64 0, .int .i64 0, .int .i64 0, .int .i64 0, .slice none 0 0]) _ rfl)
    have hG2 : G ≤ w2.heap.size := Nat.le_trans HGw.out (HB1.out.trans (hB2.mono HB1.out.size)).size
    have hS3 : RdS W3 G ad2 n2 cap2 r := hS2.kept (fun b hb => HB13.out.block b (by have := Nat.le_trans HGw.out HB1.out.size; omega))
    have hG3 : G ≤ W3.heap.size := Nat.le_trans hG2 hB23.size
    have HL3 : Hid (w.heap.size ≠ w2.heap.size) := Lib.hid (by have := HS1.out; have := hB2.size; omega)
    have HW2 : Hid (w.heap.size ≤ w2.heap.size) := Lib.hid (HB1.out.trans (hB2.mono HB1.out.size)).size
    have k0 : W3.cell? ⟨w2.heap.size, 0, none⟩ = some (.int .i64 P.kind) := HP3.out.cell 0
    have CG : Hid (∀ f, RGetAt P r f → Calls Tryd.prog f #[.slice ad2 n2 cap2, pval P] W3 (RGetP P r W3)) := Lib.hid (fun f hf => hf W3 ad2 n2 cap2 G hS3 hG3)
    clear hB23 hW3 hB2 CH HQ1 HB13 hG2 hS3 hG3 hS2 HS1 HB1 HX hwb
    by_cases hk4 : P.kind = 4
    · have n4 : (P.kind == 4) = true := by simp [hk4]
      have CGk := Lib.hid (CG.out 22 (H4 hk4))
      clear H4 H5 H6 H7 CG
      go_upto_region 18 with (first
        | (refine load_pk rfl _ rfl w2.heap.size rfl P HP3.out ?_)
        | (go_at_call 22; refine CGk.out.mono ?_; rintro e w4 ⟨q, ad3, n3, cap3, rfl, HB4, HK4⟩; have HP4 := Lib.hid (HP3.out.below HB4.out))
        | (refine store_pk rfl _ _ rfl w2.heap.size q rfl rfl _ HP4.out rfl ?_))
      have HQ5 : Hid (Blk (w4.setRow w2.heap.size q.cells) w.heap.size 27 zero.cells) := Lib.hid ((setRow_other _ _ _ _ HL3.out).trans (HQ3.out.below HB4.out))
      have HP5 : Hid (Blk (w4.setRow w2.heap.size q.cells) w2.heap.size 27 q.cells) := Lib.hid (Blk.row HP4.out _ rfl)
      have HB5 : Hid (Below w.heap.size w (w4.setRow w2.heap.size q.cells)) := Lib.hid (below_setRow (HB3.out.trans (HB4.out.mono HB3.out.size)) HW2.out _)
      have HD5 : Hid (∀ ad l, RdB w4 ad l → RdB (w4.setRow w2.heap.size q.cells) ad l) := Lib.hid (fun ad l hr => rd_setRow hr HP4.out)
      generalize w4.setRow w2.heap.size q.cells = W5 at *
      clear CGk k0 HB4 HP4 HP3 HQ3 HB3
      by_cases het : tE P r = 0
      · obtain ⟨hn3, ad6, cap6, rfl, hd6⟩ := HK4.out het
        have hE := HE.out
        rw [if_neg (by simp), if_neg (by simp [het])] at hE
        by_cases hR : tR P r = []
        · rw [if_pos hR] at hE
          subst hE
          have hZ := HZ.out
          rw [if_pos rfl] at hZ
          subst hZ
          rw [hR] at hn3
          have hn0 : n3 = 0 := hn3
          subst hn0
          have HD6 := Lib.hid (rd_setRow (es := (memP (tP P r) ad6 cap6).cells) (HD5.out _ _ hd6) HQ5.out)
          rw [het]
          clear HE HZ HK4 HD5 hd6 hn3 hR
          go_wp2_with (first
            | (refine load_pk rfl _ rfl w2.heap.size rfl (memP (tP P r) ad6 cap6) HP5.out ?_)
            | (refine store_pk rfl _ _ rfl w.heap.size (memP (tP P r) ad6 cap6) rfl rfl _ HQ5.out rfl ?_))
          exact bodyPost_ret (results_pk2 rfl _ _ w.heap.size (memP (tP P r) ad6 cap6).cells _ rfl rfl (Blk.row HQ5.out _ rfl) rfl) rfl (by unfold RDecP; exact ⟨ad6, cap6, rfl, Lib.hid (below_setRow HB5.out (Nat.le_refl _) _), HD6⟩)
        · rw [if_neg hR] at hE
          subst hE
          have hZ := HZ.out
          rw [if_neg (by decide)] at hZ
          subst hZ
          have hn0 : (0 : Int) < (n3 : Int) := by have := List.length_pos_iff.2 hR; omega
          rw [het]
          clear HE HZ HK4 HD5 hd6 hn3
          go_wp2_with (refine store_pk rfl _ _ rfl w.heap.size zero rfl rfl _ HQ5.out rfl ?_)
          exact bodyPost_ret (results_pk2 rfl _ _ w.heap.size zero.cells _ rfl rfl (Blk.row HQ5.out _ rfl) rfl) rfl (by unfold RDecP; exact ⟨none, 0, rfl, Lib.hid (below_setRow HB5.out (Nat.le_refl _) _), Lib.hid (.inl rfl)⟩)
      · have hE := HE.out
        rw [if_neg (by simp), if_pos het] at hE
        have hZ := HZ.out
        rw [← hE, if_neg het] at hZ
        subst hZ
        rw [hE]
        rw [hE] at het
        have HN : ((E : Int) == 0) = false := by simp; omega
        clear HE HZ HK4 HD5 hE
        go_wp2_with (refine store_pk rfl _ _ rfl w.heap.size zero rfl rfl _ HQ5.out rfl ?_)
        exact bodyPost_ret (results_pk2 rfl _ _ w.heap.size zero.cells _ rfl rfl (Blk.row HQ5.out _ rfl) rfl) rfl (by unfold RDecP; exact ⟨none, 0, rfl, Lib.hid (below_setRow HB5.out (Nat.le_refl _) _), Lib.hid (.inl rfl)⟩)
    · have n4 : (P.kind == 4) = false := by simp [hk4]
      by_cases hk5 : P.kind = 5
      · have n5 : (P.kind == 5) = true := by simp [hk5]
        have CGk := Lib.hid (CG.out 23 (H5 hk5))
        clear H4 H5 H6 H7 CG
        go_upto_region 18 with (first
          | (refine load_pk rfl _ rfl w2.heap.size rfl P HP3.out ?_)
          | (go_at_call 23; refine CGk.out.mono ?_; rintro e w4 ⟨q, ad3, n3, cap3, rfl, HB4, HK4⟩; have HP4 := Lib.hid (HP3.out.below HB4.out))
          | (refine store_pk rfl _ _ rfl w2.heap.size q rfl rfl _ HP4.out rfl ?_))
        have HQ5 : Hid (Blk (w4.setRow w2.heap.size q.cells) w.heap.size 27 zero.cells) := Lib.hid ((setRow_other _ _ _ _ HL3.out).trans (HQ3.out.below HB4.out))
        have HP5 : Hid (Blk (w4.setRow w2.heap.size q.cells) w2.heap.size 27 q.cells) := Lib.hid (Blk.row HP4.out _ rfl)
        have HB5 : Hid (Below w.heap.size w (w4.setRow w2.heap.size q.cells)) := Lib.hid (below_setRow (HB3.out.trans (HB4.out.mono HB3.out.size)) HW2.out _)
        have HD5 : Hid (∀ ad l, RdB w4 ad l → RdB (w4.setRow w2.heap.size q.cells) ad l) := Lib.hid (fun ad l hr => rd_setRow hr HP4.out)
        generalize w4.setRow w2.heap.size q.cells = W5 at *
        clear CGk k0 HB4 HP4 HP3 HQ3 HB3
        by_cases het : tE P r = 0
        · obtain ⟨hn3, ad6, cap6, rfl, hd6⟩ := HK4.out het
          have hE := HE.out
          rw [if_neg (by simp), if_neg (by simp [het])] at hE
          by_cases hR : tR P r = []
          · rw [if_pos hR] at hE
            subst hE
            have hZ := HZ.out
            rw [if_pos rfl] at hZ
            subst hZ
            rw [hR] at hn3
            have hn0 : n3 = 0 := hn3
            subst hn0
            have HD6 := Lib.hid (rd_setRow (es := (memP (tP P r) ad6 cap6).cells) (HD5.out _ _ hd6) HQ5.out)
            rw [het]
            clear HE HZ HK4 HD5 hd6 hn3 hR
            go_wp2_with (first
              | (refine load_pk rfl _ rfl w2.heap.size rfl (memP (tP P r) ad6 cap6) HP5.out ?_)
              | (refine store_pk rfl _ _ rfl w.heap.size (memP (tP P r) ad6 cap6) rfl rfl _ HQ5.out rfl ?_))
            exact bodyPost_ret (results_pk2 rfl _ _ w.heap.size (memP (tP P r) ad6 cap6).cells _ rfl rfl (Blk.row HQ5.out _ rfl) rfl) rfl (by unfold RDecP; exact ⟨ad6, cap6, rfl, Lib.hid (below_setRow HB5.out (Nat.le_refl _) _), HD6⟩)
          · rw [if_neg hR] at hE
            subst hE
            have hZ := HZ.out
            rw [if_neg (by decide)] at hZ
            subst hZ
            have hn0 : (0 : Int) < (n3 : Int) := by have := List.length_pos_iff.2 hR; omega
            rw [het]
            clear HE HZ HK4 HD5 hd6 hn3
            go_wp2_with (refine store_pk rfl _ _ rfl w.heap.size zero rfl rfl _ HQ5.out rfl ?_)
            exact bodyPost_ret (results_pk2 rfl _ _ w.heap.size zero.cells _ rfl rfl (Blk.row HQ5.out _ rfl) rfl) rfl (by unfold RDecP; exact ⟨none, 0, rfl, Lib.hid (below_setRow HB5.out (Nat.le_refl _) _), Lib.hid (.inl rfl)⟩)
        · have hE := HE.out
          rw [if_neg (by simp), if_pos het] at hE
          have hZ := HZ.out
          rw [← hE, if_neg het] at hZ
          subst hZ
          rw [hE]
          rw [hE] at het
          have HN : ((E : Int) == 0) = false := by simp; omega
          clear HE HZ HK4 HD5 hE
          go_wp2_with (refine store_pk rfl _ _ rfl w.heap.size zero rfl rfl _ HQ5.out rfl ?_)
          exact bodyPost_ret (results_pk2 rfl _ _ w.heap.size zero.cells _ rfl rfl (Blk.row HQ5.out _ rfl) rfl) rfl (by unfold RDecP; exact ⟨none, 0, rfl, Lib.hid (below_setRow HB5.out (Nat.le_refl _) _), Lib.hid (.inl rfl)⟩)
      · have n5 : (P.kind == 5) = false := by simp [hk5]
        by_cases hk6 : P.kind = 6
        · have n6 : (P.kind == 6) = true := by simp [hk6]
          have CGk := Lib.hid (CG.out 24 (H6 hk6))
          clear H4 H5 H6 H7 CG
          go_upto_region 18 with (first
            | (refine load_pk rfl _ rfl w2.heap.size rfl P HP3.out ?_)
            | (go_at_call 24; refine CGk.out.mono ?_; rintro e w4 ⟨q, ad3, n3, cap3, rfl, HB4, HK4⟩; have HP4 := Lib.hid (HP3.out.below HB4.out))
            | (refine store_pk rfl _ _ rfl w2.heap.size q rfl rfl _ HP4.out rfl ?_))
          have HQ5 : Hid (Blk (w4.setRow w2.heap.size q.cells) w.heap.size 27 zero.cells) := Lib.hid ((setRow_other _ _ _ _ HL3.out).trans (HQ3.out.below HB4.out))
          have HP5 : Hid (Blk (w4.setRow w2.heap.size q.cells) w2.heap.size 27 q.cells) := Lib.hid (Blk.row HP4.out _ rfl)
          have HB5 : Hid (Below w.heap.size w (w4.setRow w2.heap.size q.cells)) := Lib.hid (below_setRow (HB3.out.trans (HB4.out.mono HB3.out.size)) HW2.out _)
          have HD5 : Hid (∀ ad l, RdB w4 ad l → RdB (w4.setRow w2.heap.size q.cells) ad l) := Lib.hid (fun ad l hr => rd_setRow hr HP4.out)
          generalize w4.setRow w2.heap.size q.cells = W5 at *
          clear CGk k0 HB4 HP4 HP3 HQ3 HB3
          by_cases het : tE P r = 0
          · obtain ⟨hn3, ad6, cap6, rfl, hd6⟩ := HK4.out het
            have hE := HE.out
            rw [if_neg (by simp), if_neg (by simp [het])] at hE
            by_cases hR : tR P r = []
            · rw [if_pos hR] at hE
              subst hE
              have hZ := HZ.out
              rw [if_pos rfl] at hZ
              subst hZ
              rw [hR] at hn3
              have hn0 : n3 = 0 := hn3
              subst hn0
              have HD6 := Lib.hid (rd_setRow (es := (memP (tP P r) ad6 cap6).cells) (HD5.out _ _ hd6) HQ5.out)
              rw [het]
              clear HE HZ HK4 HD5 hd6 hn3 hR
              go_wp2_with (first
                | (refine load_pk rfl _ rfl w2.heap.size rfl (memP (tP P r) ad6 cap6) HP5.out ?_)
                | (refine store_pk rfl _ _ rfl w.heap.size (memP (tP P r) ad6 cap6) rfl rfl _ HQ5.out rfl ?_))
              exact bodyPost_ret (results_pk2 rfl _ _ w.heap.size (memP (tP P r) ad6 cap6).cells _ rfl rfl (Blk.row HQ5.out _ rfl) rfl) rfl (by unfold RDecP; exact ⟨ad6, cap6, rfl, Lib.hid (below_setRow HB5.out (Nat.le_refl _) _), HD6⟩)
            · rw [if_neg hR] at hE
              subst hE
              have hZ := HZ.out
              rw [if_neg (by decide)] at hZ
              subst hZ
              have hn0 : (0 : Int) < (n3 : Int) := by have := List.length_pos_iff.2 hR; omega
              rw [het]
              clear HE HZ HK4 HD5 hd6 hn3
              go_wp2_with (refine store_pk rfl _ _ rfl w.heap.size zero rfl rfl _ HQ5.out rfl ?_)
              exact bodyPost_ret (results_pk2 rfl _ _ w.heap.size zero.cells _ rfl rfl (Blk.row HQ5.out _ rfl) rfl) rfl (by unfold RDecP; exact ⟨none, 0, rfl, Lib.hid (below_setRow HB5.out (Nat.le_refl _) _), Lib.hid (.inl rfl)⟩)
          · have hE := HE.out
            rw [if_neg (by simp), if_pos het] at hE
            have hZ := HZ.out
            rw [← hE, if_neg het] at hZ
            subst hZ
            rw [hE]
            rw [hE] at het
            have HN : ((E : Int) == 0) = false := by simp; omega
            clear HE HZ HK4 HD5 hE
            go_wp2_with (refine store_pk rfl _ _ rfl w.heap.size zero rfl rfl _ HQ5.out rfl ?_)
            exact bodyPost_ret (results_pk2 rfl _ _ w.heap.size zero.cells _ rfl rfl (Blk.row HQ5.out _ rfl) rfl) rfl (by unfold RDecP; exact ⟨none, 0, rfl, Lib.hid (below_setRow HB5.out (Nat.le_refl _) _), Lib.hid (.inl rfl)⟩)
        · have n6 : (P.kind == 6) = false := by simp [hk6]
          have CGk := Lib.hid (CG.out 25 (H7 hk4 hk5 hk6 (by simp)))
          clear H4 H5 H6 H7 CG
          go_upto_region 18 with (first
            | (refine load_pk rfl _ rfl w2.heap.size rfl P HP3.out ?_)
            | (go_at_call 25; refine CGk.out.mono ?_; rintro e w4 ⟨q, ad3, n3, cap3, rfl, HB4, HK4⟩; have HP4 := Lib.hid (HP3.out.below HB4.out))
            | (refine store_pk rfl _ _ rfl w2.heap.size q rfl rfl _ HP4.out rfl ?_))
          have HQ5 : Hid (Blk (w4.setRow w2.heap.size q.cells) w.heap.size 27 zero.cells) := Lib.hid ((setRow_other _ _ _ _ HL3.out).trans (HQ3.out.below HB4.out))
          have HP5 : Hid (Blk (w4.setRow w2.heap.size q.cells) w2.heap.size 27 q.cells) := Lib.hid (Blk.row HP4.out _ rfl)
          have HB5 : Hid (Below w.heap.size w (w4.setRow w2.heap.size q.cells)) := Lib.hid (below_setRow (HB3.out.trans (HB4.out.mono HB3.out.size)) HW2.out _)
          have HD5 : Hid (∀ ad l, RdB w4 ad l → RdB (w4.setRow w2.heap.size q.cells) ad l) := Lib.hid (fun ad l hr => rd_setRow hr HP4.out)
          generalize w4.setRow w2.heap.size q.cells = W5 at *
          clear CGk k0 HB4 HP4 HP3 HQ3 HB3
          by_cases het : tE P r = 0
          · obtain ⟨hn3, ad6, cap6, rfl, hd6⟩ := HK4.out het
            have hE := HE.out
            rw [if_neg (by simp), if_neg (by simp [het])] at hE
            by_cases hR : tR P r = []
            · rw [if_pos hR] at hE
              subst hE
              have hZ := HZ.out
              rw [if_pos rfl] at hZ
              subst hZ
              rw [hR] at hn3
              have hn0 : n3 = 0 := hn3
              subst hn0
              have HD6 := Lib.hid (rd_setRow (es := (memP (tP P r) ad6 cap6).cells) (HD5.out _ _ hd6) HQ5.out)
              rw [het]
              clear HE HZ HK4 HD5 hd6 hn3 hR
              go_wp2_with (first
                | (refine load_pk rfl _ rfl w2.heap.size rfl (memP (tP P r) ad6 cap6) HP5.out ?_)
                | (refine store_pk rfl _ _ rfl w.heap.size (memP (tP P r) ad6 cap6) rfl rfl _ HQ5.out rfl ?_))
              exact bodyPost_ret (results_pk2 rfl _ _ w.heap.size (memP (tP P r) ad6 cap6).cells _ rfl rfl (Blk.row HQ5.out _ rfl) rfl) rfl (by unfold RDecP; exact ⟨ad6, cap6, rfl, Lib.hid (below_setRow HB5.out (Nat.le_refl _) _), HD6⟩)
            · rw [if_neg hR] at hE
              subst hE
              have hZ := HZ.out
              rw [if_neg (by decide)] at hZ
              subst hZ
              have hn0 : (0 : Int) < (n3 : Int) := by have := List.length_pos_iff.2 hR; omega
              rw [het]
              clear HE HZ HK4 HD5 hd6 hn3
              go_wp2_with (refine store_pk rfl _ _ rfl w.heap.size zero rfl rfl _ HQ5.out rfl ?_)
              exact bodyPost_ret (results_pk2 rfl _ _ w.heap.size zero.cells _ rfl rfl (Blk.row HQ5.out _ rfl) rfl) rfl (by unfold RDecP; exact ⟨none, 0, rfl, Lib.hid (below_setRow HB5.out (Nat.le_refl _) _), Lib.hid (.inl rfl)⟩)
          · have hE := HE.out
            rw [if_neg (by simp), if_pos het] at hE
            have hZ := HZ.out
            rw [← hE, if_neg het] at hZ
            subst hZ
            rw [hE]
            rw [hE] at het
            have HN : ((E : Int) == 0) = false := by simp; omega
            clear HE HZ HK4 HD5 hE
            go_wp2_with (refine store_pk rfl _ _ rfl w.heap.size zero rfl rfl _ HQ5.out rfl ?_)
            exact bodyPost_ret (results_pk2 rfl _ _ w.heap.size zero.cells _ rfl rfl (Blk.row HQ5.out _ rfl) rfl) rfl (by unfold RDecP; exact ⟨none, 0, rfl, Lib.hid (below_setRow HB5.out (Nat.le_refl _) _), Lib.hid (.inl rfl)⟩)
  · have hE := HE.out
    rw [if_pos heh] at hE
    subst hE
    have hZ := HZ.out
    rw [if_neg heh] at hZ
    subst hZ
    have HN : ((eh : Int) == 0) = false := by simp; omega
    clear H4 H5 H6 H7 HE HZ
    go_enter Tryd.func8, Tryd.ntmps8
    go_upto_region 1 with fail
    rw [← hwb.out]
    go_wp2_with fail
    refine (CB.out).mono ?_; rintro e w1 ⟨rfl, hB1⟩
    have HB1 := Lib.hid (HX.out.1.trans (hB1.mono HX.out.1.size))
    have HQ1 := Lib.hid (HX.out.2.below hB1)
    clear hB1 CB
    go_wp2_with fail
    refine (CH.out w1 HB1.out).mono ?_; rintro e w2 ⟨ad2, n2, cap2, rfl, hB2, -⟩
    go_upto_region 8 with (refine store_pk rfl _ _ rfl w2.heap.size P rfl rfl #[.int .i64 0, .int .i64 0, .int .i64 0, .int .u32 0, .int .i64 0, .int .i64 0, .int .i64 0, .int .i64 0, .int .i64 0, .int .i64 0, .int .i64 0, .slice none 0 0] (heap_alloc_last w2 _) rfl ?_)
    obtain ⟨W3, hW3⟩ : ∃ W3, Hid (W3 = (w2.alloc (.cells #[.int .i64 0, .int .i64 0, .int .i64 0, .int .u32 0, .int .i64 0, .int .i64 0, .int .i64 0, .int .i64 0, .int .i64 0, .int .i64 0, .int .i64 0, .slice none 0 0] 27)).setRow w2.heap.size P.cells) := ⟨_, Lib.hid rfl⟩
    rw [← hW3.out]
    have hB23 : Below w2.heap.size w2 W3 := by rw [hW3.out]; exact below_setRow ((Below.refl _ _).alloc (Nat.le_refl _) _) (Nat.le_refl _) _
    have HB13 := Lib.hid (hB2.trans (hB23.mono hB2.size))
    have HQ3 := Lib.hid (HQ1.out.below HB13.out)
    have HB3 := Lib.hid (HB1.out.trans (HB13.out.mono HB1.out.size))
    clear hB23 hW3 hB2 CH HQ1 HB13
    go_wp2_with (refine store_pk rfl _ _ rfl w.heap.size zero rfl rfl _ HQ3.out rfl ?_)
    exact bodyPost_ret (results_pk2 rfl _ _ w.heap.size zero.cells _ rfl rfl (Blk.row HQ3.out _ rfl) rfl) rfl (by unfold RDecP; exact ⟨none, 0, rfl, Lib.hid (below_setRow HB3.out (Nat.le_refl _) _), Lib.hid (.inl rfl)⟩)
/-- The document's Decode. -/
theorem rdecode_any (ad : Option Addr) (len cap G : Nat) (l : List UInt8) (w : World) (h : RdS w G ad len cap l) (hG : G ≤ w.heap.size) :
    Calls Tryd.prog 8 #[.slice ad len cap] w (RDecP (deP l) (deE l) w) := by
  have hlen := h.len_
  by_cases hb : beE l = 0
  · have h5 : 5 ≤ len := by
      unfold beE at hb
      rw [hlen] at hb
      by_cases h1 : 1100 < len
      · omega
      · rw [if_neg h1] at hb
        by_cases h2 : len < 5
        · rw [if_pos h2] at hb; omega
        · omega
    obtain ⟨n, rfl⟩ : ∃ n, len = n + 4 := ⟨len - 4, by omega⟩
    have hE : deE l = sdE (l.take n) := by rw [deE_be, if_neg (by simp [hb]), hlen, show n + 4 - 4 = n from by omega]
    have hP : deP l = if sdE (l.take n) = 0 then sdP (l.take n) else zero := by unfold deP; rw [hE, hlen, show n + 4 - 4 = n from by omega]
    rw [hE, hP]
    have hbd := rg_body (l.take n)
    refine rdecode_main ad n cap G l w h hG hb (fun h4 => ?_) (fun h5 => ?_) (fun h6 => ?_) (fun h4 h5 h6 h0 => ?_)
    · intro W ad0 len0 cap0 G2 hS hG2
      unfold RGetP tE tR tP
      rw [if_pos h4, if_pos h4, if_pos h4]
      by_cases hx : (getB (rg (l.take n)).2.1 1024).2.2 = 0
      · refine (Dat.rget_ok _ ad0 len0 cap0 G2 _ W hS hG2 hx).mono fun en w' hp => ?_
        obtain ⟨a1, c1, a2, c2, rfl, hd, hB⟩ := hp
        exact ⟨_, a2, _, c2, by rw [hx]; rfl, Lib.hid hB, Lib.hid fun _ => ⟨rfl, a1, c1, rfl, hd⟩⟩
      · exact (Dat.rget_bad _ ad0 len0 cap0 G2 _ W hS hG2 hx).mono fun en w' hp => ⟨zero, none, 0, 0, hp.1, Lib.hid hp.2, Lib.hid fun h0 => absurd h0 hx⟩
    · intro W ad0 len0 cap0 G2 hS hG2
      have h4 : ¬ (rg (l.take n)).1.kind = 4 := by omega
      unfold RGetP tE tR tP
      rw [if_neg h4, if_neg h4, if_neg h4, if_pos h5, if_pos h5, if_pos h5]
      by_cases hx : Att.atE (rg (l.take n)).2.1 = 0
      · refine (Att.draget_ok _ ad0 len0 cap0 G2 _ W hS hG2 hx).mono fun en w' hp => ?_
        obtain ⟨a2, c2, rfl, hB⟩ := hp
        exact ⟨Att.filA (rg (l.take n)).1 (rg (l.take n)).2.1, a2, _, c2, by rw [hx]; rfl, Lib.hid hB, Lib.hid fun _ => ⟨rfl, _, _, rfl, .inl hbd⟩⟩
      · exact (Att.draget_bad _ ad0 len0 cap0 G2 _ W hS hG2 hx).mono fun en w' hp => ⟨zero, none, 0, 0, hp.1, Lib.hid hp.2, Lib.hid fun h0 => absurd h0 hx⟩
    · intro W ad0 len0 cap0 G2 hS hG2
      have h4 : ¬ (rg (l.take n)).1.kind = 4 := by omega
      have h5 : ¬ (rg (l.take n)).1.kind = 5 := by omega
      unfold RGetP tE tR tP
      rw [if_neg h4, if_neg h4, if_neg h4, if_neg h5, if_neg h5, if_neg h5, if_pos h6, if_pos h6, if_pos h6]
      by_cases hx : Chu.dE (rg (l.take n)).2.1 = 0
      · refine (Chu.drcget_ok _ ad0 len0 cap0 G2 _ W hS hG2 hx).mono fun en w' hp => ?_
        obtain ⟨a1, c1, a2, c2, rfl, hd, hB⟩ := hp
        exact ⟨_, a2, _, c2, by rw [hx]; rfl, Lib.hid hB, Lib.hid fun _ => ⟨rfl, a1, c1, rfl, hd.out⟩⟩
      · exact (Chu.drcget_bad _ ad0 len0 cap0 G2 _ W hS hG2 hx).mono fun en w' hp => ⟨zero, none, 0, 0, hp.1, Lib.hid hp.2, Lib.hid fun h0 => absurd h0 hx⟩
    · intro W ad0 len0 cap0 G2 hS hG2
      have hT : tP (rg (l.take n)).1 (rg (l.take n)).2.1 = Pul.filP (rg (l.take n)).1 (0, (rg (l.take n)).2.1) := by unfold tP; rw [if_neg h4, if_neg h5, if_neg h6]
      have hbb : (Pul.filP (rg (l.take n)).1 (0, (rg (l.take n)).2.1)).body = (rg (l.take n)).1.body := by
        unfold Pul.filP
        split
        · rfl
        · split <;> rfl
      unfold RGetP tE tR
      rw [if_neg h4, if_neg h4, if_neg h5, if_neg h5, if_neg h6, if_neg h6, hT]
      by_cases hx : Pul.rgE (rg (l.take n)).1 (rg (l.take n)).2.1 = 0
      · refine (Pul.drget_ok _ ad0 len0 cap0 G2 _ W hS hG2 hx).mono fun en w' hp => ?_
        obtain ⟨a2, c2, rfl, hB⟩ := hp
        exact ⟨Pul.filP (rg (l.take n)).1 (0, (rg (l.take n)).2.1), a2, _, c2, by rw [hx]; rfl, Lib.hid hB, Lib.hid fun _ => ⟨rfl, _, _, rfl, .inl (hbb.trans hbd)⟩⟩
      · exact (Pul.drget_bad _ ad0 len0 cap0 G2 _ W hS hG2 hx).mono fun en w' hp => ⟨zero, none, 0, 0, hp.1, Lib.hid hp.2, Lib.hid fun h0 => absurd h0 hx⟩
  · have hE : deE l = beE l := by rw [deE_be, if_pos hb]
    have hP : deP l = zero := by unfold deP; rw [hE, if_neg hb]
    rw [hE, hP]
    exact rdecode_bad ad len cap l w hlen h.le h.max h.rd hb
end Go.Proofs.YtanfnhgaooafeaaDoor.Sea
