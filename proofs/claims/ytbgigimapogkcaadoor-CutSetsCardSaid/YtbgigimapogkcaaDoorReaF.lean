/- Contracts of the document's own answers for layer 17: how far all nodes are (bettered till none is). -/
import Derived.Test.YtbgigimapogkcaaDoorReaR
import Derived.Test.YtbgigimapogkcaaDoorGrfR
import Derived.Test.YtbgigimapogkcaaDoorNodesD
import Derived.Test.YtbgigimapogkcaaDoorQuiB
import Derived.BigRegion
import Derived.BigQuiet
import Derived.Deep.QuietTactic
import Derived.Deep.Cut
import Derived.Deep.LoopGhost
namespace Go.Proofs.YtbgigimapogkcaaDoor.Rea
open Go.ChangeShapes Go.WideShapes Go.ChangeAt Go.RowKit
open Grf (Pr lk RdG gval gbox rlinked_any)
set_option linter.unusedVariables false
/-- The list of distances beside the graph's box. -/
structure RD (w : World) (xb g cap n base : Nat) (u : Value) (d : List Int) (W : World) : Prop where
  box : Rw.Blk W xb 27 #[.int .i64 (n : Int), u]
  own : W.ownsRow base 3 1 (.slice (some ⟨g, 0, none⟩) n cap) n (d.map (Value.int .i64))
  below : Below w.heap.size w W
  lt1 : xb < base
  lt2 : w.heap.size ≤ base
section
variable {w W V : World} {xb g cap n base : Nat} {u : Value} {d : List Int}
theorem RD.step (h : RD w xb g cap n base u d W) (hB : Below W.heap.size W V) : RD w xb g cap n base u d V :=
  ⟨h.box.below hB, World.ownsRow.kept h.own (row := Option.none) ⟨hB.os, hB.tape, hB.output, hB.size, fun j hj _ => hB.block j hj⟩ (by simp [Value.ownBlock]), h.below.trans (hB.mono h.below.size), h.lt1, h.lt2⟩
theorem RD.len (h : RD w xb g cap n base u d W) : d.length = n := by have := h.own.1; simpa using this
theorem RD.glt (h : RD w xb g cap n base u d W) : base ≤ g := (h.own.lt g (by simp [Value.ownBlock])).1
theorem RD.frozen (h : RD w xb g cap n base u d W) (x : Nat) : W.frozen? ⟨g, x, none⟩ = false := by
  have h' := h.own
  rcases h'.2 with ⟨e, _⟩ | ⟨g', cap', cur, hv, _⟩
  · cases e
  · simp only [Value.slice.injEq, Option.some.injEq, Addr.mk.injEq, and_true, true_and] at hv
    obtain ⟨rfl, rfl⟩ := hv
    exact h.own.frozenAt x
theorem RD.cell (h : RD w xb g cap n base u d W) {x : Nat} (hx : x < n) : W.cell? ⟨g, x, none⟩ = some (.int .i64 (d.getD x 0)) := by
  rw [h.own.cellAt x (by omega)]
  have : x < d.length := by rw [h.len]; exact hx
  simp [this]
theorem RD.set (h : RD w xb g cap n base u d W) (x : Nat) (v : Int) : RD w xb g cap n base u (d.set x v) (W.setCell ⟨g, x, none⟩ (.int .i64 v)) := by
  have hg := h.glt
  refine ⟨(Below.heap_setCell _ _ _ xb (by have := h.lt1; show xb ≠ g; omega)).trans h.box, ?_, h.below.setCell (p := ⟨g, x, none⟩) (Nat.le_trans h.lt2 hg) _, h.lt1, h.lt2⟩
  rw [List.map_set]
  exact (h.own.stored x _).1
end
set_option maxRecDepth 100000 in
set_option maxHeartbeats 8000000 in
theorem rdist_any (n : Nat) (hn : n ≤ 64) (ad : Option Addr) (len cap : Nat) (L : List Pr) (z : Int) (S : Nat) (hS : S < 18446744073709551616) (w : World) (hlen : L.length = len) (hm : len < 9223372036854775807) (hr : RdG w ad L) :
    Calls Tryd.prog 43 #[gval (n : Int) (.slice ad len cap), .int .i64 z, .int .u64 S] w (Nodes.ListPost (dstL n S L (src z)) w) := by
  obtain ⟨i0, hi, hz0, hz1, hz2⟩ := info_parts Nodes.infoInt
  obtain ⟨w0, hw0⟩ : ∃ w0, Hid (w0 = w.alloc (.cells #[.int .i64 (n : Int), .slice ad len cap] 27)) := ⟨_, Lib.hid rfl⟩
  obtain ⟨hB0, hs0, hb0⟩ := gbox w w0 (n : Int) _ hw0.out
  have HB := Lib.hid hB0
  have HS0 := Lib.hid hs0
  have HR := Lib.hid hr
  have HBK := Lib.hid hb0
  have HBX := Lib.hid (fun W (hB : Below w0.heap.size w0 W) => And.intro ((hb0.below hB).cell 0) ((hb0.below hB).cell 1))
  have CK := Lib.hid (fun (x y : Nat) W (hB : Below w.heap.size w W) => rlinked_any (n : Int) ad len cap L (x : Int) (y : Int) W hlen hm (hr.below hB))
  have CH := Lib.hid (fun (x : Nat) W => Nodes.rhas_any S hS (x : Int) W)
  have CZ := Lib.hid (fun W => Nodes.rhas_any S hS z W)
  have HO : Hid (Nodes.OwnL (w0.alloc (.cells #[] 3)) w0.heap.size (.slice (some ⟨w0.heap.size, 0, none⟩) 0 0) (List.replicate 0 (-1))) := Lib.hid (World.ownsRow_lit (size := 1) w0 #[] 0 (Nat.le_refl _) (by unfold maxLen; omega) rfl)
  have HB1 : Hid (Below w0.heap.size w0 (w0.alloc (.cells #[] 3))) := Lib.hid ((Below.refl _ _).alloc (Nat.le_refl _) _)
  simp only [List.getElem?_toArray, List.getElem?_cons_zero, List.getElem?_cons_succ] at HBX
  clear hlen hr hB0 hs0 hb0
  unfold gval at *
  go_enter Tryd.func43, Tryd.ntmps43
  go_upto_region 1 with fail
  rw [← hw0.out]
  go_wp2_with fail
  go_loopw [7, 8] (fun v i wr => ∃ k : Nat, k ≤ n ∧ i = .int .i64 k ∧ Nodes.OwnL wr w0.heap.size v (List.replicate k (-1)) ∧ Below w0.heap.size w0 wr) (fun _ i _ => n - (intOf i).toNat)
  case atStart => exact ⟨0, Nat.zero_le _, rfl, HO.out, HB1.out⟩
  case round =>
    obtain ⟨k, hk, rfl, hown, hB⟩ := hrel
    obtain ⟨c0, c1⟩ := HBX.out wr hB
    by_cases hlt : k < n
    · have hsz := hB.size
      have HRS := Lib.hid (List.replicate_succ' (n := k) (a := (-1 : Int)))
      have hlk : (List.replicate k (-1 : Int)).length = k := List.length_replicate
      go_wp2_with (at_builtin; refine Own.wpList_append2 _ rfl _ _ 51 rfl w0.heap.size 3 i0 (.int .i64 0) 1 8 Tryd.underlying51 hi hz0 hz1 hz2 rfl (by decide) _ _ _ rfl (World.ownsRow.alloc hown _) ⟨wr.heap.size, 0, none⟩ 1 1 [.int .i64 (-1)] rfl rfl (cell_one_new _ _ _) (by simp [Value.oneCell']) (by rw [hlk]; unfold maxLen; omega) (by rw [hlk]; omega) (by simp; omega) ?_; intro v' w4 hown' hgrow _ _)
      have hB4 := hB.trans (Own.below_append hown hsz hgrow)
      go_roundw
      case rel => exact ⟨k + 1, by omega, by go_num, by rw [HRS.out]; exact Nodes.OwnL.snoc hown', hB4⟩
      case measure => simp [intOf]; omega
    · obtain rfl : n = k := by omega
      obtain ⟨ad', cap', rfl, -⟩ := Own.shape hown
      have hlk : (List.replicate n (-1 : Int)).length = n := List.length_replicate
      rw [hlk]
      have HOFF : Hid (hereB n S (src z) = false → Nodes.ListPost (dstL n S L (src z)) w (.returned (.slice ad' n cap')) wr) := Lib.hid (fun h => by
        rw [dst_off h]
        exact ⟨ad', cap', by rw [hlk], Own.mono hown HB.out.size, HB.out.trans (hB.mono HB.out.size)⟩)
      have HH := Lib.hid (here_src (S := S) hn z)
      by_cases hz0' : z < 0
      · have HP := Lib.hid (HOFF.out (by rw [HH.out, decide_eq_false (by omega)]; rfl))
        clear hown hB HOFF
        go_wp2_with fail
        go_ret
        exact HP.out
      · by_cases hzn : (n : Int) ≤ z
        · have HP := Lib.hid (HOFF.out (by rw [HH.out, decide_eq_false (show ¬ z < (n : Int) by omega)]; simp))
          have hz' : 0 ≤ z := by omega
          clear hown hB HOFF hz0'
          go_wp2_with fail
          go_ret
          exact HP.out
        · obtain ⟨s, rfl⟩ := Int.eq_ofNat_of_zero_le (show 0 ≤ z by omega)
          rw [Nodes.has_nat S s hS] at CZ
          cases hst : S.testBit s with
          | true =>
            have HP := Lib.hid (HOFF.out (by rw [HH.out]; simp [hst]))
            rw [hst] at CZ
            clear hown hB HOFF hst
            go_wp2_with fail
            refine (CZ.out _).mono ?_; rintro e w' ⟨rfl, rfl⟩
            go_wp2_with fail
            go_ret
            exact HP.out
          | false =>
            rw [hst] at CZ
            have HSH : Hid (hereB n S s = true) := Lib.hid (here_iff.2 ⟨by omega, hst⟩)
            have hs64 : s < 64 := by omega
            have HSRC := Lib.hid (src_nat hs64)
            have hsn : s < n := by omega
            obtain ⟨hcap, -, hg⟩ := hown.pos
            rw [hlk] at hcap
            obtain ⟨g, rfl, hg1, hg2⟩ := hg (by omega)
            have HD0 : Hid (RD w w.heap.size g cap' n w0.heap.size (.slice ad len cap) (List.replicate n (-1)) wr) := Lib.hid
              ⟨HBK.out.below hB, by have := hown; unfold Nodes.OwnL at this; rwa [hlk] at this, HB.out.trans (hB.mono HB.out.size), HS0.out, HB.out.size⟩
            have e0 := HD0.out.cell hsn
            have f0 := HD0.out.frozen s
            have HD1 := Lib.hid (HD0.out.set s 0)
            have HRX := Lib.hid (Rx.start (n := n) (S := S) (L := L) HSH.out)
            clear hown hB HOFF hst hcap hg1 hg2 hg HH HBK HB1 HO HBX HB hz0' hzn
            generalize hd0 : (List.replicate n (-1 : Int)).getD s 0 = d0 at *
            go_wp2_with fail
            refine (CZ.out _).mono ?_; rintro e w' ⟨rfl, rfl⟩
            go_wp2_with fail
            clear c0 c1 e0 f0 hd0 CZ HD0
            go_loopg [9] (n + 2) (fun gh mv wr => ∃ (fl : Bool) (d : List Int), mv = .bool fl ∧ Hid (RD w w.heap.size g cap' n w0.heap.size (.slice ad len cap) d wr) ∧ Hid ((fl = true ∧ ∃ p, p + gh = n + 2 ∧ p + 1 ≤ n ∧ Rx n S L s p 0 0 d false) ∨ (fl = false ∧ d = dstL n S L s)))
            case atStart => exact ⟨true, _, rfl, HD1, Lib.hid (.inl ⟨rfl, 0, by omega, by omega, HRX.out⟩)⟩
            case round =>
              clear HD1 HRX
              obtain ⟨fl, d, rfl, HD, HC⟩ := hrel
              cases fl with
              | false =>
                have HE : Hid (d = dstL n S L s) := Lib.hid (by
                  rcases HC.out with ⟨e, _⟩ | ⟨_, e⟩
                  · cases e
                  · exact e)
                have HP : Hid (Nodes.ListPost (dstL n S L (src (s : Int))) w (.returned (.slice (some ⟨g, 0, none⟩) n cap')) wr) := Lib.hid (by rw [HSRC.out]; exact ⟨some ⟨g, 0, none⟩, cap', by rw [dst_len], by
                  have := HD.out.own
                  rw [HE.out] at this
                  unfold Nodes.OwnL
                  rw [dst_len]
                  exact Own.mono this HD.out.lt2, HD.out.below⟩)
                clear HC HD HE
                go_wp2_with fail
                go_ret
                exact HP.out
              | true =>
                have HX : Hid (∃ p, p + gk = n + 2 ∧ p + 1 ≤ n ∧ Rx n S L s p 0 0 d false) := Lib.hid (by
                  rcases HC.out with ⟨_, e⟩ | ⟨e, _⟩
                  · exact e
                  · cases e)
                clear HC
                obtain ⟨p, hp1, hp2, hR0⟩ := HX.out
                have HR0 := Lib.hid hR0
                have HP2 := Lib.hid hp1
                clear HX hR0 hp1
                generalize wr = w1 at *
                go_wp2_with fail
                go_loopw [9, 10] (fun mv av wr => ∃ (more : Bool) (a : Nat) (d : List Int), mv = .bool more ∧ av = .int .i64 a ∧ a ≤ n ∧ Hid (RD w w.heap.size g cap' n w0.heap.size (.slice ad len cap) d wr) ∧ Hid (Rx n S L s p a 0 d more)) (fun _ av _ => n - (intOf av).toNat)
                case atStart => exact ⟨false, 0, d, rfl, rfl, Nat.zero_le _, HD, HR0⟩
                case round =>
                  clear HD HR0
                  obtain ⟨more, a, d, rfl, rfl, ha, HD, HR0⟩ := hrel
                  have cn : wr.cell? ⟨w.heap.size, 0, none⟩ = some (.int .i64 (n : Int)) := HD.out.box.cell 0
                  by_cases hlt : a < n
                  · go_wp2_with fail
                    go_loopw [9, 11] (fun mv bv wr => ∃ (more : Bool) (b : Nat) (d : List Int), mv = .bool more ∧ bv = .int .i64 b ∧ b ≤ n ∧ Hid (RD w w.heap.size g cap' n w0.heap.size (.slice ad len cap) d wr) ∧ Hid (Rx n S L s p a b d more)) (fun _ bv _ => n - (intOf bv).toNat)
                    case atStart => exact ⟨more, 0, d, rfl, rfl, Nat.zero_le _, HD, HR0⟩
                    case round =>
                      clear HD HR0 cn
                      obtain ⟨more, b, d, rfl, rfl, hb, HD, HR0⟩ := hrel
                      have cn : wr.cell? ⟨w.heap.size, 0, none⟩ = some (.int .i64 (n : Int)) := HD.out.box.cell 0
                      have cu : wr.cell? ⟨w.heap.size, 1, none⟩ = some (.slice ad len cap) := HD.out.box.cell 1
                      by_cases hbn : b < n
                      · have hsa := HR0.out.small hn (by omega) ha a hlt
                        have hsb := HR0.out.small hn (by omega) ha b hbn
                        have ca := HD.out.cell hlt
                        have cb := HD.out.cell hbn
                        have CHb := Lib.hid (fun W => CH.out b W)
                        simp only [Nodes.has_nat S b hS] at CHb
                        have CKK := Lib.hid (fun W (hW : Below wr.heap.size wr W) => CK.out a b W (HD.out.below.trans (hW.mono HD.out.below.size)))
                        have HM : Hid ((d.getD a 0 < 0 ∨ S.testBit b = true ∨ lk L (a : Int) (b : Int) = false ∨ (0 ≤ d.getD b 0 ∧ d.getD b 0 ≤ d.getD a 0 + 1)) → Rx n S L s p a (b + 1) d more) := Lib.hid (fun h => HR0.out.miss hlt hbn (by
                          rintro ⟨h1, h2, h3, h4⟩
                          rcases h with h | h | h | h
                          · omega
                          · rw [h2] at h; cases h
                          · rw [h3] at h; cases h
                          · omega))
                        have HH : Hid (0 ≤ d.getD a 0 → S.testBit b = false → lk L (a : Int) (b : Int) = true → (d.getD b 0 < 0 ∨ d.getD a 0 + 1 < d.getD b 0) → Rx n S L s p a (b + 1) (d.set b (d.getD a 0 + 1)) true) := Lib.hid (fun h1 h2 h3 h4 => HR0.out.hit hlt hbn ⟨h1, h2, h3, h4⟩)
                        have HRS : Hid (∀ W, Below wr.heap.size wr W → RD w w.heap.size g cap' n w0.heap.size (.slice ad len cap) d W ∧ W.cell? ⟨w.heap.size, 0, none⟩ = some (.int .i64 (n : Int)) ∧ W.cell? ⟨g, a, none⟩ = some (.int .i64 (d.getD a 0)) ∧ W.cell? ⟨g, b, none⟩ = some (.int .i64 (d.getD b 0)) ∧ W.frozen? ⟨g, b, none⟩ = false) := Lib.hid (fun W hW =>
                          have h := HD.out.step hW
                          ⟨h, h.box.cell 0, h.cell hlt, h.cell hbn, h.frozen b⟩)
                        obtain ⟨da, hda⟩ : ∃ da, d.getD a 0 = da := ⟨_, rfl⟩
                        obtain ⟨db, hdb⟩ : ∃ db, d.getD b 0 = db := ⟨_, rfl⟩
                        obtain ⟨sb, hsb0⟩ : ∃ sb, S.testBit b = sb := ⟨_, rfl⟩
                        obtain ⟨lb, hlb0⟩ : ∃ lb, lk L (a : Int) (b : Int) = lb := ⟨_, rfl⟩
                        rw [hda] at hsa ca HM HH HRS
                        rw [hdb] at hsb cb HM HH HRS
                        rw [hsb0] at CHb HM HH
                        rw [hlb0] at CKK HM HH
                        clear hda hdb hsb0 hlb0 HR0
                        obtain ⟨hsa1, hsa2⟩ := hsa
                        obtain ⟨hsb1, hsb2⟩ := hsb
                        by_cases h1 : da < 0
                        · have t1 : decide (0 ≤ da) = false := decide_eq_false (by omega)
                          have HRN := Lib.hid (HM.out (.inl (by omega)))
                          have q0 : ∀ x : Qui.Cls wr, x.V.cell? ⟨w.heap.size, 0, none⟩ = some (.int .i64 (n : Int)) := fun x => (HRS.out x.V x.lies).2.1
                          have q1 : ∀ x : Qui.Cls wr, x.V.cell? ⟨w.heap.size, 1, none⟩ = some (.slice ad len cap) := fun x => (HRS.out x.V x.lies).1.box.cell 1
                          have q2 : ∀ x : Qui.Cls wr, x.V.cell? ⟨g, a, none⟩ = some (.int .i64 da) := fun x => (HRS.out x.V x.lies).2.2.1
                          have q3 : ∀ x : Qui.Cls wr, x.V.cell? ⟨g, b, none⟩ = some (.int .i64 db) := fun x => (HRS.out x.V x.lies).2.2.2.1
                          clear CK CH
                          go_upto_region 18 with fail
                          refine Qui.wp_region_quiet_below (by kernel_rfl) (by kernel_rfl) ?_
                          repeat (go_big_quiet_step (first | (go_at_call 23; with_reducible exact Qui.cls_same (CHb.out _)) | (go_at_call 21; with_reducible exact Qui.cls_below (CKK.out _ (Qui.Cls.lies _)))))
                          refine wpQuiet_nil ?_
                          intro _ hw'
                          obtain ⟨x, rfl⟩ := hw'
                          have hV := x.lies
                          generalize x.V = V at *
                          clear x
                          obtain ⟨hDV, -⟩ := HRS.out V hV
                          have HDV := Lib.hid hDV
                          clear hDV q0 q1 q2 q3 hV HRS HM HH CKK CHb ca cb cn cu
                          go_wp2_with fail
                          go_roundw
                          case rel => exact ⟨more, b + 1, d, rfl, by go_num, by omega, HDV, HRN⟩
                          case measure => simp [intOf]; omega

                        cases sb with
                        | true =>
                          have t1 : decide (0 ≤ da) = true := decide_eq_true (by omega)
                          have HRN := Lib.hid (HM.out (.inr (.inl rfl)))
                          have q0 : ∀ x : Qui.Cls wr, x.V.cell? ⟨w.heap.size, 0, none⟩ = some (.int .i64 (n : Int)) := fun x => (HRS.out x.V x.lies).2.1
                          have q1 : ∀ x : Qui.Cls wr, x.V.cell? ⟨w.heap.size, 1, none⟩ = some (.slice ad len cap) := fun x => (HRS.out x.V x.lies).1.box.cell 1
                          have q2 : ∀ x : Qui.Cls wr, x.V.cell? ⟨g, a, none⟩ = some (.int .i64 da) := fun x => (HRS.out x.V x.lies).2.2.1
                          have q3 : ∀ x : Qui.Cls wr, x.V.cell? ⟨g, b, none⟩ = some (.int .i64 db) := fun x => (HRS.out x.V x.lies).2.2.2.1
                          clear CK CH
                          go_upto_region 18 with fail
                          refine Qui.wp_region_quiet_below (by kernel_rfl) (by kernel_rfl) ?_
                          repeat (go_big_quiet_step (first | (go_at_call 23; with_reducible exact Qui.cls_same (CHb.out _)) | (go_at_call 21; with_reducible exact Qui.cls_below (CKK.out _ (Qui.Cls.lies _)))))
                          refine wpQuiet_nil ?_
                          intro _ hw'
                          obtain ⟨x, rfl⟩ := hw'
                          have hV := x.lies
                          generalize x.V = V at *
                          clear x
                          obtain ⟨hDV, -⟩ := HRS.out V hV
                          have HDV := Lib.hid hDV
                          clear hDV q0 q1 q2 q3 hV HRS HM HH CKK CHb ca cb cn cu
                          go_wp2_with fail
                          go_roundw
                          case rel => exact ⟨more, b + 1, d, rfl, by go_num, by omega, HDV, HRN⟩
                          case measure => simp [intOf]; omega
                        | false =>
                          cases lb with
                          | false =>
                            have t1 : decide (0 ≤ da) = true := decide_eq_true (by omega)
                            have HRN := Lib.hid (HM.out (.inr (.inr (.inl rfl))))
                            have q0 : ∀ x : Qui.Cls wr, x.V.cell? ⟨w.heap.size, 0, none⟩ = some (.int .i64 (n : Int)) := fun x => (HRS.out x.V x.lies).2.1
                            have q1 : ∀ x : Qui.Cls wr, x.V.cell? ⟨w.heap.size, 1, none⟩ = some (.slice ad len cap) := fun x => (HRS.out x.V x.lies).1.box.cell 1
                            have q2 : ∀ x : Qui.Cls wr, x.V.cell? ⟨g, a, none⟩ = some (.int .i64 da) := fun x => (HRS.out x.V x.lies).2.2.1
                            have q3 : ∀ x : Qui.Cls wr, x.V.cell? ⟨g, b, none⟩ = some (.int .i64 db) := fun x => (HRS.out x.V x.lies).2.2.2.1
                            clear CK CH
                            go_upto_region 18 with fail
                            refine Qui.wp_region_quiet_below (by kernel_rfl) (by kernel_rfl) ?_
                            repeat (go_big_quiet_step (first | (go_at_call 23; with_reducible exact Qui.cls_same (CHb.out _)) | (go_at_call 21; with_reducible exact Qui.cls_below (CKK.out _ (Qui.Cls.lies _)))))
                            refine wpQuiet_nil ?_
                            intro _ hw'
                            obtain ⟨x, rfl⟩ := hw'
                            have hV := x.lies
                            generalize x.V = V at *
                            clear x
                            obtain ⟨hDV, -⟩ := HRS.out V hV
                            have HDV := Lib.hid hDV
                            clear hDV q0 q1 q2 q3 hV HRS HM HH CKK CHb ca cb cn cu
                            go_wp2_with fail
                            go_roundw
                            case rel => exact ⟨more, b + 1, d, rfl, by go_num, by omega, HDV, HRN⟩
                            case measure => simp [intOf]; omega
                          | true =>
                            by_cases h2 : db < 0
                            · have t1 : decide (0 ≤ da) = true := decide_eq_true (by omega)
                              have t2 : decide (db < 0) = true := decide_eq_true (by omega)
                              have HRN := Lib.hid (HH.out (by omega) rfl rfl (.inl (by omega)))
                              have q0 : ∀ x : Qui.Cls wr, x.V.cell? ⟨w.heap.size, 0, none⟩ = some (.int .i64 (n : Int)) := fun x => (HRS.out x.V x.lies).2.1
                              have q1 : ∀ x : Qui.Cls wr, x.V.cell? ⟨w.heap.size, 1, none⟩ = some (.slice ad len cap) := fun x => (HRS.out x.V x.lies).1.box.cell 1
                              have q2 : ∀ x : Qui.Cls wr, x.V.cell? ⟨g, a, none⟩ = some (.int .i64 da) := fun x => (HRS.out x.V x.lies).2.2.1
                              have q3 : ∀ x : Qui.Cls wr, x.V.cell? ⟨g, b, none⟩ = some (.int .i64 db) := fun x => (HRS.out x.V x.lies).2.2.2.1
                              clear CK CH
                              go_upto_region 18 with fail
                              refine Qui.wp_region_quiet_below (by kernel_rfl) (by kernel_rfl) ?_
                              repeat (go_big_quiet_step (first | (go_at_call 23; with_reducible exact Qui.cls_same (CHb.out _)) | (go_at_call 21; with_reducible exact Qui.cls_below (CKK.out _ (Qui.Cls.lies _)))))
                              refine wpQuiet_nil ?_
                              intro _ hw'
                              obtain ⟨x, rfl⟩ := hw'
                              have hV := x.lies
                              generalize x.V = V at *
                              clear x
                              obtain ⟨hDV, -, e1, e2, f2⟩ := HRS.out V hV
                              have HDS := Lib.hid (hDV.set b (da + 1))
                              clear hDV q0 q1 q2 q3 hV HRS HM HH CKK CHb ca cb cn cu HD
                              go_wp2_with fail
                              go_roundw
                              case rel => exact ⟨true, b + 1, _, rfl, by go_num, by omega, HDS, HRN⟩
                              case measure => simp [intOf]; omega
                            · by_cases h3 : da + 1 < db
                              · have t1 : decide (0 ≤ da) = true := decide_eq_true (by omega)
                                have t2 : decide (db < 0) = false := decide_eq_false (by omega)
                                have t3 : decide (da + 1 < db) = true := decide_eq_true h3
                                have HRN := Lib.hid (HH.out (by omega) rfl rfl (.inr h3))
                                have q0 : ∀ x : Qui.Cls wr, x.V.cell? ⟨w.heap.size, 0, none⟩ = some (.int .i64 (n : Int)) := fun x => (HRS.out x.V x.lies).2.1
                                have q1 : ∀ x : Qui.Cls wr, x.V.cell? ⟨w.heap.size, 1, none⟩ = some (.slice ad len cap) := fun x => (HRS.out x.V x.lies).1.box.cell 1
                                have q2 : ∀ x : Qui.Cls wr, x.V.cell? ⟨g, a, none⟩ = some (.int .i64 da) := fun x => (HRS.out x.V x.lies).2.2.1
                                have q3 : ∀ x : Qui.Cls wr, x.V.cell? ⟨g, b, none⟩ = some (.int .i64 db) := fun x => (HRS.out x.V x.lies).2.2.2.1
                                clear CK CH
                                go_upto_region 18 with fail
                                refine Qui.wp_region_quiet_below (by kernel_rfl) (by kernel_rfl) ?_
                                repeat (go_big_quiet_step (first | (go_at_call 23; with_reducible exact Qui.cls_same (CHb.out _)) | (go_at_call 21; with_reducible exact Qui.cls_below (CKK.out _ (Qui.Cls.lies _)))))
                                refine wpQuiet_nil ?_
                                intro _ hw'
                                obtain ⟨x, rfl⟩ := hw'
                                have hV := x.lies
                                generalize x.V = V at *
                                clear x
                                obtain ⟨hDV, -, e1, e2, f2⟩ := HRS.out V hV
                                have HDS := Lib.hid (hDV.set b (da + 1))
                                clear hDV q0 q1 q2 q3 hV HRS HM HH CKK CHb ca cb cn cu HD
                                go_wp2_with fail
                                go_roundw
                                case rel => exact ⟨true, b + 1, _, rfl, by go_num, by omega, HDS, HRN⟩
                                case measure => simp [intOf]; omega
                              · have t1 : decide (0 ≤ da) = true := decide_eq_true (by omega)
                                have t2 : decide (db < 0) = false := decide_eq_false (by omega)
                                have t3 : decide (da + 1 < db) = false := decide_eq_false h3
                                have HRN := Lib.hid (HM.out (.inr (.inr (.inr ⟨by omega, by omega⟩))))
                                have q0 : ∀ x : Qui.Cls wr, x.V.cell? ⟨w.heap.size, 0, none⟩ = some (.int .i64 (n : Int)) := fun x => (HRS.out x.V x.lies).2.1
                                have q1 : ∀ x : Qui.Cls wr, x.V.cell? ⟨w.heap.size, 1, none⟩ = some (.slice ad len cap) := fun x => (HRS.out x.V x.lies).1.box.cell 1
                                have q2 : ∀ x : Qui.Cls wr, x.V.cell? ⟨g, a, none⟩ = some (.int .i64 da) := fun x => (HRS.out x.V x.lies).2.2.1
                                have q3 : ∀ x : Qui.Cls wr, x.V.cell? ⟨g, b, none⟩ = some (.int .i64 db) := fun x => (HRS.out x.V x.lies).2.2.2.1
                                clear CK CH
                                go_upto_region 18 with fail
                                refine Qui.wp_region_quiet_below (by kernel_rfl) (by kernel_rfl) ?_
                                repeat (go_big_quiet_step (first | (go_at_call 23; with_reducible exact Qui.cls_same (CHb.out _)) | (go_at_call 21; with_reducible exact Qui.cls_below (CKK.out _ (Qui.Cls.lies _)))))
                                refine wpQuiet_nil ?_
                                intro _ hw'
                                obtain ⟨x, rfl⟩ := hw'
                                have hV := x.lies
                                generalize x.V = V at *
                                clear x
                                obtain ⟨hDV, -⟩ := HRS.out V hV
                                have HDV := Lib.hid hDV
                                clear hDV q0 q1 q2 q3 hV HRS HM HH CKK CHb ca cb cn cu
                                go_wp2_with fail
                                go_roundw
                                case rel => exact ⟨more, b + 1, d, rfl, by go_num, by omega, HDV, HRN⟩
                                case measure => simp [intOf]; omega
                      · obtain rfl : b = n := by omega
                        have HRN := Lib.hid HR0.out.row
                        clear cu
                        go_wp2_with fail
                        go_roundw
                        case rel => exact ⟨more, a + 1, d, rfl, by go_num, by omega, HD, HRN⟩
                        case measure => simp [intOf]; omega
                  · obtain rfl : a = n := by omega
                    clear hlt
                    cases more with
                    | true =>
                      have HRN := Lib.hid (HR0.out.pass hn)
                      have HPN := Lib.hid (HR0.out.mor rfl)
                      have hp3 := HP2.out
                      have hp4 := HPN.out
                      go_wp2_with fail
                      go_roundg (gk - 1)
                      case measure => omega
                      case rel => exact ⟨true, d, rfl, HD, Lib.hid (.inl ⟨rfl, p + 1, by omega, by omega, HRN.out⟩)⟩
                    | false =>
                      have HRN := Lib.hid HR0.out.done
                      have hp3 := HP2.out
                      go_wp2_with fail
                      go_roundg (gk - 1)
                      case measure => omega
                      case rel => exact ⟨false, d, rfl, HD, Lib.hid (.inr ⟨rfl, HRN.out⟩)⟩
end Go.Proofs.YtbgigimapogkcaaDoor.Rea
