/- Contracts of the document's own answers for layer 17: how wide a graph is. -/
import Derived.Test.YtbgigimapogkcaaDoorReaG
namespace Go.Proofs.YtbgigimapogkcaaDoor.Rea
open Go.ChangeShapes Go.WideShapes Go.ChangeAt Go.RowKit
open Grf (Pr lk RdG gval gbox)
open Nodes (Rd OwnL)
set_option linter.unusedVariables false
/-- The greatest distance of the pairs that lie ahead of (a, b). -/
structure WQ (n S : Nat) (L : List Pr) (a b : Nat) (m : Int) : Prop where
  all : ∀ x y, (x < a ∨ x = a ∧ y < b) → hereB n S x = true → hereB n S y = true → 0 ≤ dst n S L x y ∧ dst n S L x y ≤ m
  one : m = -1 ∨ ∃ x y, hereB n S x = true ∧ hereB n S y = true ∧ dst n S L x y = m
  lo : -1 ≤ m
  hi : m ≤ 64
section
variable {n S : Nat} {L : List Pr} {a b : Nat} {m : Int}
theorem WQ.start : WQ n S L 0 0 (-1) := ⟨fun x y h => by omega, .inl rfl, by omega, by omega⟩
theorem WQ.off (h : WQ n S L a 0 m) (ha : hereB n S a = false) : WQ n S L (a + 1) 0 m := by
  refine ⟨fun x y h1 h2 h3 => ?_, h.one, h.lo, h.hi⟩
  by_cases e : x = a
  · rw [e, ha] at h2; cases h2
  · exact h.all x y (by omega) h2 h3
theorem WQ.row (h : WQ n S L a n m) : WQ n S L (a + 1) 0 m :=
  ⟨fun x y h1 h2 h3 => h.all x y (by have := here_lt h3; omega) h2 h3, h.one, h.lo, h.hi⟩
theorem WQ.skip (h : WQ n S L a b m) (hb : hereB n S b = false) : WQ n S L a (b + 1) m := by
  refine ⟨fun x y h1 h2 h3 => ?_, h.one, h.lo, h.hi⟩
  by_cases e : x = a ∧ y = b
  · rw [e.2, hb] at h3; cases h3
  · exact h.all x y (by omega) h2 h3
theorem WQ.put (hn : n ≤ 64) (h : WQ n S L a b m) (ha : hereB n S a = true) (hb : hereB n S b = true) (h0 : 0 ≤ dst n S L a b) (h1 : m < dst n S L a b) : WQ n S L a (b + 1) (dst n S L a b) := by
  refine ⟨fun x y h2 h3 h4 => ?_, .inr ⟨a, b, ha, hb, rfl⟩, by omega, by have := dst_hi (n := n) (S := S) (L := L) a b h0; omega⟩
  by_cases e : x = a ∧ y = b
  · obtain ⟨rfl, rfl⟩ := e; omega
  · have := h.all x y (by omega) h3 h4; omega
theorem WQ.keep (h : WQ n S L a b m) (h0 : 0 ≤ dst n S L a b) (h1 : ¬ m < dst n S L a b) : WQ n S L a (b + 1) m := by
  refine ⟨fun x y h2 h3 h4 => ?_, h.one, h.lo, h.hi⟩
  by_cases e : x = a ∧ y = b
  · obtain ⟨rfl, rfl⟩ := e; omega
  · exact h.all x y (by omega) h3 h4
theorem WQ.wide (h : WQ n S L n 0 m) : IsWide n S L m := by
  by_cases hx : ∃ x, hereB n S x = true
  · obtain ⟨x, hx⟩ := hx
    have hxx := h.all x x (.inl (here_lt hx)) hx hx
    refine .inr ⟨⟨⟨x, hx⟩, fun y z hy hz => (h.all y z (.inl (here_lt hy)) hy hz).1⟩, ?_, fun y z hy hz => (h.all y z (.inl (here_lt hy)) hy hz).2⟩
    rcases h.one with e | e
    · omega
    · obtain ⟨y, z, hy, hz, e⟩ := e; exact ⟨y, z, hy, hz, e⟩
  · refine .inl ⟨fun hw => hx hw.1, ?_⟩
    rcases h.one with e | ⟨y, z, hy, _⟩
    · exact e
    · exact absurd ⟨y, hy⟩ hx
theorem not_wide {u : Int} (hu : IsWide n S L u) (ha : hereB n S a = true) (hb : hereB n S b = true) (h0 : dst n S L a b < 0) : u = -1 := by
  rcases hu with ⟨_, e⟩ | ⟨hw, _⟩
  · exact e
  · have := hw.2 a b ha hb; omega
end
set_option maxRecDepth 100000 in
set_option maxHeartbeats 4000000 in
theorem rwide_any (n : Nat) (hn : n ≤ 64) (ad : Option Addr) (len cap : Nat) (L : List Pr) (S : Nat) (hS : S < 18446744073709551616) (u : Int) (hu : IsWide n S L u) (w : World) (hlen : L.length = len) (hm : len < 9223372036854775807) (hr : RdG w ad L) :
    Calls Tryd.prog 28 #[gval (n : Int) (.slice ad len cap), .int .u64 S] w fun e w' => e = .returned (.int .i64 u) ∧ Below w.heap.size w w' := by
  obtain ⟨w0, hw0⟩ : ∃ w0, Hid (w0 = w.alloc (.cells #[.int .i64 (n : Int), .slice ad len cap] 27)) := ⟨_, Lib.hid rfl⟩
  obtain ⟨hB0, hs0, hb0⟩ := gbox w w0 (n : Int) _ hw0.out
  have HB := Lib.hid hB0
  have HU := Lib.hid hu
  have HBX := Lib.hid (fun W (hB : Below w0.heap.size w0 W) => And.intro ((hb0.below hB).cell 0) ((hb0.below hB).cell 1))
  have CD := Lib.hid (fun (x : Nat) W (hB : Below w0.heap.size w0 W) => rdist_any n hn ad len cap L (x : Int) S hS W hlen hm ((hr.below hB0).below hB))
  have CH := Lib.hid (fun (x : Nat) W => Nodes.rhas_any S hS (x : Int) W)
  simp only [Nodes.has_nat S _ hS] at CH
  simp only [List.getElem?_toArray, List.getElem?_cons_zero, List.getElem?_cons_succ] at HBX
  clear hlen hr hB0 hs0 hb0 hu
  unfold gval at *
  go_enter Tryd.func28, Tryd.ntmps28
  go_upto_region 1 with fail
  rw [← hw0.out]
  go_wp2_with fail
  go_loopw [5, 6] (fun v i wr => ∃ (k : Nat) (m : Int), k ≤ n ∧ i = .int .i64 k ∧ v = .int .i64 m ∧ Hid (WQ n S L k 0 m) ∧ Hid (Below w0.heap.size w0 wr)) (fun _ i _ => n - (intOf i).toNat)
  case atStart => exact ⟨0, -1, Nat.zero_le _, rfl, rfl, Lib.hid WQ.start, Lib.hid (Below.refl _ _)⟩
  case round =>
    obtain ⟨k, m, hk, rfl, rfl, HW, HBr⟩ := hrel
    obtain ⟨c0, c1⟩ := HBX.out wr HBr.out
    by_cases hlt : k < n
    · cases hkb : S.testBit k with
      | true =>
        have CHK := Lib.hid (CH.out k wr)
        rw [hkb] at CHK
        have HO := Lib.hid (HW.out.off (by unfold hereB; rw [hkb]; simp))
        clear hkb
        go_wp2_with fail
        refine (CHK.out).mono ?_; rintro e w' ⟨rfl, rfl⟩
        go_wp2_with fail
        go_roundw
        case rel => exact ⟨k + 1, m, by omega, by go_num, rfl, HO, HBr⟩
        case measure => simp [intOf]; omega
      | false =>
        have CHK := Lib.hid (CH.out k wr)
        rw [hkb] at CHK
        have hk64 : k < 64 := by omega
        have CDK := Lib.hid (CD.out k wr HBr.out)
        rw [src_nat hk64] at CDK
        have HKH : Hid (hereB n S k = true) := Lib.hid (here_iff.2 ⟨hlt, hkb⟩)
        have HLN := Lib.hid (dst_len (n := n) (S := S) (L := L) (i := k))
        clear hkb
        go_wp2_with fail
        refine (CHK.out).mono ?_; rintro e w' ⟨rfl, rfl⟩
        go_wp2_with fail
        refine (CDK.out).mono ?_; rintro e w1 ⟨add, capd, rfl, hown, hB1⟩
        have HRD := Lib.hid (OwnL.rd hown).1
        have HBr1 := Lib.hid (HBr.out.trans (hB1.mono HBr.out.size))
        rw [HLN.out]
        clear hown hB1 c0 c1 HBr CDK CHK
        go_wp2_with fail
        go_loopw [5, 8] (fun v i W => ∃ (j : Nat) (m : Int), j ≤ n ∧ i = .int .i64 j ∧ v = .int .i64 m ∧ Hid (WQ n S L k j m) ∧ Hid (w1 = W)) (fun _ i _ => n - (intOf i).toNat)
        case atStart => exact ⟨0, m, Nat.zero_le _, rfl, rfl, HW, Lib.hid rfl⟩
        case round =>
          clear HW
          obtain ⟨j, m, hj, rfl, rfl, HW, hWW⟩ := hrel
          obtain rfl := hWW.out
          clear hWW
          obtain ⟨c0, c1⟩ := HBX.out w1 HBr1.out
          by_cases hjn : j < n
          · have CHJ := Lib.hid (CH.out j w1)
            obtain ⟨b, off, rfl, hc⟩ := HRD.out.at (k := j) (by rw [HLN.out]; exact hjn)
            rw [dstL_at hjn] at hc
            have hm1 := HW.out.lo
            have hm2 := HW.out.hi
            have hd1 := dst_lo (n := n) (S := S) (L := L) k j
            have HD2 := Lib.hid (dst_hi (n := n) (S := S) (L := L) k j)
            cases hjb : S.testBit j with
            | true =>
              rw [hjb] at CHJ
              have HO := Lib.hid (HW.out.skip (by unfold hereB; rw [hjb]; simp))
              clear hjb hc
              go_wp2_with fail
              refine (CHJ.out).mono ?_; rintro e w' ⟨rfl, rfl⟩
              go_wp2_with fail
              go_roundw
              case rel => exact ⟨j + 1, m, by omega, by go_num, rfl, HO, Lib.hid (by trivial)⟩
              case measure => simp [intOf]; omega
            | false =>
              rw [hjb] at CHJ
              have HJH : Hid (hereB n S j = true) := Lib.hid (here_iff.2 ⟨hjn, hjb⟩)
              have HN := Lib.hid (fun h => not_wide HU.out HKH.out HJH.out h)
              have HP := Lib.hid (fun h0 h1 => HW.out.put hn HKH.out HJH.out h0 h1)
              have HK := Lib.hid (fun h0 h1 => HW.out.keep h0 h1)
              generalize dst n S L k j = dv at *
              by_cases h0 : dv < 0
              · have HE := Lib.hid (HN.out h0)
                have HBF := Lib.hid (HB.out.trans (HBr1.out.mono HB.out.size))
                have t1 : decide (dv < 0) = true := decide_eq_true h0
                clear HN HP HK HW hjb HD2
                go_wp2_with fail
                refine (CHJ.out).mono ?_; rintro e w' ⟨rfl, rfl⟩
                go_wp2_with fail
                go_ret
                exact ⟨by rw [HE.out]; rfl, HBF.out⟩
              · have hd2 := HD2.out (by omega)
                have t1 : decide (dv < 0) = false := decide_eq_false h0
                by_cases h1 : m < dv
                · have HO := Lib.hid (HP.out (by omega) h1)
                  have t2 : decide (m < dv) = true := decide_eq_true h1
                  clear HN HP HK HW hjb HD2
                  go_wp2_with fail
                  refine (CHJ.out).mono ?_; rintro e w' ⟨rfl, rfl⟩
                  go_wp2_with fail
                  go_roundw
                  case rel => exact ⟨j + 1, dv, by omega, by go_num, rfl, HO, Lib.hid (by trivial)⟩
                  case measure => simp [intOf]; omega
                · have HO := Lib.hid (HK.out (by omega) h1)
                  have t2 : decide (m < dv) = false := decide_eq_false h1
                  clear HN HP HK HW hjb HD2
                  go_wp2_with fail
                  refine (CHJ.out).mono ?_; rintro e w' ⟨rfl, rfl⟩
                  go_wp2_with fail
                  go_roundw
                  case rel => exact ⟨j + 1, m, by omega, by go_num, rfl, HO, Lib.hid (by trivial)⟩
                  case measure => simp [intOf]; omega
          · obtain rfl : j = n := by omega
            have HO := Lib.hid HW.out.row
            go_wp2_with fail
            go_roundw
            case rel => exact ⟨k + 1, m, by omega, by go_num, rfl, HO, HBr1⟩
            case measure => simp [intOf]; omega
    · obtain rfl : k = n := by omega
      have HE := Lib.hid (wide_eq HW.out.wide HU.out)
      have HBF := Lib.hid (HB.out.trans (HBr.out.mono HB.out.size))
      go_wp2_with fail
      go_ret
      exact ⟨by rw [HE.out]; rfl, HBF.out⟩
end Go.Proofs.YtbgigimapogkcaaDoor.Rea
