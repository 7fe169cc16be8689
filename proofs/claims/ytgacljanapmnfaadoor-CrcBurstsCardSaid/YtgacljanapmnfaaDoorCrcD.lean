/- Contracts of package crc (layer 4) and of the document's own answers for it: bytes sealed with their sum. -/
import Derived.Test.YtgacljanapmnfaaDoorCrcC
import Derived.Deep.Cut
namespace Go.Proofs.YtgacljanapmnfaaDoor.Crc
open Go.ChangeShapes Go.WideShapes Go.ChangeAt Go.RowKit
open Go.Proofs.YtgacljanapmnfaaDoor.Byt
set_option linter.unusedVariables false
theorem byte_at (s : Nat) : ((UInt8.ofNat s).toNat : Int) = (s : Int) % 256 := by rw [UInt8.toNat_ofNat']; omega
theorem le4_cells (s : Nat) (hs : s < 4294967296) : bvs (le4 s) = [.int .u8 ((s : Int) % 256), .int .u8 ((s : Int) / 256 % 256), .int .u8 ((s : Int) / 65536 % 256), .int .u8 ((s : Int) / 16777216)] := by
  have e (n : Nat) : bv (UInt8.ofNat (n % 256)) = .int .u8 ((n : Int) % 256) := by unfold bv; rw [byte_at]; congr 1; omega
  unfold le4 bvs
  rw [List.map_cons, List.map_cons, List.map_cons, List.map_cons, List.map_nil, e, e, e, e]
  simp only [List.cons.injEq, Value.int.injEq, true_and, and_true]
  omega
theorem cells4_new (w : World) (x0 x1 x2 x3 : Value) (t : TypeId) : ∀ j u, [x0, x1, x2, x3][j]? = some u → (w.alloc (.cells #[x0, x1, x2, x3] t)).cell? ((⟨w.heap.size, 0, none⟩ : Addr).add j) = some u := by
  intro j u h
  have hh := heap_alloc_last w (.cells #[x0, x1, x2, x3] t)
  rw [Addr.add_lit, Nat.zero_add]
  simp only [World.cell?, hh]
  simpa using h
theorem seal_any (ad : Option Addr) (len cap : Nat) (l : List UInt8) (w : World) (hlen : l.length = len) (hm : len ≤ 1000000) (hr : RdB w ad l) (hnil : ad = none → cap = 0) (hcap : len ≤ cap) (hT : Tabs w) :
    Calls Tryd.prog 16 #[.slice ad len cap] w (BytesPost (sealB l) w) := by
  obtain ⟨i0, hi, hz0, hz1, hz2⟩ := info_parts infoByte
  have C1 := Lib.hid (fun c => sum_one ad len cap l w hlen (by omega) hr hT c _ rfl)
  have HN := Lib.hid hnil
  have HL := Lib.hid hlen
  have HR := Lib.hid hr
  have HC := Lib.hid (le4_cells (sumB l) (sumB_lt l))
  have hs := sumB_lt l
  have HSL : Hid (∀ v W base, W.ownsRow base 5 1 v (len + 4) (bvs l ++ bvs (le4 (sumB l))) → OwnB W base v (sealB l)) := Lib.hid (fun v W base h => by
    unfold OwnB; rw [seal_len, hlen, sealB, bvs_append]; exact h)
  have HSL2 := Lib.hid (show (sealB l).length = len + 4 by rw [seal_len, hlen])
  generalize sumB l = s at *
  obtain ⟨w1, h1⟩ : ∃ w1, Hid (w.alloc (.cells #[.slice ad len cap] 22) = w1) := ⟨_, Lib.hid rfl⟩
  have hB1 : Below w.heap.size w w1 := by rw [← h1.out]; exact (Below.refl _ _).alloc (Nat.le_refl _) _
  rw [h1.out] at C1
  clear hnil hlen hr hT
  go_enter Tryd.func16, Tryd.ntmps16
  go_wp2_with fail
  rw [h1.out]
  refine (C1.out _).mono ?_; rintro e w' ⟨rfl, rfl⟩
  have c1 : Hid (ad = none → len = 0 ∧ cap = 0) := Lib.hid (fun h => ⟨by have := HN.out h; omega, HN.out h⟩)
  have hs1 := hB1.size
  go_upto_region 3 with (at_make; refine wpList_make_own _ rfl _ _ _ rfl w.heap.size 5 i0 (.int .u8 0) 1 Tryd.underlying22 hi hz0 hz1 .i64 .i64 _ (len + 4) rfl rfl (by omega) (by rw [hz2]; omega) (by unfold maxLen; omega) (by omega) ?_; intro w2 hown hgrow)
  have hB2 : Below w.heap.size w w2 := hB1.trans ((Below.refl _ w1).grown hgrow hs1 (fun k e => by cases e))
  have hs2 := hB2.size
  have c2 := Lib.hid (RdB.cells (HR.out.below hB2))
  generalize (Value.slice (some ⟨w1.heap.size, 0, none⟩) 0 (len + 4)) = v0 at hown ⊢
  clear hgrow
  go_upto_region 4 with (at_builtin; refine Own.wpList_append2_any _ rfl _ _ 22 rfl w.heap.size 5 i0 (.int .u8 0) 1 1 Tryd.underlying22 hi hz0 hz1 hz2 rfl (by decide) _ _ _ rfl hown ad len cap (bvs l) rfl (by rw [bvs_len, HL.out, Nat.mul_one]) c1.out c2.out (bvs_oneCell _) (by unfold maxLen; omega) (by omega) (by omega) ?_; intro v3 w3 hown3 hgrow3 _)
  have hB3 : Below w.heap.size w w3 := hB2.trans ((Below.refl _ w2).grown hgrow3 hs2 (fun j ej => (World.ownsRow.lt hown j ej).1))
  have hs3 := hB3.size
  rw [Nat.zero_add, List.nil_append] at hown3
  clear hown hgrow3 c2
  go_wp2_with (at_builtin; refine Own.wpList_append2 _ rfl _ _ 22 rfl w.heap.size 5 i0 (.int .u8 0) 1 1 Tryd.underlying22 hi hz0 hz1 hz2 rfl (by decide) _ _ _ rfl (World.ownsRow.alloc hown3 _) ⟨w3.heap.size, 0, none⟩ 4 4 _ rfl rfl (cells4_new _ _ _ _ _ _) (by simp [Value.oneCell']) (by unfold maxLen; omega) (by omega) (by simp; omega) ?_; intro v4 w4 hown4 hgrow4 _ _)
  have hB4 := hB3.trans (Own.below_append hown3 hs3 hgrow4)
  have HO := HSL.out v4 w4 _ (by rw [HC.out]; exact hown4)
  obtain ⟨ad4, cap4, rfl, _⟩ := Own.shape hown4
  go_wp2_with fail
  go_ret
  unfold BytesPost
  rw [HSL2.out]
  exact ⟨ad4, cap4, rfl, HO, hB4⟩

def lowb : Nat → Nat → List UInt8
  | _, 0 => []
  | r, m + 1 => UInt8.ofNat (r % 256) :: lowb (r / 256) m
theorem lowb_four (s : Nat) : lowb s 4 = le4 s := by
  simp only [lowb, le4, Nat.div_div_eq_div_mul]
theorem rseal_any (ad : Option Addr) (len cap : Nat) (l : List UInt8) (w : World) (hlen : l.length = len) (hm : len ≤ 1000000) (hr : RdB w ad l) (hnil : ad = none → cap = 0) (hcap : len ≤ cap) :
    Calls Tryd.prog 17 #[.slice ad len cap] w (BytesPost (sealB l) w) := by
  obtain ⟨i0, hi, hz0, hz1, hz2⟩ := info_parts infoByte
  have C1 := Lib.hid (fun c => rsum_any ad len c l w hlen (by omega) hr)
  have c1 : Hid (ad = none → len = 0 ∧ cap = 0) := Lib.hid (fun h => ⟨by have := hnil h; omega, hnil h⟩)
  have hB1 : Below w.heap.size w (w.alloc (.cells #[] 5)) := (Below.refl _ _).alloc (Nat.le_refl _) _
  have c2 := Lib.hid (RdB.cells (hr.below hB1))
  have HL := Lib.hid hlen
  have hs := sumB_lt l
  have HSL : Hid (∀ v W, OwnB W w.heap.size v (l ++ le4 (sumB l)) → OwnB W w.heap.size v (sealB l)) := Lib.hid (fun v W h => h)
  have HSL2 := Lib.hid (show (sealB l).length = len + 4 by rw [seal_len, hlen])
  have H4 := Lib.hid (lowb_four (sumB l))
  generalize sumB l = s at *
  have hown0 : (w.alloc (.cells #[] 5)).ownsRow w.heap.size 5 1 (.slice (some ⟨w.heap.size, 0, none⟩) 0 0) 0 (bvs []) := World.ownsRow_lit (size := 1) w #[] 0 (Nat.le_refl _) (by unfold maxLen; omega) rfl
  clear hnil hlen hr
  go_enter Tryd.func17, Tryd.ntmps17
  go_wp2_with fail
  refine (C1.out _).mono ?_; rintro e w' ⟨rfl, rfl⟩
  go_upto_region 3 with (at_builtin; refine Own.wpList_append2_any _ rfl _ _ 22 rfl w.heap.size 5 i0 (.int .u8 0) 1 1 Tryd.underlying22 hi hz0 hz1 hz2 rfl (by decide) _ _ _ rfl hown0 ad len cap (bvs l) rfl (by rw [bvs_len, HL.out, Nat.mul_one]) c1.out c2.out (bvs_oneCell _) (by unfold maxLen; omega) (by omega) (by simp) ?_; intro v3 w3 hown3 hgrow3 _)
  have hB3 : Below w.heap.size w w3 := hB1.grown hgrow3 (by simp) (fun j ej => by cases ej; exact Nat.le_refl _)
  have HO3 : Hid (OwnB w3 w.heap.size v3 l) := Lib.hid (by
    rw [Nat.zero_add] at hown3
    unfold OwnB; rw [HL.out]; exact hown3)
  clear hown3 hown0 hgrow3 c2 C1 hB1
  go_wp2_with fail
  go_loopw [3, 4, 5] (fun sv v i wr => ∃ (k r : Nat) (d : List UInt8), k ≤ 4 ∧ i = .int .i64 k ∧ sv = .int .u32 r ∧ r < 4294967296 ∧ Hid (d.length = k) ∧ Hid (d ++ lowb r (4 - k) = le4 s) ∧ OwnB wr w.heap.size v (l ++ d) ∧ Below w.heap.size w wr) (fun _ _ i _ => 4 - (intOf i).toNat)
  case atStart => exact ⟨0, s, [], Nat.zero_le _, rfl, rfl, hs, Lib.hid rfl, Lib.hid (by rw [List.nil_append]; exact H4.out), by rw [List.append_nil]; exact HO3.out, hB3⟩
  case round =>
    obtain ⟨k, r, d, hk, rfl, rfl, hr, hd, he, hown, hB⟩ := hrel
    have hsz := hB.size
    have hll : (l ++ d).length = len + k := by rw [List.length_append, HL.out, hd.out]
    by_cases hlt : k < 4
    · have hx : (UInt8.ofNat (r % 256)).toNat = r % 256 := by rw [UInt8.toNat_ofNat']; omega
      have HE := Lib.hid (show d ++ [UInt8.ofNat (r % 256)] ++ lowb (r / 256) (4 - (k + 1)) = le4 s by
        have := he.out
        rw [show 4 - k = (4 - (k + 1)) + 1 from by omega, lowb] at this
        rw [List.append_assoc]; exact this)
      have HD := Lib.hid (show (d ++ [UInt8.ofNat (r % 256)]).length = k + 1 by rw [List.length_append, hd.out]; rfl)
      have HB := Lib.hid (show bvs (l ++ d) ++ [.int .u8 ((r : Int) % 256)] = bvs (l ++ (d ++ [UInt8.ofNat (r % 256)])) by
        rw [← List.append_assoc, bvs_append (l ++ d)]
        congr 1
        show _ = [bv _]
        unfold bv; rw [hx]; congr 2)
      unfold OwnB at hown
      rw [hll] at hown
      have HLL := Lib.hid hll
      clear hll hx
      go_wp2_with (at_builtin; refine Own.wpList_append2 _ rfl _ _ 22 rfl w.heap.size 5 i0 (.int .u8 0) 1 1 Tryd.underlying22 hi hz0 hz1 hz2 rfl (by decide) _ _ _ rfl (World.ownsRow.alloc hown _) ⟨wr.heap.size, 0, none⟩ 1 1 [.int .u8 ((r : Int) % 256)] rfl rfl (cell_one_new _ _ _) (by simp [Value.oneCell']) (by unfold maxLen; omega) (by omega) (by simp; omega) ?_; intro v' w1 hown' hgrow _ _)
      have hB1 := hB.trans (Own.below_append hown hsz hgrow)
      go_roundw
      case rel =>
        refine ⟨k + 1, r / 256, d ++ [UInt8.ofNat (r % 256)], by omega, by go_num, by go_num, by omega, HD, HE, ?_, hB1⟩
        unfold OwnB
        rw [← HB.out, List.length_append, HL.out, HD.out]
        exact hown'
      case measure => simp [intOf]; omega
    · obtain rfl : k = 4 := by omega
      have HE := Lib.hid (show d = le4 s by have := he.out; rwa [show 4 - 4 = 0 from rfl, lowb, List.append_nil] at this)
      rw [HE.out] at hown
      have hown2 := HSL.out _ _ hown
      unfold OwnB at hown2
      rw [HSL2.out] at hown2
      obtain ⟨ad2, cap2, rfl, _⟩ := Own.shape hown2
      clear hown hll
      go_wp2_with fail
      go_ret
      unfold BytesPost OwnB
      rw [HSL2.out]
      exact ⟨ad2, cap2, rfl, hown2, hB⟩
end Go.Proofs.YtgacljanapmnfaaDoor.Crc
