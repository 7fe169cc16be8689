/- Contracts of package burst (layer 15) and of the document's own answers for it: bits of bytes turned. -/
import Derived.Test.YtpibmppolnfckaaDoorBstM
import Derived.Test.YtpibmppolnfckaaDoorCrcX
import Derived.Lib.SliceRun
namespace Go.Proofs.YtpibmppolnfckaaDoor.Bst
open Go.ChangeShapes Go.WideShapes Go.ChangeAt Go.RowKit
open Go.Proofs.YtpibmppolnfckaaDoor.Byt
open Go.Proofs.YtpibmppolnfckaaDoor.Crc (turnB turnB_len xor_u8 bvs_set)
set_option linter.unusedVariables false
set_option maxRecDepth 100000 in
/-- Clone: the same bytes elsewhere; nil of nil. -/
theorem bclone_any (ad : Option Addr) (len cap : Nat) (l : List UInt8) (w : World) (hlen : l.length = len) (hle : len ≤ cap) (hm : len ≤ 1000000) (hr : RdB w ad l) (hn : ad = none → cap = 0) :
    Calls Tryd.prog 16 #[.slice ad len cap] w fun e w' => ∃ ad' cap', e = .returned (.slice ad' len cap') ∧ OwnB w' w.heap.size (.slice ad' len cap') l ∧ Below w.heap.size w w' := by
  cases ad with
  | none =>
    obtain rfl : cap = 0 := hn rfl
    obtain rfl : len = 0 := by omega
    obtain rfl : l = [] := List.eq_nil_of_length_eq_zero hlen
    clear hr hn hlen
    have hq : (binOp .eql 22 (.slice none 0 0) (.slice none 0 0)).run Tryd.prog w = .ok (.bool true) w := Lib.run_eql_slice_nil w _ _ none 0 0 0 0 Tryd.underlying22
    go_enter Tryd.func16, Tryd.ntmps16
    go_wp2_with fail
    go_ret
    exact ⟨none, 0, rfl, World.ownsRow_nil _ _ _ _, Below.refl _ _⟩
  | some a =>
    obtain ⟨i0, hi, hz0, hz1, hz2⟩ := info_parts infoByte
    have c0 : (w.alloc (.cells #[] 5)).ownsRow w.heap.size 5 1 (.slice (some ⟨w.heap.size, 0, none⟩) 0 0) 0 (bvs []) := World.ownsRow_lit (size := 1) w #[] 0 (Nat.le_refl _) (by unfold maxLen; omega) rfl
    have hB0 : Below w.heap.size w (w.alloc (.cells #[] 5)) := (Below.refl _ _).alloc (Nat.le_refl _) _
    have c2 := Lib.hid (RdB.cells (hr.below hB0))
    have c3 := Lib.hid hlen
    have HQ : Hid (∀ w1 v m, w1.ownsRow w.heap.size 5 1 v m (bvs [] ++ bvs l) → m = l.length → (w.alloc (.cells #[] 5)).grownBy w1 (some w.heap.size) → ∃ ad' cap', v = .slice ad' len cap' ∧ OwnB w1 w.heap.size (.slice ad' len cap') l ∧ Below w.heap.size w w1) := Lib.hid (fun w1 v m h hm hg => by
      subst hm
      have ho : OwnB w1 w.heap.size v l := h
      obtain ⟨ad', cap', e, _⟩ := Own.shape ho
      subst e
      exact ⟨ad', cap', by rw [hlen], by rw [← hlen]; exact ho, hB0.grown hg (by simp) (fun k e => by cases e; exact Nat.le_refl _)⟩)
    clear hlen hr hn
    have hq : (binOp .eql 22 (.slice (some a) len cap) (.slice none 0 0)).run Tryd.prog w = .ok (.bool false) w := Lib.run_eql_slice_nil w _ _ (some a) len cap 0 0 Tryd.underlying22
    go_enter Tryd.func16, Tryd.ntmps16
    go_wp2_with (at_builtin; refine Own.wpList_append2_any _ rfl _ _ 22 rfl w.heap.size 5 i0 (.int .u8 0) 1 1 Tryd.underlying22 hi hz0 hz1 hz2 rfl (by decide) (.slice (some ⟨w.heap.size, 0, none⟩) 0 0) 0 _ rfl c0 (some a) len cap (bvs l) rfl (by rw [bvs_len, Nat.mul_one, c3.out]) (fun h => by cases h) c2.out (bvs_oneCell _) (by unfold maxLen; omega) (by omega) (by simp) ?_; intro v' w1 hown hgrow _)
    obtain ⟨ad', cap', rfl, h1, h2⟩ := HQ.out w1 v' _ hown (by rw [c3.out]; simp) hgrow
    clear hown hgrow c0 c2 HQ
    go_wp2_with fail
    go_ret
    exact ⟨_, _, rfl, h1, h2⟩
theorem turnB_nil (p bs : Nat) : turnB [] p bs 32 = [] := List.eq_nil_of_length_eq_zero (turnB_len _ _ _ _)
/-- What Turn makes of bytes. -/
def turnP (l : List UInt8) (pos bs : Nat) : List UInt8 := turnB l (pos % (8 * l.length)) bs 32
theorem turnP_len (l : List UInt8) (pos bs : Nat) : (turnP l pos bs).length = l.length := turnB_len _ _ _ _
theorem turnP_nil (pos bs : Nat) : turnP [] pos bs = [] := turnB_nil _ _
theorem xb_val (x : UInt8) (q : Nat) : Value.int .u8 (Go.bits .xor .u8 (x.toNat : Int) ((q : Int) % 256)) = bv (xb x q) := by
  unfold bv
  rw [xb_nat, show (q : Int) % 256 = ((q % 256 : Nat) : Int) by omega, xor_u8 _ _ x.toNat_lt (Nat.mod_lt _ (by decide))]
set_option maxRecDepth 100000 in
set_option maxHeartbeats 1000000 in
theorem turn_any (ad : Option Addr) (len cap : Nat) (l : List UInt8) (pos bs : Nat) (w : World) (hlen : l.length = len) (hm : len ≤ 1000000) (hp : pos < 4294967296) (hbs : bs < 4294967296) (hr : RdB w ad l) (hle : len ≤ cap) (hn : ad = none → cap = 0) :
    Calls Tryd.prog 8 #[.slice ad len cap, .int .u32 pos, .int .u32 bs] w (BytesPost (turnP l pos bs) w) := by
  by_cases h0 : len = 0
  · subst h0
    obtain rfl := List.eq_nil_of_length_eq_zero hlen
    rw [turnP_nil]
    have HO : Hid (OwnB w w.heap.size (.slice none 0 0) []) := Lib.hid (World.ownsRow_nil _ _ _ _)
    clear hr hn hlen
    go_enter Tryd.func8, Tryd.ntmps8
    go_wp2_with fail
    go_ret
    exact ⟨none, 0, rfl, HO.out, Below.refl _ _⟩
  · have CC := Lib.hid (bclone_any ad len cap l w hlen hle hm hr hn)
    obtain ⟨p, hpp⟩ : ∃ p, Hid (pos % (8 * len) = p) := ⟨_, Lib.hid rfl⟩
    have hp8 : p < 8 * len := by rw [← hpp.out]; exact Nat.mod_lt _ (by omega)
    have HP : Hid ((pos : Int) % (8 * (len : Int)) = (p : Int)) := Lib.hid (by rw [← hpp.out]; simp)
    have h2 : 2 ^ (p % 8) ≤ 128 := by
      have : 2 ^ (p % 8) ≤ 2 ^ 7 := Nat.pow_le_pow_right (by decide) (by omega)
      omega
    have HT : Hid (turnP l pos bs = turnB l p bs 32) := Lib.hid (by unfold turnP; rw [hlen, hpp.out])
    have HW := Lib.hid (fun k (h : bs * 2 ^ (p % 8) / 256 ^ k = 0 ∨ l.length ≤ p / 8 + k) => tw_turn l p bs k hbs h)
    have hm2 : bs * 2 ^ (p % 8) < 549755813888 := Nat.lt_of_le_of_lt (Nat.mul_le_mul_left _ h2) (by omega)
    have HS : Hid (IntKind.u64.wrap ((bs : Int) * 2 ^ (p % 8)) = ((bs * 2 ^ (p % 8) : Nat) : Int)) := Lib.hid (by
      rw [IntKind.wrap_u64, show (bs : Int) * 2 ^ (p % 8) = ((bs * 2 ^ (p % 8) : Nat) : Int) by simp]
      generalize bs * 2 ^ (p % 8) = m at *
      omega)
    generalize bs * 2 ^ (p % 8) = m at HW HS hm2
    have h8 : (1 : Int) ≤ 8 * (len : Int) := by omega
    obtain ⟨j, hj⟩ : ∃ j, Hid (p / 8 = j) := ⟨_, Lib.hid rfl⟩
    have hjl : j < len := by rw [← hj.out]; omega
    have HJ : Hid ((p : Int) / 8 = (j : Int)) := Lib.hid (by rw [← hj.out]; omega)
    have HL := Lib.hid hlen
    rw [hj.out, hlen] at HW
    clear hr hn hlen hpp h2
    go_enter Tryd.func8, Tryd.ntmps8
    go_upto_region 4 with fail
    rw [HP.out]
    go_wp2_with fail
    refine (CC.out).mono ?_; rintro e w1 ⟨ad1, cap1, rfl, hown, hB1⟩
    obtain ⟨p1, p2, -, p4⟩ := hown.pos
    rw [HL.out] at p1
    obtain ⟨g, rfl, hg1, hg2⟩ := p4 (by omega)
    have HO := Lib.hid hown
    have HB1 := Lib.hid hB1
    unfold maxLen at p2
    clear hown hB1 p4
    go_upto_region 6 with fail
    rw [HS.out]
    go_wp2_with fail
    rw [HJ.out]
    have HF : Hid (∀ (wr : World) (s : List UInt8) k, OwnB wr w.heap.size (.slice (some ⟨g, 0, none⟩) len cap1) s → Below w.heap.size w wr → s = tw l j m k → (m / 256 ^ k = 0 ∨ len ≤ j + k) → BytesPost (turnP l pos bs) w (.returned (.slice (some ⟨g, 0, none⟩) len cap1)) wr) := Lib.hid (fun wr s k ho hb hs h => by
      unfold BytesPost
      rw [turnP_len, HL.out, HT.out, ← HW.out k h, ← hs]
      exact ⟨_, _, rfl, ho, hb⟩)
    go_loopw [9, 10] (fun q i wr => ∃ (k x n : Nat) (s : List UInt8), q = .int .u64 x ∧ i = .int .u64 n ∧ n ≤ len ∧ Hid (n = j + k) ∧ Hid (x = m / 256 ^ k) ∧ x < 549755813888 ∧ Hid (s = tw l j m k) ∧ Hid (OwnB wr w.heap.size (.slice (some ⟨g, 0, none⟩) len cap1) s) ∧ Hid (Below w.heap.size w wr)) (fun _ i _ => len - (intOf i).toNat)
    case atStart => exact ⟨0, m, j, l, rfl, rfl, by omega, Lib.hid rfl, Lib.hid (by rw [Nat.pow_zero, Nat.div_one]), hm2, Lib.hid rfl, HO, HB1⟩
    case round =>
      obtain ⟨k, x, n, s, rfl, rfl, hn, hnj, hx, hx2, hs, hown, hB⟩ := hrel
      by_cases hx0 : x = 0
      · subst hx0
        have HR := Lib.hid (HF.out wr s k hown.out hB.out hs.out (.inl hx.out.symm))
        go_wp2_with fail
        first | exact HR.out | (go_ret; exact HR.out)
      · have hx1 : ((x : Int) != 0) = true := by simp; omega
        by_cases hlt : n < len
        · have hsl : s.length = len := by rw [hs.out, tw_len, HL.out]
          have hcell : wr.cell? ⟨g, n, none⟩ = some (.int .u8 ((s.getD n 0).toNat : Int)) := by
            obtain ⟨b', off', e, hc'⟩ := hown.out.rd.1.at (k := n) (by omega)
            cases e
            rw [Nat.zero_add] at hc'
            exact hc'
          have hfr : wr.frozen? ⟨g, n, none⟩ = false := by
            have ho := hown.out
            unfold OwnB at ho; rw [hsl] at ho
            exact World.ownsRow.frozenAt ho _
          have HT1 : Hid (s.set n (xb (s.getD n 0) x) = tw l j m (k + 1)) := Lib.hid (by rw [tw, ← hs.out, ← hx.out, ← hnj.out])
          have HX1 : Hid (x / 256 = m / 256 ^ (k + 1)) := Lib.hid (by rw [hx.out, Nat.div_div_eq_div_mul, Nat.pow_succ])
          have HSL := Lib.hid hsl
          obtain ⟨y, hy⟩ : ∃ y, Hid (s.getD n 0 = y) := ⟨_, Lib.hid rfl⟩
          rw [hy.out] at hcell HT1
          have HX := Lib.hid (xb_val y x)
          clear hsl hx0
          go_wp2_with fail
          go_roundw
          case rel =>
            refine ⟨k + 1, x / 256, n + 1, s.set n (xb y x), by go_num, by go_num, by omega, Lib.hid (by have := hnj.out; omega), HX1, by omega, HT1, Lib.hid ?_, Lib.hid (hB.out.setCell (p := ⟨g, n, none⟩) hg1 _)⟩
            rw [HX.out]
            have ho := hown.out
            unfold OwnB at ho ⊢
            rw [HSL.out] at ho
            rw [List.length_set, HSL.out, bvs_set]
            exact (World.ownsRow.stored ho n (bv (xb y x))).1
          case measure => simp [intOf]; omega
        · have HR := Lib.hid (HF.out wr s k hown.out hB.out hs.out (.inr (by have := hnj.out; omega)))
          have hd : decide ((n : Int) < (len : Int)) = false := decide_eq_false (by omega)
          go_wp2_with fail
          first | exact HR.out | (go_ret; exact HR.out)
set_option maxRecDepth 100000 in
theorem rturn_any (ad : Option Addr) (len cap : Nat) (l : List UInt8) (pos bs : Nat) (w : World) (hlen : l.length = len) (hm : len ≤ 1000000) (hp : pos < 4294967296) (hbs : bs < 4294967296) (hr : RdB w ad l) (hle : len ≤ cap) :
    Calls Tryd.prog 9 #[.slice ad len cap, .int .u32 pos, .int .u32 bs] w (BytesPost (turnP l pos bs) w) := by
  by_cases h0 : len = 0
  · subst h0
    obtain rfl := List.eq_nil_of_length_eq_zero hlen
    rw [turnP_nil]
    have HO : Hid (OwnB w w.heap.size (.slice none 0 0) []) := Lib.hid (World.ownsRow_nil _ _ _ _)
    clear hr hlen
    go_enter Tryd.func9, Tryd.ntmps9
    go_wp2_with fail
    go_ret
    exact ⟨none, 0, rfl, HO.out, Below.refl _ _⟩
  · obtain ⟨b, off, rfl, -⟩ := hr.at (k := 0) (by omega)
    have hp8 : pos % (8 * len) < 8 * len := Nat.mod_lt _ (by omega)
    have CC := Lib.hid (Crc.turn_any b off len cap l (pos % (8 * len)) bs w hlen (by omega) hm (by omega) hbs hle hr)
    have e1 : ((pos % (8 * len) : Nat) : Int) = (pos : Int) % (8 * (len : Int)) := by simp
    have e2 : ((pos % (8 * len) : Nat) : Int) = wrap64 ((pos : Int) % (8 * (len : Int))) := by
      rw [← e1]
      unfold wrap64
      generalize pos % (8 * len) = p at *
      omega
    have HT : turnB l (pos % (8 * len)) bs 32 = turnP l pos bs := by unfold turnP; rw [hlen]
    rw [HT, e2] at CC
    generalize turnP l pos bs = t at *
    have h8 : (1 : Int) ≤ 8 * (len : Int) := by omega
    clear hr hlen e1 e2 hp8 HT
    go_enter Tryd.func9, Tryd.ntmps9
    go_wp2_with fail
    refine (CC.out).mono ?_; rintro e w1 ⟨ad1, cap1, rfl, hown, hB1⟩
    go_wp2_with fail
    go_ret
    exact ⟨ad1, cap1, rfl, hown, hB1⟩
end Go.Proofs.YtpibmppolnfckaaDoor.Bst
