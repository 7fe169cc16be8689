/- The reader: Num, Int, Bytes. -/
import Derived.Test.YtepcbklokcfbfaaBufE
namespace Go.Proofs.Ytepcbklokcfbfaa.Buf
open Go.ChangeShapes Go.WideShapes Go.ChangeAt Go.RowKit
open Go.Proofs.Ytepcbklokcfbfaa.Byt Go.Proofs.Ytepcbklokcfbfaa.Units Go.Proofs.Ytepcbklokcfbfaa.BufM
set_option linter.unusedVariables false

def numS (s : Int × List UInt8) : Int × List UInt8 := upd s (getN s.2).2
theorem nat_pow7 (k : Nat) : (128 : Nat) ^ k = 2 ^ (7 * k) := by rw [Nat.pow_mul]
theorem take_snocN {l : List UInt8} {k : Nat} (hk : k < l.length) : sevN (l.take (k + 1)) = sevN (l.take k) + (l.getD k 0).toNat % 128 * 128 ^ k := by
  rw [take_snoc hk, sevN_snoc, List.length_take, Nat.min_eq_left (by omega)]
theorem pow7_le {k : Nat} (h : k ≤ 8) : (128 : Nat) ^ k ≤ 128 ^ 8 := Nat.pow_le_pow_right (by omega) h
/-- Seven bits laid above what lies below, as the walk reckons it. -/
theorem or_seven (x y k : Nat) (hx : x < 128 ^ k) (hy : y * 128 ^ k < 18446744073709551616) (hk : k ≤ 9) : Go.bits .or .u64 (x : Int) ((y * 128 ^ k : Nat) : Int) = ((x + y * 128 ^ k : Nat) : Int) := by
  have h9 : (128 : Nat) ^ k ≤ 128 ^ 9 := Nat.pow_le_pow_right (by omega) hk
  rw [Bits.or_comm_u64, Bits.or_u64 _ _ (7 * k) (by omega) (by omega) (by rw [nat_pow7] at hx; exact_mod_cast hx) (by rw [nat_pow7]; exact_mod_cast Nat.mul_mod_left y (2 ^ (7 * k))) (by omega) (by omega)]
  omega
theorem or_u64_nat (a b : Int) : ∃ n : Nat, n < 18446744073709551616 ∧ Go.bits .or .u64 a b = (n : Int) := by
  have h : Go.bits .or .u64 a b = IntKind.u64.wrap (((BitVec.ofInt 64 a ||| BitVec.ofInt 64 b).toNat : Nat) : Int) := rfl
  rw [h, IntKind.wrap_u64]
  exact ⟨((((BitVec.ofInt 64 a ||| BitVec.ofInt 64 b).toNat : Nat) : Int) % 18446744073709551616).toNat, by omega, by omega⟩
theorem wrap_seven (y k : Nat) (hy : y * 128 ^ k < 18446744073709551616) : IntKind.u64.wrap ((y : Int) * 2 ^ (7 * k)) = ((y * 128 ^ k : Nat) : Int) := by
  have e : (y : Int) * 2 ^ (7 * k) = ((y * 128 ^ k : Nat) : Int) := by rw [nat_pow7]; push_cast; rfl
  rw [e, IntKind.wrap_u64]; omega
theorem or_go (x y k : Nat) (hx : x < 128 ^ k) (hy : y * 128 ^ k < 18446744073709551616) (hk : k ≤ 9) : Go.bits .or .u64 (x : Int) (IntKind.u64.wrap ((y : Int) * 2 ^ (7 * k))) = ((x + y * 128 ^ k : Nat) : Int) := by
  rw [wrap_seven y k hy, or_seven x y k hx hy hk]
theorem seven_lt8 {y k : Nat} (hy : y < 128) (hk : k ≤ 8) : y * 128 ^ k < 18446744073709551616 := by
  have h := pow7_le hk
  have := Nat.mul_le_mul (show y ≤ 127 by omega) h
  omega
theorem seven_lt9 {y : Nat} (hy : y ≤ 1) : y * 128 ^ 9 < 18446744073709551616 := by
  have := Nat.mul_le_mul_right (128 ^ 9) hy
  omega
theorem sub_128 {y : Nat} (h : 128 ≤ y) : ((y : Int) - 128) = ((y - 128 : Nat) : Int) := by omega
set_option maxRecDepth 100000 in
set_option maxHeartbeats 1000000 in
theorem rnum_any (g : Nat) (s : Int × List UInt8) (w : World) (h : RR w g s) :
    Calls Try.prog 33 #[.pointer (some ⟨g, 0, none⟩)] w (RPost w g (numS s) (.int .u64 (((getN s.2).1 : Nat) : Int))) := by
  obtain ⟨e0, l⟩ := s
  obtain ⟨ad, cap, hb, hr, hl, hc, hm⟩ := h.mem
  have c1 := hb.cell 1
  have f1 := hb.free 1
  simp at c1
  have hle := lead_le l
  have HLE := Lib.hid hle
  have hsm := h.small
  simp only at hsm hc
  have HRB := Lib.hid hr
  have HA : Hid (∀ k, k ≤ lead l → k < l.length → 128 ≤ (l.getD k 0).toNat → k + 1 ≤ lead l) := Lib.hid (fun k h1 h2 h3 => lead_step h1 h2 h3)
  have HS : Hid (∀ k, k ≤ lead l → (l.getD k 0).toNat < 128 → lead l = k) := Lib.hid (fun k h1 h2 => lead_stop h1 h2)
  have HF : Hid (∀ (e : Nat) (i : Int), i = (e : Int) → getN l = (0, [], e) → e ≠ 0 → (Calls Try.prog 47 #[.pointer (some ⟨g, 0, none⟩), .int .i64 i] w (RPost w g (numS (e0, l)) (.tuple #[])) ∧ ∀ w', RR w' g (numS (e0, l)) → RStep w w' g → RPost w g (numS (e0, l)) (.int .u64 (((getN l).1 : Nat) : Int)) (.returned (.int .u64 0)) w')) := Lib.hid (fun e i hi he hne => by
    subst hi
    have hs : numS (e0, l) = (if e0 = 0 then (e : Int) else e0, []) := by unfold numS; simp only; rw [he]; exact upd_bad _ _ hne
    refine ⟨by rw [hs]; exact fail_any g (e0, l) e w h, fun w' h1 h2 => ⟨by rw [he]; rfl, h1, h2⟩⟩)
  have HO : Hid (∀ k, lead l = k → k < 10 → k < l.length → lastB (l.getD k 0).toNat k = true →
      RPost w g (numS (e0, l)) (.int .u64 (((getN l).1 : Nat) : Int)) (.returned (.int .u64 ((sevN (l.take (k + 1)) : Nat) : Int))) (w.setCell ⟨g, 1, none⟩ (.slice (cutAd ad cap (k + 1)) (l.length - (k + 1)) (cap - (k + 1))))) := Lib.hid (fun k hk h10 hlt hlb => by
    have hlb' := of_decide_eq_true hlb
    have he : getN l = (sevN (l.take (k + 1)), l.drop (k + 1), 0) := by
      unfold getN
      rw [hk, if_neg (by omega), if_neg (by omega), if_neg (by omega)]
    have hkk : ∀ b, b < g → (w.setCell ⟨g, 1, none⟩ (.slice (cutAd ad cap (k + 1)) (l.length - (k + 1)) (cap - (k + 1)))).heap[b]? = w.heap[b]? := fun b hb => Below.heap_setCell _ _ _ _ (show b ≠ g by omega)
    refine ⟨by rw [he], ?_, ⟨(Below.refl _ _).setCell (p := ⟨g, 1, none⟩) (Nat.le_refl _) _, fun k h1 h2 => Below.heap_setCell _ _ _ _ (show k ≠ g by omega)⟩⟩
    have hs : numS (e0, l) = (e0, l.drop (k + 1)) := by unfold numS; simp only; rw [he]; exact upd_ok _ _
    rw [hs]
    refine ⟨⟨cutAd ad cap (k + 1), cap - (k + 1), ?_, (hl.cut _).kept (rd_cut hr hl hc) hkk, hl.cut _, by simp only [List.length_drop]; omega, by omega⟩, fun he => ?_, by simp only [List.length_drop]; omega⟩
    · simp only [List.length_drop]
      exact hb.put 1 _
    · have := h.bad he; simp only at this; rw [this] at hlt; simp at hlt)
  have HN5 : Hid (10 ≤ lead l → getN l = (0, [], 5)) := Lib.hid (fun h => by unfold getN; rw [if_pos h])
  have HN3 : Hid (lead l = l.length → lead l < 10 → getN l = (0, [], 3)) := Lib.hid (fun h h' => by unfold getN; rw [if_neg (by omega), if_pos h])
  have HN5' : Hid (∀ k, lead l = k → k < 10 → k < l.length → lastB (l.getD k 0).toNat k = false → getN l = (0, [], 5)) := Lib.hid (fun k hk h10 hlt hlb => by
    have hlb' := of_decide_eq_false hlb
    unfold getN
    rw [hk, if_neg (by omega), if_neg (by omega), if_pos (by omega)])
  have HX : Hid (∀ k, k < l.length → sevN (l.take (k + 1)) = sevN (l.take k) + (l.getD k 0).toNat % 128 * 128 ^ k ∧ sevN (l.take k) < 128 ^ k) := Lib.hid (fun k hk => ⟨take_snocN hk, by have := sevN_lt (l.take k); rwa [List.length_take, Nat.min_eq_left (by omega)] at this⟩)
  generalize hpost : RPost w g (numS (e0, l)) (.int .u64 (((getN l).1 : Nat) : Int)) = Post at *
  clear h hb hr hl hle hpost
  generalize hlen : l.length = len at *
  have HLN := Lib.hid hlen
  clear hlen
  go_enter Try.func33, Try.ntmps33
  go_wp2_with fail
  go_loop [3, 8] (fun xv iv => ∃ k x : Nat, k ≤ 10 ∧ iv = .int .i64 (k : Int) ∧ xv = .int .u64 (x : Int) ∧ x < 18446744073709551616 ∧ Hid (k ≤ lead l) ∧ Hid (k ≤ 9 → x = sevN (l.take k))) (fun _ i => 10 - (intOf i).toNat)
  case atStart => exact ⟨0, 0, by omega, rfl, rfl, by omega, Lib.hid (by omega), Lib.hid (fun _ => by rw [List.take_zero]; rfl)⟩
  case round =>
    obtain ⟨k, x, hk, rfl, rfl, hx, hkl, hxe⟩ := hrel
    by_cases hk10 : k < 10
    · by_cases hke : k = len
      · have HE := HN3.out (by have := hkl.out; have := HLE.out; omega) (by have := hkl.out; have := HLE.out; omega)
        obtain ⟨CF, HQ⟩ := HF.out 3 3 rfl HE (by decide)
        have CF := Lib.hid CF
        have HQ := Lib.hid HQ
        clear HE HF HO HN5 HN3 HN5' HX HA HS HRB
        subst hke
        go_wp2_with fail
        refine (CF.out).mono ?_; intro en w1 hh; obtain ⟨rfl, H1, H2⟩ := hh.ret; clear hh
        have HP := Lib.hid (HQ.out _ H1.out H2.out)
        go_wp2_with fail
        exact HP.out
      · have hkl2 : k < len := by have := hkl.out; have := HLE.out; omega
        have hkc : (k : Int) < (len : Int) := by omega
        have hne : ((k : Int) == (len : Int)) = false := by simp; omega
        obtain ⟨b, off, rfl, hcell⟩ := HRB.out.at (k := k) (by rw [HLN.out]; exact hkl2)
        obtain ⟨hx1, hx2⟩ := HX.out k hkl2
        have hb := (l.getD k 0).toNat_lt
        by_cases hbig : 128 ≤ (l.getD k 0).toNat
        · have HK := Lib.hid (HA.out k hkl.out hkl2 hbig)
          have hx1 := Lib.hid hx1
          have hx2 := Lib.hid hx2
          generalize (l.getD k 0).toNat = y at *
          clear HF HO HN5 HN3 HN5' HX HA HS HRB hke
          go_wp2_with fail
          obtain ⟨x', hx', hxx⟩ := or_u64_nat (x : Int) (IntKind.u64.wrap (((y : Int) - 128) * 2 ^ (7 * k)))
          go_roundw
          case rel => exact ⟨k + 1, x', by omega, by go_num, by rw [hxx], hx', HK, Lib.hid (fun h9 => by
            have h := hxe.out (by omega)
            rw [h] at hxx
            rw [sub_128 hbig, or_go _ _ k hx2.out (seven_lt8 (by omega) (by omega)) (by omega)] at hxx
            rw [hx1.out, show y % 128 = y - 128 from by omega]
            omega)⟩
          case measure => simp [intOf]; omega
        · have hsm2 : (l.getD k 0).toNat < 128 := by omega
          have hlk := HS.out k hkl.out hsm2
          cases hlb : lastB (l.getD k 0).toNat k with
          | true =>
            have HP := HO.out k hlk hk10 hkl2 hlb
            have HK9 : k = 9 → (l.getD k 0).toNat ≤ 1 := by
              intro h9
              have := of_decide_eq_true hlb
              omega
            have CI := Lib.hid (isLast_any (l.getD k 0).toNat k w)
            rw [hlb] at CI
            generalize (l.getD k 0).toNat = y at *
            have hfit : y * 128 ^ k < 18446744073709551616 := by
              by_cases h9 : k = 9
              · rw [h9]; exact seven_lt9 (HK9 h9)
              · exact seven_lt8 hsm2 (by omega)
            have hx0 := hxe.out (by omega)
            have hor : Go.bits .or .u64 (x : Int) (IntKind.u64.wrap ((y : Int) * 2 ^ (7 * k))) = ((sevN (l.take (k + 1)) : Nat) : Int) := by
              rw [hx0, or_go _ _ k hx2 hfit (by omega), hx1, show y % 128 = y from by omega]
            rw [← hor] at HP
            have hcut : cutAd (some ⟨b, off, none⟩) cap (k + 1) = if cap = k + 1 then some ⟨b, off, none⟩ else some ⟨b, off + (k + 1), none⟩ := by
              unfold cutAd
              rw [Option.map_some, Addr.add_lit]
            rw [hcut] at HP
            have hk1 : (0 : Int) ≤ (k : Int) + 1 ∧ (k : Int) + 1 ≤ (len : Int) := by omega
            obtain ⟨hk0, hk1⟩ := hk1
            clear HF HO HN5 HN3 HN5' HX HA HS HRB hke hor hcut hfit hx1 hx2 hx0 HK9 hlk hlb
            by_cases hcap : cap = k + 1
            · rw [if_pos hcap] at HP
              obtain rfl : len = k + 1 := by omega
              subst hcap
              rw [Nat.sub_self] at HP
              have HP := Lib.hid HP
              go_wp2_with fail
              refine (CI.out).mono ?_; rintro en w' ⟨rfl, rfl⟩
              go_wp2_with fail
              exact HP.out
            · rw [if_neg hcap] at HP
              have HP := Lib.hid HP
              go_wp2_with fail
              refine (CI.out).mono ?_; rintro en w' ⟨rfl, rfl⟩
              go_wp2_with fail
              exact HP.out
          | false =>
            have HE := HN5'.out k hlk hk10 hkl2 hlb
            obtain ⟨CF, HQ⟩ := HF.out 5 5 rfl HE (by decide)
            have CF := Lib.hid CF
            have HQ := Lib.hid HQ
            have CI := Lib.hid (isLast_any (l.getD k 0).toNat k w)
            rw [hlb] at CI
            generalize (l.getD k 0).toNat = y at *
            clear HE HF HO HN5 HN3 HN5' HX HA HS HRB hke hx1 hx2 hlk hlb
            go_wp2_with fail
            refine (CI.out).mono ?_; rintro en w' ⟨rfl, rfl⟩
            go_wp2_with fail
            refine (CF.out).mono ?_; intro en w1 hh; obtain ⟨rfl, H1, H2⟩ := hh.ret; clear hh
            have HP := Lib.hid (HQ.out _ H1.out H2.out)
            go_wp2_with fail
            exact HP.out
    · obtain rfl : k = 10 := by omega
      have HE := HN5.out hkl.out
      obtain ⟨CF, HQ⟩ := HF.out 5 5 rfl HE (by decide)
      have CF := Lib.hid CF
      have HQ := Lib.hid HQ
      clear HE HF HO HN5 HN3 HN5' HX HA HS HRB
      go_wp2_with fail
      refine (CF.out).mono ?_; intro en w1 hh; obtain ⟨rfl, H1, H2⟩ := hh.ret; clear hh
      have HP := Lib.hid (HQ.out _ H1.out H2.out)
      go_wp2_with fail
      exact HP.out
theorem rnum_nil (w : World) : Calls Try.prog 33 #[.pointer none] w fun e w' => e = .returned (.int .u64 0) ∧ w = w' := by
  go_enter Try.func33, Try.ntmps33
  go_wp2_with fail
  go_ret
  exact ⟨rfl, rfl⟩
theorem getN_lt (l : List UInt8) : (getN l).1 < 18446744073709551616 := by
  rcases h : getN l with ⟨x, r, e⟩
  rcases getN_err h with rfl | ⟨rfl, _⟩
  · exact (sev_getN h).2
  · simp
end Go.Proofs.Ytepcbklokcfbfaa.Buf
