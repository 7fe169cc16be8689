/- Contracts of package mend (layer 27): Spread. -/
import Derived.Test.YtkcjllkhmncfdaaDoorMndA
namespace Go.Proofs.YtkcjllkhmncfdaaDoor.Mnd
open Go.ChangeShapes Go.WideShapes Go.ChangeAt Go.RowKit
open I64s (Sl OwnL ListPost app_one)
open Nodes (Tabs allN setP_lt and_lt)
set_option linter.unusedVariables false
set_option linter.unusedSimpArgs false
theorem ret_ib {a b : Int} {p q : Bool} (h : a = b) (h' : p = q) : Ending.returned (.tuple #[.int .i64 a, .bool p]) = .returned (.tuple #[.int .i64 b, .bool q]) := by rw [h, h']
set_option maxHeartbeats 2000000 in
theorem spread_any (ad : Option Addr) (cap : Nat) (c : List Int) (S : Nat) (w : World) (hc : Sl w ad cap c) (hS : S < 18446744073709551616) (hn : c.length ≤ 1000) (hT : Tabs w) :
    Calls Tryd.prog 8 #[.slice ad c.length cap, .int .u64 (S : Int)] w fun e w' => e = .returned (.tuple #[.int .i64 (sprV c (whoL S c.length)), .bool (sprB (whoL S c.length))]) ∧ Below w.heap.size w w' := by
  have CW := Lib.hid (those_any ad c.length cap S hS w (by omega) hT)
  have CT := Lib.hid (fun W k (hB : Below w.heap.size w W) (hk : k ≤ 1000000) => told_any ad cap c k W (hc.below hB) hk)
  have hwl := who_le S c.length
  have hwm : ∀ q ∈ whoL S c.length, q < 64 := fun q hq => (who_mem.1 hq).1
  unfold Nodes.ListPost at CW
  generalize whoL S c.length = who at *
  rw [natI_len] at CW
  have H64 : Hid (∀ k, k < who.length → who.getD k 0 < 64) := Lib.hid (fun k hk => by
    have e : who.getD k 0 = who[k] := by simp [List.getD, hk]
    rw [e]; exact hwm _ (List.getElem_mem _))
  obtain ⟨m, hm⟩ : ∃ m, who.length = m := ⟨_, rfl⟩
  have HLs : Hid (∀ k, k < m → min (loW c who k) (tld c (who.getD k 0)) = loW c who (k + 1)) := Lib.hid (fun k hk => loW_succ c (by omega))
  have HHs : Hid (∀ k, k < m → max (hiW c who k) (tld c (who.getD k 0)) = hiW c who (k + 1)) := Lib.hid (fun k hk => hiW_succ c (by omega))
  have HLz := Lib.hid (loW_zero c who)
  have HHz := Lib.hid (hiW_zero c who)
  have HLb : Hid (∀ k, k ≤ m → 0 < m → -1099511627776 ≤ loW c who k ∧ loW c who k ≤ 1099511627776) := Lib.hid (fun k hk h0 => loW_bd c who k (by omega) (by omega))
  have HHb : Hid (∀ k, k ≤ m → 0 < m → -1099511627776 ≤ hiW c who k ∧ hiW c who k ≤ 1099511627776) := Lib.hid (fun k hk h0 => hiW_bd c who k (by omega) (by omega))
  have HV : Hid (0 < m → sprV c who = hiW c who m - loW c who m) := Lib.hid (fun h => by unfold sprV; rw [if_pos (by omega), hm])
  have HV0 : Hid (m = 0 → sprV c who = 0) := Lib.hid (fun h => by unfold sprV; rw [if_neg (by omega)])
  have HB : Hid (sprB who = decide (0 < m)) := Lib.hid (by unfold sprB; rw [hm])
  have HRd : Hid (∀ W adw, Nodes.Rd W adw (natI who) → ∀ k, k < m → ∃ b off, adw = some ⟨b, off, none⟩ ∧ W.cell? ⟨b, off + k, none⟩ = some (.int .i64 ((who.getD k 0 : Nat) : Int))) := Lib.hid (fun W adw h k hk => by
    obtain ⟨b, off, e, h⟩ := h.at (k := k) (by rw [natI_len]; omega)
    rw [natI_at] at h
    exact ⟨b, off, e, h⟩)
  rw [hm] at CW hwl H64
  generalize sprV c who = v at *
  generalize sprB who = bb at *
  generalize c.length = n at *
  clear hc hm hwm hT
  by_cases h0 : m = 0
  · have HVz := Lib.hid (HV0.out h0)
    have HBz := Lib.hid (show bb = false by rw [HB.out, h0]; rfl)
    subst h0
    clear HV0 HV HB HLs HHs HLb HHb H64 HRd CT HLz HHz
    go_enter Tryd.func8, Tryd.ntmps8
    go_wp2_with fail
    refine (CW.out).mono ?_; rintro e w1 ⟨adw, capw, rfl, hown1, hB1⟩
    have HB1 := Lib.hid hB1
    clear hown1 hB1
    go_wp2_with fail
    go_ret2
    exact ⟨ret_ib HVz.out.symm HBz.out.symm, HB1.out⟩
  · have hpos : 0 < m := by omega
    have d0 : ((m : Int) == 0) = false := beq_eq_false_iff_ne.2 (by omega)
    have HVp := Lib.hid (HV.out hpos)
    have HBp := Lib.hid (show bb = true by rw [HB.out]; exact decide_eq_true hpos)
    have HQ0 := Lib.hid (H64.out 0 hpos)
    clear h0 HV HV0 HB
    generalize hgl : loW c who = lo at *
    generalize hgh : hiW c who = hi at *
    go_enter Tryd.func8, Tryd.ntmps8
    go_wp2_with fail
    refine (CW.out).mono ?_; rintro e w1 ⟨adw, capw, rfl, hown1, hB1⟩
    have HB1 := Lib.hid hB1
    have HR1 := Lib.hid (HRd.out w1 adw hown1.rd.1)
    have CT1 : Hid (∀ k : Nat, k ≤ 1000000 → Calls Tryd.prog 19 #[.slice ad n cap, .int .i64 (k : Int)] w1 fun e w' => e = .returned (.int .i64 (tld c k)) ∧ w1 = w') := Lib.hid (fun k hk => CT.out w1 k HB1.out hk)
    clear hown1 hB1 HRd CT CW hgl hgh
    obtain ⟨b, off, rfl, c0⟩ := HR1.out 0 hpos
    rw [Nat.add_zero] at c0
    have C0 := Lib.hid (CT1.out (who.getD 0 0) (by have := HQ0.out; omega))
    have HL0 := Lib.hid (HLz.out.symm)
    have HH0 := Lib.hid (HHz.out.symm)
    generalize who.getD 0 0 = q0 at C0 c0 HL0 HH0
    generalize tld c q0 = x0 at C0 HL0 HH0
    clear HQ0 HLz HHz
    go_wp2_with fail
    refine (C0.out).mono ?_; rintro e w' ⟨rfl, rfl⟩
    go_wp2_with fail
    go_loopw [25, 7, 8] (fun i l h wr => ∃ (k : Nat) (x y : Int), k ≤ m ∧ i = .int .i64 k ∧ l = .int .i64 x ∧ h = .int .i64 y ∧ Hid (x = lo k) ∧ Hid (y = hi k) ∧ Hid (wr = w1)) (fun i _ _ _ => m - (intOf i).toNat)
    case atStart => exact ⟨0, x0, x0, Nat.zero_le _, rfl, rfl, rfl, HL0, HH0, Lib.hid rfl⟩
    case round =>
      clear HL0 HH0 C0 c0
      obtain ⟨k, x, y, hk, rfl, rfl, rfl, HX, HY, HW⟩ := hrel
      obtain rfl := HW.out
      clear HW
      by_cases hlt : k < m
      · obtain ⟨b', off', e', c1⟩ := HR1.out k hlt
        simp only [Option.some.injEq, Addr.mk.injEq] at e'
        obtain ⟨rfl, rfl, -⟩ := e'
        have hq := H64.out k hlt
        have C1 := Lib.hid (CT1.out (who.getD k 0) (by omega))
        have L1 := HLs.out k hlt
        have H1 := HHs.out k hlt
        generalize tld c (who.getD k 0) = z at *
        generalize who.getD k 0 = q at *
        have L2 := Lib.hid L1
        have H2 := Lib.hid H1
        clear L1 H1 HLs HHs HLb HHb HR1 CT1 H64
        go_wp2_with fail
        refine (C1.out).mono ?_; rintro e w' ⟨rfl, rfl⟩
        go_wp2_with fail
        all_goals (refine (C1.out).mono ?_; rintro e w' ⟨rfl, rfl⟩; go_wp2_with fail)
        all_goals
          go_roundw
          case rel => exact ⟨k + 1, _, _, by omega, by go_num, rfl, rfl, Lib.hid (by have := L2.out; have := HX.out; omega), Lib.hid (by have := H2.out; have := HY.out; omega), Lib.hid (by trivial)⟩
          case measure => simp [intOf]; omega
      · obtain rfl : k = m := by omega
        have l1 := HLb.out k hk hpos
        have l2 := HHb.out k hk hpos
        rw [← HX.out] at l1
        rw [← HY.out] at l2
        have HVx := Lib.hid (show v = y - x by rw [HVp.out, HX.out, HY.out])
        clear HLs HHs HLb HHb HR1 CT1 H64
        go_wp2_with fail
        go_ret2
        exact ⟨ret_ib (by have := HVx.out; omega) HBp.out.symm, HB1.out⟩
end Go.Proofs.YtkcjllkhmncfdaaDoor.Mnd
