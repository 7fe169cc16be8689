/- Contracts of package mend (layer 27): what a list tells; a row of some; the clocks of a set; a clock's readings. -/
import Derived.Test.YtkcjllkhmncfdaaDoorMndM
import Derived.Test.YtkcjllkhmncfdaaDoorI64A
import Derived.Test.YtkcjllkhmncfdaaDoorEachL
import Derived.OwnWalk
import Derived.Deep.Cut
namespace Go.Proofs.YtkcjllkhmncfdaaDoor.Mnd
open Go.ChangeShapes Go.WideShapes Go.ChangeAt Go.RowKit
open I64s (Sl OwnL ListPost app_one)
open Nodes (Tabs allN setP_lt and_lt)
set_option linter.unusedVariables false
set_option linter.unusedSimpArgs false
theorem ret_i {k : IntKind} {a b : Int} (h : a = b) : Ending.returned (.int k a) = .returned (.int k b) := by rw [h]
theorem told_any (ad : Option Addr) (cap : Nat) (zs : List Int) (k : Nat) (w : World) (h : Sl w ad cap zs) (hk : k ≤ 1000000) :
    Calls Tryd.prog 19 #[.slice ad zs.length cap, .int .i64 (k : Int)] w fun e w' => e = .returned (.int .i64 (tld zs k)) ∧ w = w' := by
  have hle := h.le
  have hmx := h.mx
  by_cases hlt : k < zs.length
  · obtain ⟨b, off, rfl, hc⟩ := h.at hlt
    have c1 := hc w (Below.refl _ _)
    have HT := Lib.hid (show tld zs k = min (max (zs.getD k 0) (-1099511627776)) 1099511627776 by unfold tld kp; rw [if_pos hlt])
    generalize zs.getD k 0 = z at *
    generalize tld zs k = v at *
    generalize zs.length = n at *
    clear h hc
    go_enter Tryd.func19, Tryd.ntmps19
    go_wp2_with fail
    all_goals (go_ret; exact ⟨ret_i (by have := HT.out; omega), rfl⟩)
  · have HT := Lib.hid (show tld zs k = 0 by unfold tld; rw [if_neg hlt])
    generalize tld zs k = v at *
    generalize zs.length = n at *
    have d1 : decide ((n : Int) ≤ (k : Int)) = true := decide_eq_true (by omega)
    clear h
    go_enter Tryd.func19, Tryd.ntmps19
    go_wp2_with fail
    go_ret
    exact ⟨ret_i HT.out.symm, rfl⟩
/-! Lists of lists. -/
structure Rw where
  ad : Option Addr
  cap : Nat
  zs : List Int
instance : Inhabited Rw := ⟨⟨none, 0, []⟩⟩
structure LL (w : World) (ad : Option Addr) (rs : List Rw) : Prop where
  rd : rs = [] ∨ ∃ b off, ad = some ⟨b, off, none⟩ ∧ b < w.heap.size ∧ ∀ i, i < rs.length → w.cell? ⟨b, off + i, none⟩ = some (.slice (rs.getD i default).ad (rs.getD i default).zs.length (rs.getD i default).cap)
  each : ∀ r ∈ rs, Sl w r.ad r.cap r.zs
theorem sl_none (w : World) : Sl w none 0 [] := ⟨.inl rfl, Nat.le_refl _, by omega, fun _ => rfl⟩
theorem LL.nil (w : World) (ad : Option Addr) : LL w ad [] := ⟨.inl rfl, fun r hr => by cases hr⟩
theorem LL.below {w W : World} {ad : Option Addr} {rs : List Rw} (h : LL w ad rs) (hB : Below w.heap.size w W) : LL W ad rs := by
  refine ⟨?_, fun r hr => (h.each r hr).below hB⟩
  rcases h.rd with e | ⟨b, off, e, hb, hc⟩
  · exact .inl e
  · exact .inr ⟨b, off, e, Nat.lt_of_lt_of_le hb hB.size, fun i hi => (hB.cell (p := ⟨b, off + i, none⟩) hb).trans (hc i hi)⟩
theorem LL.sl {w : World} {ad : Option Addr} {rs : List Rw} (h : LL w ad rs) (p : Nat) : Sl w (rs.getD p default).ad (rs.getD p default).cap (rs.getD p default).zs := by
  by_cases hp : p < rs.length
  · have e : rs.getD p default = rs[p] := by simp [List.getD, hp]
    rw [e]
    exact h.each _ (List.getElem_mem hp)
  · have e : rs.getD p default = default := by simp [List.getD, hp]
    rw [e]
    exact sl_none w
theorem row_is (rs : List Rw) (p : Nat) : (rs.getD p default).zs = rowN (rs.map Rw.zs) p := by
  unfold rowN
  by_cases hp : p < rs.length
  · simp [List.getD, hp]
  · simp [List.getD, hp]; rfl
theorem row_any (ad : Option Addr) (cap : Nat) (rs : List Rw) (p : Nat) (w : World) (h : LL w ad rs) (hp : p ≤ 1000000) :
    Calls Tryd.prog 18 #[.slice ad rs.length cap, .int .i64 (p : Int)] w fun e w' => e = .returned (.slice (rs.getD p default).ad (rs.getD p default).zs.length (rs.getD p default).cap) ∧ w = w' := by
  by_cases hlt : p < rs.length
  · rcases h.rd with rfl | ⟨b, off, rfl, hb, hc⟩
    · simp at hlt
    · have c1 := hc p hlt
      generalize rs.getD p default = r at *
      generalize rs.length = n at *
      have d1 : decide ((n : Int) ≤ (p : Int)) = false := decide_eq_false (by omega)
      clear h hc
      go_enter Tryd.func18, Tryd.ntmps18
      go_wp2_with fail
      go_ret
      exact ⟨rfl, rfl⟩
  · have e : rs.getD p default = default := by simp [List.getD, hlt]
    rw [e]
    generalize rs.length = n at *
    have d1 : decide ((n : Int) ≤ (p : Int)) = true := decide_eq_true (by omega)
    clear h e
    go_enter Tryd.func18, Tryd.ntmps18
    go_wp2_with fail
    go_ret
    exact ⟨rfl, rfl⟩
/-! The clocks of a set. -/
def natI (l : List Nat) : List Int := l.map fun j : Nat => (j : Int)
theorem natI_len (l : List Nat) : (natI l).length = l.length := by simp [natI]
theorem natI_at (l : List Nat) (k : Nat) : (natI l).getD k 0 = ((l.getD k 0 : Nat) : Int) := by
  unfold natI
  by_cases hk : k < l.length <;> simp [List.getD, hk]
theorem those_any (ad : Option Addr) (n cap : Nat) (S : Nat) (hS : S < 18446744073709551616) (w : World) (hn : n ≤ 1000000) (hT : Tabs w) :
    Calls Tryd.prog 15 #[.slice ad n cap, .int .u64 S] w (Nodes.ListPost (natI (whoL S n)) w) := by
  have CA := Lib.hid (fun W => Nodes.all_any (n : Int) (by omega) (by omega) W)
  have CL := Lib.hid (fun W (hT : Tabs W) => Nodes.list_any (S &&& allN n) (and_lt _ hS) W hT)
  have H := Lib.hid (u64_and_nat S (allN n) hS (setP_lt _))
  have HT := Lib.hid hT
  have HW := Lib.hid (show Nodes.memI (S &&& allN n) = natI (whoL S n) from rfl)
  rw [HW.out] at CL
  unfold Nodes.ListPost at CL ⊢
  generalize natI (whoL S n) = l at *
  clear hT HW
  go_enter Tryd.func15, Tryd.ntmps15
  go_wp2_with fail
  refine (CA.out _).mono ?_; rintro e w' ⟨rfl, rfl⟩
  go_wp2_with fail
  rw [H.out]
  refine (CL.out _ HT.out).mono ?_; rintro e w1 ⟨ad', cap', rfl, hown, hB⟩
  have HO := Lib.hid hown
  have HB := Lib.hid hB
  clear hown hB
  go_wp2_with fail
  go_ret
  exact ⟨ad', cap', rfl, HO.out, HB.out⟩
/-! A clock's readings. -/
theorem wrap_id {x : Int} (h1 : -9223372036854775808 ≤ x) (h2 : x ≤ 9223372036854775807) : IntKind.i64.wrap x = x := by
  rw [IntKind.wrap_i64]; omega
theorem readings_any (adc : Option Addr) (capc : Nat) (c : List Int) (adw : Option Addr) (capw : Nat) (who : List Nat) (ade : Option Addr) (cape : Nat) (err : List Int) (p : Nat) (w : World)
    (hc : Sl w adc capc c) (hw : Nodes.Rd w adw (natI who)) (he : Sl w ade cape err) (hm : who.length ≤ 64) (h64 : ∀ q ∈ who, q < 64) (hp : p ≤ 1000000) :
    Calls Tryd.prog 17 #[.slice adc c.length capc, .slice adw who.length capw, .slice ade err.length cape, .int .i64 (p : Int)] w (ListPost (rdgs c err p who) w) := by
  obtain ⟨i0, hi, hz0, hz1, hz2⟩ := I64s.info_parts
  obtain ⟨m, hmm⟩ : ∃ m, who.length = m := ⟨_, rfl⟩
  have CC := Lib.hid (fun W k (hB : Below w.heap.size w W) (hk : k ≤ 1000000) => told_any adc capc c k W (hc.below hB) hk)
  have CE := Lib.hid (fun W k (hB : Below w.heap.size w W) (hk : k ≤ 1000000) => told_any ade cape err k W (he.below hB) hk)
  have HW : Hid (∀ W k, k < m → Below w.heap.size w W → ∃ b off, adw = some ⟨b, off, none⟩ ∧ W.cell? ⟨b, off + k, none⟩ = some (.int .i64 ((who.getD k 0 : Nat) : Int))) := Lib.hid (fun W k hk hB => by
    obtain ⟨b, off, e, h⟩ := (hw.below hB).at (k := k) (by rw [natI_len]; omega)
    rw [natI_at] at h
    exact ⟨b, off, e, h⟩)
  have H64 : Hid (∀ k, k < m → who.getD k 0 < 64) := Lib.hid (fun k hk => by
    have e : who.getD k 0 = who[k] := by simp [List.getD, show k < who.length by omega]
    rw [e]; exact h64 _ (List.getElem_mem _))
  have HS : Hid (∀ k, k < m → rdgs c err p (who.take k) ++ [rdg c err p (who.getD k 0)] = rdgs c err p (who.take (k + 1))) := Lib.hid (fun k hk => rdgs_snoc c err p (by omega))
  have HL : Hid (∀ k, k ≤ m → (rdgs c err p (who.take k)).length = k) := Lib.hid (fun k hk => by rw [rdgs_len, List.length_take]; omega)
  have HZ := Lib.hid (show rdgs c err p (who.take 0) = [] by simp [rdgs])
  have HE : Hid (rdgs c err p (who.take m) = rdgs c err p who) := Lib.hid (by rw [← hmm, List.take_length])
  have B1 := tld_bd c p
  have hlc : Hid (c.length = c.length) := Lib.hid rfl
  rw [hmm] at hm ⊢
  clear hc hw he h64 hmm hlc
  unfold ListPost
  generalize c.length = nc at *
  generalize err.length = ne at *
  go_enter Tryd.func17, Tryd.ntmps17
  go_upto_region 2 with (at_make; refine wpList_make_own _ rfl _ _ 27 rfl w.heap.size 2 i0 (.int .i64 0) 1 Tryd.underlying27 hi hz0 hz1 .i64 .i64 _ m rfl rfl rfl (by rw [hz2]; omega) (by unfold maxLen; omega) (Nat.le_refl _) ?_; intro w1 hown1 hg1)
  have HB1 : Hid (Below w.heap.size w w1) := Lib.hid ((Below.refl _ _).grown hg1 (Nat.le_refl _) (fun j hj => by cases hj))
  have HO1 : Hid (OwnL w1 w.heap.size (.slice (some ⟨w.heap.size, 0, none⟩) 0 m) (rdgs c err p (who.take 0))) := Lib.hid (by rw [HZ.out]; exact hown1)
  clear hown1 hg1 HZ
  generalize Value.slice (some ⟨w.heap.size, 0, none⟩) 0 m = v0 at *
  go_wp2_with fail
  go_loopw [17, 9] (fun i v wr => ∃ k : Nat, k ≤ m ∧ i = .int .i64 k ∧ Hid (OwnL wr w.heap.size v (rdgs c err p (who.take k))) ∧ Hid (Below w.heap.size w wr)) (fun i _ _ => m - (intOf i).toNat)
  case atStart => exact ⟨0, Nat.zero_le _, rfl, HO1, HB1⟩
  case round =>
    clear HO1 HB1
    obtain ⟨k, hk, rfl, HO, HB⟩ := hrel
    by_cases hlt : k < m
    · obtain ⟨b, off, rfl, c1⟩ := HW.out wr k hlt HB.out
      have hq := H64.out k hlt
      have hown := HO.out
      have hsz := HB.out.size
      have hlen : (rdgs c err p (who.take k)).length < 1099511627776 := by rw [HL.out k (by omega)]; omega
      have C1 := Lib.hid (CC.out wr (who.getD k 0) HB.out (by omega))
      have C2 := Lib.hid (CC.out wr p HB.out hp)
      have C3 := Lib.hid (CE.out wr (who.getD k 0) HB.out (by omega))
      have HSk := HS.out k hlt
      have B2 := tld_bd c (who.getD k 0)
      have B3 := tld_bd err (who.getD k 0)
      have HR := Lib.hid (show rdg c err p (who.getD k 0) = tld c (who.getD k 0) - tld c p + tld err (who.getD k 0) from rfl)
      generalize rdg c err p (who.getD k 0) = r at *
      generalize tld c (who.getD k 0) = x at *
      generalize tld err (who.getD k 0) = z at *
      generalize tld c p = y at *
      generalize who.getD k 0 = q at *
      clear CC CE HW H64 HS HO
      go_wp2_with fail
      refine (C1.out).mono ?_; rintro e w' ⟨rfl, rfl⟩
      go_wp2_with fail
      refine (C2.out).mono ?_; rintro e w' ⟨rfl, rfl⟩
      go_wp2_with fail
      refine (C3.out).mono ?_; rintro e w' ⟨rfl, rfl⟩
      go_wp2_with (at_builtin; refine app_one rfl _ _ rfl w.heap.size _ _ rfl hown _ rfl hlen hsz ?_; intro v' w2 hown' hB2 _ _)
      rw [← HR.out, HSk] at hown'
      have HO2 := Lib.hid hown'
      have HB2 := Lib.hid (HB.out.trans hB2)
      clear hown' hB2
      go_roundw
      case rel => exact ⟨k + 1, by omega, by go_num, HO2, HB2⟩
      case measure => simp [intOf]; omega
    · obtain rfl : k = m := by omega
      have HO2 := HO.out
      rw [HE.out] at HO2
      have hL := HL.out k (Nat.le_refl _)
      rw [HE.out] at hL
      obtain ⟨ad, cp, rfl, -⟩ := Own.shape HO2
      have HO3 := Lib.hid HO2
      clear HO HO2
      go_wp2_with fail
      go_ret
      exact ⟨ad, cp, rfl, HO3.out, HB.out⟩
end Go.Proofs.YtkcjllkhmncfdaaDoor.Mnd
