/- Contracts of package cut (layer 18): the sets of so many of n nodes, one behind the other. -/
import Derived.RangeFuncNested
import Derived.RangeFuncBound
import Derived.RangeFuncCalls
import Derived.RangeFuncLeaves
import Derived.RangeFuncBox
import Derived.Shelf.Abstract
import Derived.Shelf.RegionOpen
import Derived.OwnWalkIn
import Derived.TacticsInMore
import Derived.LoopNIn
import Derived.LoopIn
import Derived.Maps.AppendAt
import Derived.Test.YtbgigimapogkcaaDoorCutL
import Derived.Test.YtbgigimapogkcaaDoorRngB
namespace Go.Proofs.YtbgigimapogkcaaDoor.Cut
open Go.RowKit Go.Shelf Go.ChangeShapes Go.WideShapes Go.ChangeAt
open Nodes (Tabs mem allN firstN andNotN bitN ofL leastN ret_int)
set_option linter.unusedVariables false
set_option linter.unusedSimpArgs false
set_option maxRecDepth 100000
attribute [local go_sem] Oper.semAt_some
/-- What alike's closure has captured. -/
structure Alk (n k b0 b1 b2 : Nat) (W : World) : Prop where
  all : W.cell? ⟨b0, 0, none⟩ = some (.int .u64 (allN (n : Int) : Nat))
  num : W.cell? ⟨b1, 0, none⟩ = some (.int .i64 (k : Int))
  last : W.cell? ⟨b2, 0, none⟩ = some (.int .u64 (lastK n k : Nat))
/-- What the closure hands over, one after another. -/
def encS (l : List Nat) (i : Nat) : Array Value := #[.int .u64 ((l.getD i 0 : Nat) : Int)]
def natOf : Value → Nat | .int _ k => k.toNat | _ => 0
theorem drop_at {l r : List Nat} {i q : Nat} (h : l.drop i = q :: r) : i < l.length ∧ l.getD i 0 = q ∧ l.drop (i + 1) = r := by
  have hlt : i < l.length := by
    rcases Nat.lt_or_ge i l.length with h' | h'
    · exact h'
    · rw [List.drop_eq_nil_of_le h'] at h; cases h
  rw [List.drop_eq_getElem_cons hlt] at h
  injection h with h1 h2
  exact ⟨hlt, by simp [hlt, h1], h2⟩
set_option maxHeartbeats 2000000 in
theorem alike1_iter (N : Nat) (hN : 1 ≤ N) (n k b0 b1 b2 : Nat) (hk : k ≤ n) (hn : n ≤ 64) (I : Nat → World → Prop) (W : World) (hR : ∀ i W1, I i W1 → Alk n k b0 b1 b2 W1 ∧ Tabs W1) :
    Rgb.Iter Fence.wide N Tryd.prog 46 #[.pointer (some ⟨b0, 0, none⟩), .pointer (some ⟨b1, 0, none⟩), .pointer (some ⟨b2, 0, none⟩)] (setsK n k).length (encS (setsK n k)) I W := by
  intro l J Jx hJI hJB hXB hY hJ0
  have hall : allN (n : Int) < 18446744073709551616 := Nodes.setP_lt _
  have CF := Lib.hid (Nodes.first_any (allN (n : Int)) hall (k : Int) (by omega) (by omega) W)
  rw [show ((k : Int)).toNat = k by omega, first_all hk hn] at CF
  obtain ⟨⟨c0, c1, -⟩, -⟩ := hR 0 W (hJI 0 W hJ0)
  have HRF := Lib.hid (rest_first hk hn)
  have hpk : 2 ^ k - 1 < 2 ^ n := by
    have : (2 : Nat) ^ k ≤ 2 ^ n := Nat.pow_le_pow_right (by decide) hk
    have := two_pos k
    omega
  have h64 := pow64 hn
  have HP64 := Lib.hid h64
  have e := e64
  have HPK := Lib.hid hpk
  have HCK := Lib.hid (cnt_ones (k := k) (by omega))
  have HY := Lib.hid hY
  have HJB := Lib.hid hJB
  have HJI := Lib.hid hJI
  have HRD := Lib.hid hR
  have HJ0 := Lib.hid hJ0
  have hfq : 2 ^ k - 1 < 18446744073709551616 := by omega
  clear hY hJB hJI hR hJ0 hall hpk h64 e
  generalize hP : 2 ^ k - 1 = P at *
  generalize allN (n : Int) = S at c0 CF
  refine callsIn_of_wp Tryd.func46 rfl trivial ?_ rfl
  simp only [Tryd.ntmps46, List.size_toArray, List.length_cons, List.length_nil, Nat.reduceAdd, Nat.reduceSub, Array.replicate_succ, Array.replicate_zero, List.push_toArray, List.append_toArray, List.nil_append, List.cons_append]
  gi_wp2_with (refine ⟨trivial, ?_⟩; gi_at_call 45; refine (callsIn_wide.2 CF.out).mono ?_; rintro e w1 ⟨rfl, rfl⟩)
  gi_loopw [5] (fun x wr => ∃ i q : Nat, x = .int .u64 q ∧ q < 18446744073709551616 ∧ Hid ((setsK n k).drop i = restK n k q) ∧ Hid (q < 2 ^ n) ∧ Hid (cnt q = k) ∧ Hid (J i wr) ∧ W.heap.size ≤ wr.heap.size) (fun x _ => 2 ^ n - natOf x)
  case atStart => exact ⟨0, P, rfl, hfq, Lib.hid (by rw [List.drop_zero]; exact HRF.out.symm), HPK, HCK, HJ0, Nat.le_refl _⟩
  case round =>
    obtain ⟨i, q, rfl, hq, hd, hqn, hqc, hJ, hsz⟩ := hrel
    have hdd := hd.out
    have hit := rest_hit hqn.out hqc.out
    rw [hit] at hdd
    obtain ⟨hlt, hget, hdr⟩ := drop_at hdd
    obtain ⟨fn, tmps, assign, body, hy, hRo⟩ := HY.out i wr hlt hJ.out
    unfold encS at hy
    rw [hget] at hy
    by_cases hl : q = lastK n k
    · have hend : (setsK n k).length = i + 1 := by
        have := rest_last hk hn
        rw [← hl, hit] at this
        injection this with _ h2
        rw [h2] at hdr
        have := List.drop_eq_nil_iff.1 hdr
        omega
      have hne : ∀ z : Int, ((lastK n k : Nat) : Int) = z → ((q : Int) != z) = false := fun z hz => by rw [hl, hz]; simp
      have HE := Lib.hid hend
      have HN := Lib.hid (hne _ rfl)
      clear hend hne hd hdd hit hdr hget hlt hl
      generalize hLK : lastK n k = LK at *
      gi_wp2
      refine hRo.mono ?_
      rintro e W3 (⟨rfl, hJ3, hk3⟩ | ⟨rfl, hJx3, -⟩)
      · obtain ⟨⟨-, -, c2⟩, -⟩ := HRD.out (i + 1) W3 (HJI.out (i + 1) W3 hJ3)
        rw [hLK] at c2
        have HJ3 : Hid (J (setsK n k).length W3) := Lib.hid (by rw [HE.out]; exact hJ3)
        have hN := HN.out
        clear hJ3
        gi_wp2
        go_end0
        exact ⟨⟨_, rfl⟩, .inl HJ3.out⟩
      · gi_wp2
        go_end0
        exact ⟨⟨_, rfl⟩, .inr hJx3⟩
    · have hq0 : 0 < q := by
        rcases Nat.eq_zero_or_pos q with h' | h'
        · exfalso
          subst h'
          have hz : cnt 0 = 0 := by simp [cnt, Nodes.mem_zero]
          have := hqc.out
          rw [hz] at this
          subst this
          exact hl (by simp [lastK])
        · exact h'
      obtain ⟨a, p, r, hr, rfl⟩ := run_of q hq0
      obtain ⟨hx1, hx2, hx3⟩ := rest_next hn hr hqn.out hqc.out hl
      have hxl := run_lt_nxt (a := a) (p := p) hr
      have h64 := HP64.out
      have e := e64
      have hx64 : nxt a p r < 2 ^ 64 := by omega
      have hxu : nxt a p r < 18446744073709551616 := by omega
      have CN := Lib.hid (fun W hT => next_any a p r hr hx64 W hT)
      have HNE : Hid (∀ z : Int, ((lastK n k : Nat) : Int) = z → (((runN a p r : Nat) : Int) != z) = true) := Lib.hid (fun z hz => by rw [← hz]; exact bne_iff_ne.2 (by omega))
      have HD : Hid ((setsK n k).drop (i + 1) = restK n k (nxt a p r)) := Lib.hid (by
        rw [hit] at hx1
        injection hx1 with _ h2
        rw [hdr, h2])
      have HX2 := Lib.hid hx2
      have HX3 := Lib.hid hx3
      have HXL := Lib.hid hxl
      clear hd hdd hit hdr hget hlt hl hx1 hx2 hx3 hxl h64 e hx64 hqc hqn hq0
      generalize nxt a p r = q2 at *
      generalize runN a p r = q at *
      generalize hLK : lastK n k = LK at *
      gi_wp2
      refine hRo.mono ?_
      rintro e W3 (⟨rfl, hJ3, hk3⟩ | ⟨rfl, hJx3, -⟩)
      · obtain ⟨⟨-, -, c2⟩, hT3⟩ := HRD.out (i + 1) W3 (HJI.out (i + 1) W3 hJ3)
        rw [hLK] at c2
        have hN := HNE.out _ rfl
        have CN3 := Lib.hid (CN.out W3 hT3)
        have HJ3 := Lib.hid hJ3
        have hs3 : W.heap.size ≤ W3.heap.size := Nat.le_trans hsz hk3.size
        clear hJ3 hT3 hk3 CN HNE
        gi_wp2_with (refine ⟨trivial, ?_⟩; gi_at_call 47; refine (callsIn_wide.2 CN3.out).mono ?_; rintro e w4 ⟨rfl, hB4⟩)
        go_roundw
        case rel => exact ⟨i + 1, q2, rfl, hxu, HD, HX2, HX3, Lib.hid (HJB.out _ _ _ HJ3.out (hB4.mono hs3)), Nat.le_trans hs3 hB4.size⟩
        case measure => have := HXL.out; have := HX2.out; simp [natOf]; omega
      · clear CN HNE
        gi_wp2
        go_end0
        exact ⟨⟨_, rfl⟩, .inr hJx3⟩
end Go.Proofs.YtbgigimapogkcaaDoor.Cut
